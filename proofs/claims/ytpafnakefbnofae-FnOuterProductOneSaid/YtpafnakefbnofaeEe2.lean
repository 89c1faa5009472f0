import Derived.Test.YtpafnakefbnofaeEe1
import Derived.Test.YtpafnakefbnofaeProg
import Derived.Test.YtpafnakefbnofaeChecked
open Go Go.Ab Go.Proofs
set_option maxRecDepth 100000
set_option linter.unusedVariables false
set_option linter.unusedSimpArgs false
namespace Go.Ab
namespace spec_around
noncomputable def E : Entry := ⟨50, true, false, fun | [.d (.ints .i64 sh), .d (.int .i64 k)] => validS sh && axOk sh k | _ => false, fun | [.d (.ints .i64 sh), .d (.int .i64 k)] => ([.one ((.int .i64 ((befN sh k.toNat : Nat) : Int)), false), .one ((.int .i64 ((behN sh k.toNat : Nat) : Int)), false)], []) | _ => ([], []), fun _ => [], false, fun _ => none⟩
end spec_around
namespace spec_around
noncomputable def X : List Entry := [spec_volume.E]
noncomputable def I : List Inl := [⟨50, Try.f50, ⟨[], [], [], [(1, [0, 1, 4, 5, 6, 2, 3, 7, 8, 9, 10])], [], []⟩⟩]
theorem I_ok : ∀ i ∈ I, Try.prog.funcs[i.f]? = some i.fn ∧ (i.fn.name == "runtime.NumGoroutine") = false := by
  intro i hi
  simp only [I, List.mem_cons, List.not_mem_nil, or_false] at hi
  subst hi
  exact ⟨by kernel_rfl, by kernel_rfl⟩
theorem e (fuel : Nat) (p0 : List Int) (p1 : Int) : runF Try.prog X I 0 fuel 50 Try.f50 [.d (.ints .i64 p0), .d (.int .i64 p1)] =
  (cutEnds p0.length (none) (some (.imm (.int .i64 p1)))).bind fun cq1 =>
  (bif decide ((((p0.drop cq1.1).take (cq1.2 - cq1.1))).length < 9223372036854775808) then
  (cutEnds p0.length (some (.imm (.int .i64 (IntKind.wrap .i64 (p1 + 1))))) (none)).bind fun cq2 =>
  (bif decide ((((p0.drop cq2.1).take (cq2.2 - cq2.1))).length < 9223372036854775808) then
  some ([.one ((.int .i64 (volW (((p0.drop cq1.1).take (cq1.2 - cq1.1))))), false), .one ((.int .i64 (volW (((p0.drop cq2.1).take (cq2.2 - cq2.1))))), false)], [])
  else
  none)
  else
  none) := by kernel_rfl
end spec_around
theorem spec_around.ok_of (hX : ∀ E ∈ spec_around.X, CallSpec Try.prog E) (h : ∀ (sh : List Int) (k : Int), (validS sh && axOk sh k) = true → ∃ fuel, runF Try.prog spec_around.X spec_around.I 0 fuel 50 Try.f50 [.d (.ints .i64 sh), .d (.int .i64 k)] = some ([.one ((.int .i64 ((befN sh k.toNat : Nat) : Int)), false), .one ((.int .i64 ((behN sh k.toNat : Nat) : Int)), false)], [])) : CallSpec Try.prog spec_around.E :=
  callSpec_of (d := 0) hX (by kernel_rfl) spec_around.I_ok (by kernel_rfl) (by kernel_rfl) (by kernel_rfl) (fun _ _ _ _ h => by dsimp only [spec_around.E] at h; cases h) (fun xs hp => by
    dsimp only [spec_around.E] at hp ⊢
    split at hp
    · exact h _ _ hp
    · cases hp)
theorem spec_around.ok : CallSpec Try.prog spec_around.E := spec_around.ok_of (by simp [spec_around.X, spec_volume.ok]) fun sh k h => ⟨0, by
  rw [spec_around.e]
  simp only [Bool.and_eq_true] at h
  obtain ⟨e1, e2⟩ := axOk_nat h.2
  have ax := ax_of h.1 e2
  have hr := ax.rank
  generalize k.toNat = j at *
  subst e1
  rw [cut_hi (by omega), w1 (by omega), cut_lo (by omega)]
  simp only [Option.bind_some, List.drop_zero, Nat.sub_zero, drop_take]
  rw [lt_of (by simp; omega), lt_of (by simp; omega), ax.bef, ax.beh]
  rfl⟩

namespace spec_lane
noncomputable def E : Entry := ⟨51, false, false, fun | [.d (.agg [(.ints .i64 sh), (.ints .i64 da)]), .d (.int .i64 k), .d (.int .i64 i), .d (.int .i64 m)] => axB sh da k && laneB sh k i m | _ => false, fun | [.d (.agg [(.ints .i64 sh), (.ints .i64 da)]), .d (.int .i64 k), .d (.int .i64 i), .d (.int .i64 m)] => ([.one ((.ints .i64 (lnK sh da k (Int.toNat i) (Int.toNat m))), true)], []) | _ => ([], []), fun _ => [], true, fun _ => none⟩
end spec_lane
namespace spec_lane
noncomputable def X : List Entry := [spec_around.E]
noncomputable def I : List Inl := [⟨51, Try.f51, ⟨[], [(1000004, [0, 5, 6, 7, 8, 10, 13, 14, 15, 16, 17, 18, 19, 20, 21, 22, 23, 24, 25, 26, 27, 28, 29, 30, 31, 32, 33, 34, 35, 36, 37, 38, 39, 40, 41, 42, 43, 44, 45, 46, 47, 48, 49, 50])], [], [(6, [0, 1, 3, 4, 6, 10, 12, 14, 2, 5, 7, 8, 9, 11, 13, 15, 16, 17, 18, 19, 20])], [], []⟩⟩]
theorem I_ok : ∀ i ∈ I, Try.prog.funcs[i.f]? = some i.fn ∧ (i.fn.name == "runtime.NumGoroutine") = false := by
  intro i hi
  simp only [I, List.mem_cons, List.not_mem_nil, or_false] at hi
  subst hi
  exact ⟨by kernel_rfl, by kernel_rfl⟩
noncomputable abbrev L0 (fuel n : Nat) (s : St) (k : Kont) := lAt Try.prog X I fuel true 0 false 51 (bodyOf Try.f51) [1, 1, 1, 0, 1, 0] n s k
noncomputable abbrev k0  (fuel : Nat) : Kont := (kAt Try.prog X I fuel true 0 false 51 (bodyOf Try.f51) [1, 1, 1, 0, 1, 0] [] (endK Try.prog Try.f51))
noncomputable def t0 (p1 : Int) (p2 : Int) (p3 : Int) (p0q0 : List Int) (p0q1 : List Int) (x0q4 : Int) (x0q7 : List Int) : St := ⟨[.dead, (.imm (.int .i64 p1)), (.imm (.int .i64 p2)), (.imm (.int .i64 p3)), (.ptr 1000000000 0 0), .dead, .dead, .dead, .dead, (.all 1000000001 1), .dead, (.imm (.int .i64 ((behN p0q0 p1.toNat : Nat) : Int))), (.imm (.int .i64 x0q4)), .dead, .dead, .dead, .dead, .dead, .dead, .dead, .dead, .dead, .dead, .dead, .dead, .dead, .dead, .dead, .dead, .dead, .dead, .dead, .dead, .dead, .dead, .dead, .dead, .dead, .dead, .dead, .dead, .dead, .dead, .dead, .dead, .dead, .dead, .dead, .dead, .dead, .dead], hOf [(1000000000, (.box [(.imm (.ints .i64 p0q0)), (.imm (.ints .i64 p0q1))])), (1000000001, (.ints .i64 x0q7))], [], []⟩
theorem e (fuel : Nat) (p0q0 : List Int) (p0q1 : List Int) (p1 : Int) (p2 : Int) (p3 : Int) : runF Try.prog X I 0 fuel 51 Try.f51 [.d (.agg [(.ints .i64 p0q0), (.ints .i64 p0q1)]), .d (.int .i64 p1), .d (.int .i64 p2), .d (.int .i64 p3)] =
  (bif validS p0q0 && axOk p0q0 p1 then
  L0 fuel fuel (t0 p1 p2 p3 p0q0 p0q1 0 ([])) (k0  fuel)
  else
  none) := by kernel_rfl
theorem s0 (fuel n0 : Nat) (p1 : Int) (p2 : Int) (p3 : Int) (p0q0 : List Int) (p0q1 : List Int) (x0q4 : Int) (x0q7 : List Int) : L0 fuel (n0 + 1) (t0 p1 p2 p3 p0q0 p0q1 x0q4 x0q7) (k0  fuel) =
  (idx p1 p0q0.length).bind fun j13 =>
  (p0q0[j13]?).bind fun v14 =>
  (bif (decide ((x0q4 : Int) < v14)) then
  (idx p1 p0q0.length).bind fun j15 =>
  (p0q0[j15]?).bind fun v16 =>
  (idx (IntKind.wrap .i64 ((IntKind.wrap .i64 ((IntKind.wrap .i64 ((IntKind.wrap .i64 (p2 * v16)) + x0q4)) * ((behN p0q0 p1.toNat : Nat) : Int))) + p3)) p0q1.length).bind fun j17 =>
  (p0q1[j17]?).bind fun v18 =>
  (bif fits (x0q7.length + ([v18] : List Int).length) 8 then
  L0 fuel n0 (t0 p1 p2 p3 p0q0 p0q1 ((IntKind.wrap .i64 (x0q4 + 1))) ((x0q7 ++ [v18]))) (k0  fuel)
  else
  none)
  else
  some ([.one ((.ints .i64 x0q7), true)], [])) := by kernel_rfl
end spec_lane
theorem spec_lane.ok_of (hX : ∀ E ∈ spec_lane.X, CallSpec Try.prog E) (h : ∀ (sh : List Int) (da : List Int) (k : Int) (i : Int) (m : Int), (axB sh da k && laneB sh k i m) = true → ∃ fuel, runF Try.prog spec_lane.X spec_lane.I 0 fuel 51 Try.f51 [.d (.agg [(.ints .i64 sh), (.ints .i64 da)]), .d (.int .i64 k), .d (.int .i64 i), .d (.int .i64 m)] = some ([.one ((.ints .i64 (lnK sh da k (Int.toNat i) (Int.toNat m))), true)], [])) : CallSpec Try.prog spec_lane.E :=
  callSpec_of (d := 0) hX (by kernel_rfl) spec_lane.I_ok (by kernel_rfl) (by kernel_rfl) (by kernel_rfl) (fun _ _ _ _ h => by dsimp only [spec_lane.E] at h; cases h) (fun xs hp => by
    dsimp only [spec_lane.E] at hp ⊢
    split at hp
    · exact h _ _ _ _ _ hp
    · cases hp)
theorem spec_lane.loop (fuel : Nat) (sh da : List Int) (k i m : Nat) (ax : Ax sh k) (hd : da.length = befN sh k * lenN sh k * behN sh k) (hi : i < befN sh k) (hm : m < behN sh k) (hf : 60 < fuel) :
    spec_lane.L0 fuel fuel (spec_lane.t0 (k : Int) (i : Int) (m : Int) sh da 0 []) (spec_lane.k0 fuel) = some ([.one ((.ints .i64 (lnD (lenN sh k) (behN sh k) da i m)), true)], []) := by
  have hL := ax.len_le
  have hlk := ax.lt
  have hle := ax.le
  refine run_loop (N := lenN sh k) (fun n j out => spec_lane.L0 fuel n (spec_lane.t0 (k : Int) (i : Int) (m : Int) sh da (j : Int) out) (spec_lane.k0 fuel)) (fun j out => out = tab j fun j => da.getD ((i * lenN sh k + j) * behN sh k + m) 0) ?_ ?_ fuel 0 [] (by omega) (by omega) rfl
  · intro n out ho
    change out = lnD (lenN sh k) (behN sh k) da i m at ho
    rw [spec_lane.s0, idx_nat hlk]
    simp only [Option.bind_some, getD_get hlk, ax.len]
    rw [decide_eq_false (by omega), ho]
    rfl
  · intro n j out hj ho
    have hl : out.length = j := by rw [ho, tab_length]
    obtain ⟨e1, _, _, _⟩ := enc3 hi hj hm
    have hx : i * lenN sh k + j ≤ 1000000000 := by
      have h2 := ax.bef_le
      have : i * lenN sh k ≤ 3600 * 60 := Nat.mul_le_mul (by omega) hL
      omega
    rw [spec_lane.s0, idx_nat hlk]
    simp only [Option.bind_some, getD_get hlk, ax.len]
    rw [dlt hj, cond_true, Int.toNat_natCast, wIdx hx (by omega), idx_nat (by omega), w1 (by omega)]
    simp only [Option.bind_some, getD_get (show (i * lenN sh k + j) * behN sh k + m < da.length by omega)]
    rw [fitsOk (by simp only [List.length_cons, List.length_nil]; omega), cond_true]
    exact ⟨_, by rw [tab_succ, ho], rfl⟩
theorem spec_lane.ok : CallSpec Try.prog spec_lane.E := spec_lane.ok_of (by simp [spec_lane.X, spec_around.ok]) fun sh da k i m h => ⟨61, by
  simp only [Bool.and_eq_true, laneB, decide_eq_true_eq] at h
  obtain ⟨j, rfl, hj, hv, ax, hd, hl⟩ := axB_inv h.1
  rw [Int.toNat_natCast] at h
  rw [spec_lane.e, (validA_inv hv).1, axOk_of hj]
  obtain ⟨i', rfl⟩ : ∃ i' : Nat, i = i' := ⟨i.toNat, by omega⟩
  obtain ⟨m', rfl⟩ : ∃ m' : Nat, m = m' := ⟨m.toNat, by omega⟩
  rw [Bool.and_self, cond_true, lnK, Int.toNat_natCast, Int.toNat_natCast, Int.toNat_natCast]
  exact spec_lane.loop 61 sh da j i' m' ax hd (by omega) (by omega) (by omega)⟩

namespace spec_limit
noncomputable def E : Entry := ⟨99, true, false, fun | [.d (.int .i64 n)] => true | _ => false, fun | [.d (.int .i64 n)] => ([.one ((.int .i64 (limV n)), false)], []) | _ => ([], []), fun _ => [], false, fun _ => none⟩
end spec_limit
namespace spec_limit
noncomputable def X : List Entry := []
noncomputable def I : List Inl := [⟨99, Try.f99, ⟨[], [], [], [], [], []⟩⟩]
theorem I_ok : ∀ i ∈ I, Try.prog.funcs[i.f]? = some i.fn ∧ (i.fn.name == "runtime.NumGoroutine") = false := by
  intro i hi
  simp only [I, List.mem_cons, List.not_mem_nil, or_false] at hi
  subst hi
  exact ⟨by kernel_rfl, by kernel_rfl⟩
theorem e (fuel : Nat) (p0 : Int) : runF Try.prog X I 0 fuel 99 Try.f99 [.d (.int .i64 p0)] =
  some ([.one ((.int .i64 (maxI (-1000000) (minI 1000000 p0))), false)], []) := by kernel_rfl
end spec_limit
theorem spec_limit.ok_of (hX : ∀ E ∈ spec_limit.X, CallSpec Try.prog E) (h : ∀ (n : Int), (true) = true → ∃ fuel, runF Try.prog spec_limit.X spec_limit.I 0 fuel 99 Try.f99 [.d (.int .i64 n)] = some ([.one ((.int .i64 (limV n)), false)], [])) : CallSpec Try.prog spec_limit.E :=
  callSpec_of (d := 0) hX (by kernel_rfl) spec_limit.I_ok (by kernel_rfl) (by kernel_rfl) (by kernel_rfl) (fun _ _ _ _ h => by dsimp only [spec_limit.E] at h; cases h) (fun xs hp => by
    dsimp only [spec_limit.E] at hp ⊢
    split at hp
    · exact h _ hp
    · cases hp)
theorem spec_limit.ok : CallSpec Try.prog spec_limit.E := spec_limit.ok_of (by simp [spec_limit.X]) fun n _ => ⟨0, by rw [spec_limit.e, lim_spec]⟩

namespace spec_toInt
noncomputable def E : Entry := ⟨100, true, false, fun | [.d (.bool b)] => true | _ => false, fun | [.d (.bool b)] => ([.one ((.int .i64 (tInt b)), false)], []) | _ => ([], []), fun _ => [], false, fun _ => none⟩
end spec_toInt
namespace spec_toInt
noncomputable def X : List Entry := []
noncomputable def I : List Inl := [⟨100, Try.f100, ⟨[], [], [], [], [], []⟩⟩]
theorem I_ok : ∀ i ∈ I, Try.prog.funcs[i.f]? = some i.fn ∧ (i.fn.name == "runtime.NumGoroutine") = false := by
  intro i hi
  simp only [I, List.mem_cons, List.not_mem_nil, or_false] at hi
  subst hi
  exact ⟨by kernel_rfl, by kernel_rfl⟩
theorem e (fuel : Nat) (p0 : Bool) : runF Try.prog X I 0 fuel 100 Try.f100 [.d (.bool p0)] =
  (bif p0 then
  some ([.one ((.int .i64 1), false)], [])
  else
  some ([.one ((.int .i64 0), false)], [])) := by kernel_rfl
end spec_toInt
theorem spec_toInt.ok_of (hX : ∀ E ∈ spec_toInt.X, CallSpec Try.prog E) (h : ∀ (b : Bool), (true) = true → ∃ fuel, runF Try.prog spec_toInt.X spec_toInt.I 0 fuel 100 Try.f100 [.d (.bool b)] = some ([.one ((.int .i64 (tInt b)), false)], [])) : CallSpec Try.prog spec_toInt.E :=
  callSpec_of (d := 0) hX (by kernel_rfl) spec_toInt.I_ok (by kernel_rfl) (by kernel_rfl) (by kernel_rfl) (fun _ _ _ _ h => by dsimp only [spec_toInt.E] at h; cases h) (fun xs hp => by
    dsimp only [spec_toInt.E] at hp ⊢
    split at hp
    · exact h _ hp
    · cases hp)
theorem spec_toInt.ok : CallSpec Try.prog spec_toInt.E := spec_toInt.ok_of (by simp [spec_toInt.X]) fun b _ => ⟨0, by rw [spec_toInt.e]; cases b <;> rfl⟩

namespace spec_modulo
noncomputable def E : Entry := ⟨101, true, false, fun | [.d (.int .i64 a), .d (.int .i64 b)] => decide (0 < b) | _ => false, fun | [.d (.int .i64 a), .d (.int .i64 b)] => ([.one ((.int .i64 (modV a b)), false)], []) | _ => ([], []), fun _ => [], false, fun _ => none⟩
end spec_modulo
namespace spec_modulo
noncomputable def X : List Entry := []
noncomputable def I : List Inl := [⟨101, Try.f101, ⟨[], [], [], [], [], []⟩⟩]
theorem I_ok : ∀ i ∈ I, Try.prog.funcs[i.f]? = some i.fn ∧ (i.fn.name == "runtime.NumGoroutine") = false := by
  intro i hi
  simp only [I, List.mem_cons, List.not_mem_nil, or_false] at hi
  subst hi
  exact ⟨by kernel_rfl, by kernel_rfl⟩
theorem e (fuel : Nat) (p0 : Int) (p1 : Int) : runF Try.prog X I 0 fuel 101 Try.f101 [.d (.int .i64 p0), .d (.int .i64 p1)] =
  (bif decide ((p1 : Int) = 0) then
  none
  else
  (bif decide ((p1 : Int) = 0) then
  none
  else
  some ([.one ((.int .i64 (Int.tmod (IntKind.wrap .i64 ((Int.tmod p0 p1) + p1)) p1)), false)], []))) := by kernel_rfl
end spec_modulo
theorem spec_modulo.ok_of (hX : ∀ E ∈ spec_modulo.X, CallSpec Try.prog E) (h : ∀ (a : Int) (b : Int), (decide (0 < b)) = true → ∃ fuel, runF Try.prog spec_modulo.X spec_modulo.I 0 fuel 101 Try.f101 [.d (.int .i64 a), .d (.int .i64 b)] = some ([.one ((.int .i64 (modV a b)), false)], [])) : CallSpec Try.prog spec_modulo.E :=
  callSpec_of (d := 0) hX (by kernel_rfl) spec_modulo.I_ok (by kernel_rfl) (by kernel_rfl) (by kernel_rfl) (fun _ _ _ _ h => by dsimp only [spec_modulo.E] at h; cases h) (fun xs hp => by
    dsimp only [spec_modulo.E] at hp ⊢
    split at hp
    · exact h _ _ hp
    · cases hp)
theorem spec_modulo.ok : CallSpec Try.prog spec_modulo.E := spec_modulo.ok_of (by simp [spec_modulo.X]) fun a b h => ⟨0, by
  have := of_decide_eq_true h
  rw [spec_modulo.e, decide_eq_false (p := b = 0) (by omega)]
  rfl⟩

namespace spec_operate
noncomputable def E : Entry := ⟨77, true, false, fun | [.d (.int .i64 op), .d (.int .i64 a), .d (.int .i64 b)] => true | _ => false, fun | [.d (.int .i64 op), .d (.int .i64 a), .d (.int .i64 b)] => ([.one ((.int .i64 (operF op a b)), false)], []) | _ => ([], []), fun _ => [], false, fun _ => none⟩
end spec_operate
namespace spec_operate
noncomputable def X : List Entry := [spec_limit.E, spec_toInt.E, spec_modulo.E]
noncomputable def I : List Inl := [⟨77, Try.f77, ⟨[], [], [], [], [], []⟩⟩]
theorem I_ok : ∀ i ∈ I, Try.prog.funcs[i.f]? = some i.fn ∧ (i.fn.name == "runtime.NumGoroutine") = false := by
  intro i hi
  simp only [I, List.mem_cons, List.not_mem_nil, or_false] at hi
  subst hi
  exact ⟨by kernel_rfl, by kernel_rfl⟩
theorem e (fuel : Nat) (p0 : Int) (p1 : Int) (p2 : Int) : runF Try.prog X I 0 fuel 77 Try.f77 [.d (.int .i64 p0), .d (.int .i64 p1), .d (.int .i64 p2)] =
  (bif ((p0 : Int) == 1) then
  some ([.one ((.int .i64 (limV ((IntKind.wrap .i64 (p1 + p2))))), false)], [])
  else
  (bif ((p0 : Int) == 2) then
  some ([.one ((.int .i64 (limV ((IntKind.wrap .i64 (p1 - p2))))), false)], [])
  else
  (bif ((p0 : Int) == 3) then
  some ([.one ((.int .i64 (limV ((IntKind.wrap .i64 (p1 * p2))))), false)], [])
  else
  (bif ((p0 : Int) == 4) then
  some ([.one ((.int .i64 (minI p1 p2)), false)], [])
  else
  (bif ((p0 : Int) == 5) then
  some ([.one ((.int .i64 (maxI p1 p2)), false)], [])
  else
  (bif ((p0 : Int) == 6) then
  some ([.one ((.int .i64 (tInt (((p1 : Int) == p2)))), false)], [])
  else
  (bif ((p0 : Int) == 7) then
  some ([.one ((.int .i64 (tInt ((decide ((p1 : Int) < p2))))), false)], [])
  else
  (bif (decide ((p1 : Int) ≤ 0)) then
  some ([.one ((.int .i64 p2), false)], [])
  else
  (bif decide (0 < p1) then
  some ([.one ((.int .i64 (modV p2 p1)), false)], [])
  else
  none))))))))) := by kernel_rfl
end spec_operate
theorem spec_operate.ok_of (hX : ∀ E ∈ spec_operate.X, CallSpec Try.prog E) (h : ∀ (op : Int) (a : Int) (b : Int), (true) = true → ∃ fuel, runF Try.prog spec_operate.X spec_operate.I 0 fuel 77 Try.f77 [.d (.int .i64 op), .d (.int .i64 a), .d (.int .i64 b)] = some ([.one ((.int .i64 (operF op a b)), false)], [])) : CallSpec Try.prog spec_operate.E :=
  callSpec_of (d := 0) hX (by kernel_rfl) spec_operate.I_ok (by kernel_rfl) (by kernel_rfl) (by kernel_rfl) (fun _ _ _ _ h => by dsimp only [spec_operate.E] at h; cases h) (fun xs hp => by
    dsimp only [spec_operate.E] at hp ⊢
    split at hp
    · exact h _ _ _ hp
    · cases hp)
theorem spec_operate.ok : CallSpec Try.prog spec_operate.E := spec_operate.ok_of (by simp [spec_operate.X, spec_limit.ok, spec_toInt.ok, spec_modulo.ok]) fun op a b _ => ⟨0, by
  rw [spec_operate.e]
  unfold operF restV
  by_cases h : a ≤ 0
  · rw [decide_eq_true h]
    cases op == 1 <;> cases op == 2 <;> cases op == 3 <;> cases op == 4 <;> cases op == 5 <;> cases op == 6 <;> cases op == 7 <;> rfl
  · rw [decide_eq_false h, decide_eq_true (p := 0 < a) (by omega)]
    cases op == 1 <;> cases op == 2 <;> cases op == 3 <;> cases op == 4 <;> cases op == 5 <;> cases op == 6 <;> cases op == 7 <;> rfl⟩

namespace spec_fold
noncomputable def E : Entry := ⟨52, true, false, fun | [.d (.int .i64 op), .d (.ints .i64 xs)] => opOk op && decide (xs.length < 9223372036854775808) | _ => false, fun | [.d (.int .i64 op), .d (.ints .i64 xs)] => ([.one ((.int .i64 (redF op xs)), false)], []) | _ => ([], []), fun _ => [], false, fun _ => none⟩
end spec_fold
namespace spec_fold
noncomputable def X : List Entry := [spec_neutral.E, spec_operate.E]
noncomputable def I : List Inl := [⟨52, Try.f52, ⟨[], [(1000005, [2, 3, 4, 7, 8, 9, 10, 11, 12, 13, 14, 15, 16, 17, 18, 19, 20, 21, 22, 23, 24, 25, 26, 27, 28, 29, 30, 31, 32])], [], [], [], []⟩⟩]
theorem I_ok : ∀ i ∈ I, Try.prog.funcs[i.f]? = some i.fn ∧ (i.fn.name == "runtime.NumGoroutine") = false := by
  intro i hi
  simp only [I, List.mem_cons, List.not_mem_nil, or_false] at hi
  subst hi
  exact ⟨by kernel_rfl, by kernel_rfl⟩
noncomputable abbrev L0 (fuel n : Nat) (s : St) (k : Kont) := lAt Try.prog X I fuel true 0 false 52 (bodyOf Try.f52) [1, 1, 1, 0, 1, 0] n s k
noncomputable abbrev k0  (fuel : Nat) : Kont := (kAt Try.prog X I fuel true 0 false 52 (bodyOf Try.f52) [1, 1, 1, 0, 1, 0] [] (endK Try.prog Try.f52))
noncomputable def t0 (p0 : Int) (p1 : List Int) (x0q2 : Int) (x0q3 : Int) : St := ⟨[(.imm (.int .i64 p0)), (.imm (.ints .i64 p1)), .dead, .dead, .dead, (.imm (.int .i64 x0q2)), (.imm (.int .i64 x0q3)), .dead, .dead, .dead, .dead, .dead, .dead, .dead, .dead, .dead, .dead, .dead, .dead, .dead, .dead, .dead, .dead, .dead, .dead, .dead, .dead, .dead, .dead, .dead, .dead, .dead, .dead], hOf [], [], []⟩
theorem e (fuel : Nat) (p0 : Int) (p1 : List Int) : runF Try.prog X I 0 fuel 52 Try.f52 [.d (.int .i64 p0), .d (.ints .i64 p1)] =
  (bif ((((p1.length : Nat) : Int) : Int) == 0) then
  (bif opOk p0 then
  some ([.one ((.int .i64 (neuF p0)), false)], [])
  else
  none)
  else
  (idx (IntKind.wrap .i64 (((p1.length : Nat) : Int) - 1)) p1.length).bind fun j1 =>
  (p1[j1]?).bind fun v2 =>
  L0 fuel fuel (t0 p0 p1 v2 ((IntKind.wrap .i64 (((p1.length : Nat) : Int) - 2)))) (k0  fuel)) := by kernel_rfl
theorem s0 (fuel n0 : Nat) (p0 : Int) (p1 : List Int) (x0q2 : Int) (x0q3 : Int) : L0 fuel (n0 + 1) (t0 p0 p1 x0q2 x0q3) (k0  fuel) =
  (bif (decide ((x0q3 : Int) ≥ 0)) then
  (idx x0q3 p1.length).bind fun j7 =>
  (p1[j7]?).bind fun v8 =>
  L0 fuel n0 (t0 p0 p1 ((operF p0 v8 x0q2)) ((IntKind.wrap .i64 (x0q3 - 1)))) (k0  fuel)
  else
  some ([.one ((.int .i64 x0q2), false)], [])) := by kernel_rfl
end spec_fold
theorem spec_fold.ok_of (hX : ∀ E ∈ spec_fold.X, CallSpec Try.prog E) (h : ∀ (op : Int) (xs : List Int), (opOk op && decide (xs.length < 9223372036854775808)) = true → ∃ fuel, runF Try.prog spec_fold.X spec_fold.I 0 fuel 52 Try.f52 [.d (.int .i64 op), .d (.ints .i64 xs)] = some ([.one ((.int .i64 (redF op xs)), false)], [])) : CallSpec Try.prog spec_fold.E :=
  callSpec_of (d := 0) hX (by kernel_rfl) spec_fold.I_ok (by kernel_rfl) (by kernel_rfl) (by kernel_rfl) (fun _ _ _ _ h => by dsimp only [spec_fold.E] at h; cases h) (fun xs hp => by
    dsimp only [spec_fold.E] at hp ⊢
    split at hp
    · exact h _ _ hp
    · cases hp)
theorem spec_fold.ok : CallSpec Try.prog spec_fold.E := spec_fold.ok_of (by simp [spec_fold.X, spec_neutral.ok, spec_operate.ok]) fun op xs h => ⟨xs.length + 1, by
  simp only [Bool.and_eq_true, decide_eq_true_eq] at h
  rw [spec_fold.e, len0]
  by_cases h0 : xs.length = 0
  · have h0' := List.length_eq_zero_iff.mp h0
    subst h0'
    rw [decide_eq_true h0, h.1]
    simp only [cond_true, redF, neuV, h.1]
  · obtain ⟨k, hk⟩ : ∃ k, xs.length = k + 1 := ⟨xs.length - 1, by omega⟩
    have e1 : ((xs.length : Nat) : Int) - 1 = (k : Int) := by omega
    have hkl : k < xs.length := by omega
    rw [decide_eq_false h0, cond_false, wS (by omega) (by omega), wS (by omega) (by omega), e1, idx_nat hkl]
    simp only [Option.bind_some, getD_get hkl]
    rw [show ((xs.length : Nat) : Int) - 2 = (k : Int) - 1 - ((0 : Nat) : Int) by omega]
    refine run_loop (N := k) (fun n j acc => spec_fold.L0 (xs.length + 1) n (spec_fold.t0 op xs acc ((k : Int) - 1 - (j : Int))) (spec_fold.k0 (xs.length + 1))) (fun j acc => acc = redF op (xs.drop (k - j))) ?_ ?_ (xs.length + 1) 0 _ (by omega) (by omega) (by rw [Nat.sub_zero, redF_last (by omega)])
    · intro n acc ho
      rw [spec_fold.s0, decide_eq_false (by omega), ho, Nat.sub_self, List.drop_zero]
      rfl
    · intro n j acc hj ho
      obtain ⟨i, hi⟩ : ∃ i, k - j = i + 1 := ⟨k - j - 1, by omega⟩
      have hil : i < xs.length := by omega
      have e1 : (k : Int) - 1 - (j : Int) = (i : Int) := by omega
      rw [e1, spec_fold.s0, decide_eq_true (by omega), idx_nat hil, wS (by omega) (by omega)]
      simp only [cond_true, Option.bind_some, getD_get hil]
      refine ⟨_, ?_, by rw [show (k : Int) - 1 - ((j + 1 : Nat) : Int) = (i : Int) - 1 by omega]⟩
      rw [ho, hi, show k - (j + 1) = i by omega]
      exact (redF_drop (by omega)).symm⟩

namespace spec_ScanAxis
noncomputable def E : Entry := ⟨19, false, false, fun | [.d (.int .i64 op), .d (.agg [(.ints .i64 sh), (.ints .i64 da)]), .d (.int .i64 k)] => decide (sh.length < 9223372036854775808) && decide (da.length < 9223372036854775808) | _ => false, fun | [.d (.int .i64 op), .d (.agg [(.ints .i64 sh), (.ints .i64 da)]), .d (.int .i64 k)] => ([.agg [((.ints .i64 (scS op sh da k)), true), ((.ints .i64 (scD op sh da k)), true)]], []) | _ => ([], []), fun _ => [], true, fun _ => none⟩
end spec_ScanAxis
namespace spec_ScanAxis
noncomputable def X : List Entry := [spec_validOp.E, spec_isAxis.E, spec_make1.E, spec_around.E, spec_lane.E, spec_fold.E]
noncomputable def I : List Inl := [⟨19, Try.f19, ⟨[28, 50], [(1000006, [1, 3, 5, 11, 12, 13, 14, 15, 16, 17, 18, 19, 20, 21, 22, 23, 24, 25, 26, 27, 28, 29, 30, 31, 32, 33, 34, 35, 36, 37, 38, 39, 40, 41, 42, 43, 44, 45, 46, 47, 48, 49, 50, 51, 52, 53, 54, 55, 56, 57, 58, 59, 60, 61, 62, 63, 64, 65, 66, 67, 68, 69, 70, 71, 72, 73, 74, 75, 76, 77, 78, 79]), (1000009, [1, 3, 5, 12, 13, 14, 15, 16, 17, 18, 19, 20, 21, 22, 23, 24, 25, 26, 27, 28, 29, 30, 31, 32, 33, 34, 35, 36, 37, 38, 39, 40, 41, 42, 43, 44, 45, 46, 47, 48, 49, 50, 51, 52, 53, 54, 55, 56, 57, 58, 59, 60, 61, 62, 63, 64, 65, 66, 67, 68, 69, 70, 71, 72, 73, 74, 75, 76, 77, 78, 79]), (1000013, [1, 3, 5, 14, 15, 16, 17, 18, 19, 20, 21, 22, 23, 24, 25, 26, 27, 28, 29, 30, 31, 32, 33, 34, 35, 36, 37, 38, 39, 40, 41, 42, 43, 44, 45, 46, 47, 48, 49, 50, 51, 52, 53, 54, 55, 56, 57, 58, 59, 60, 61, 62, 63, 64, 65, 66, 67, 68, 69, 70, 71, 72, 73, 74, 75, 76, 77, 78, 79])], [], [(15, [0, 2, 3, 5, 9, 11, 13, 15, 16, 17, 18, 1, 4, 6, 7, 8, 10, 12, 14, 19, 20, 21, 22])], [], []⟩⟩]
theorem I_ok : ∀ i ∈ I, Try.prog.funcs[i.f]? = some i.fn ∧ (i.fn.name == "runtime.NumGoroutine") = false := by
  intro i hi
  simp only [I, List.mem_cons, List.not_mem_nil, or_false] at hi
  subst hi
  exact ⟨by kernel_rfl, by kernel_rfl⟩
noncomputable abbrev L0 (fuel n : Nat) (s : St) (k : Kont) := lAt Try.prog X I fuel true 0 false 19 (bodyOf Try.f19) [1, 1, 1, 1, 0, 1, 0] n s k
noncomputable abbrev k0  (fuel : Nat) : Kont := (kAt Try.prog X I fuel true 0 false 19 (bodyOf Try.f19) [1, 1, 1, 1, 0, 1, 0] [] (endK Try.prog Try.f19))
noncomputable def t0 (p0 : Int) (p2 : Int) (p1q0 : List Int) (p1q1 : List Int) (x0q4 : Int) (x0q8 : List Int) : St := ⟨[(.imm (.int .i64 p0)), .dead, (.imm (.int .i64 p2)), .dead, (.ptr 1000000000 0 0), .dead, (.ptr 1000000001 0 0), (.ptr 1000000002 0 0), (.imm (.int .i64 ((befN p1q0 p2.toNat : Nat) : Int))), (.imm (.int .i64 ((behN p1q0 p2.toNat : Nat) : Int))), (.imm (.int .i64 x0q4)), .dead, .dead, .dead, .dead, .dead, .dead, .dead, .dead, .dead, .dead, .dead, .dead, .dead, .dead, .dead, .dead, .dead, .dead, .dead, .dead, .dead, .dead, .dead, .dead, .dead, .dead, .dead, .dead, .dead, .dead, .dead, .dead, .dead, .dead, .dead, .dead, .dead, .dead, .dead, .dead, .dead, .dead, .dead, .dead, .dead, .dead, .dead, .dead, .dead, .dead, .dead, .dead, .dead, .dead, .dead, .dead, .dead, .dead, .dead, .dead, .dead, .dead, .dead, .dead, .dead, .dead, .dead, .dead, .dead], hOf [(1000000000, (.box [(.imm (.ints .i64 p1q0)), (.imm (.ints .i64 p1q1))])), (1000000001, (.box [(.imm .nils), (.imm .nils)])), (1000000002, (.box [(.all 1000000003 1), (.all 1000000004 1)])), (1000000003, (.ints .i64 p1q0)), (1000000004, (.ints .i64 x0q8))], [], []⟩
noncomputable abbrev L1 (fuel n : Nat) (s : St) (k : Kont) := lAt Try.prog X I fuel true 0 false 19 (bodyOf Try.f19) [1, 1, 1, 1, 0, 1, 0, 0, 1, 0, 0, 1, 0] n s k
noncomputable abbrev k1 (n0 : Nat) (fuel : Nat) : Kont := (kAt Try.prog X I fuel true 0 false 19 (bodyOf Try.f19) [1, 1, 1, 1, 0, 1, 0, 0, 1, 0, 0, 1, 0] [n0] (endK Try.prog Try.f19))
noncomputable def t1 (p0 : Int) (p2 : Int) (p1q0 : List Int) (x0q4 : Int) (p1q1 : List Int) (x1q5 : Int) (x1q9 : List Int) : St := ⟨[(.imm (.int .i64 p0)), .dead, (.imm (.int .i64 p2)), .dead, (.ptr 1000000000 0 0), .dead, (.ptr 1000000001 0 0), (.ptr 1000000002 0 0), (.imm (.int .i64 ((befN p1q0 p2.toNat : Nat) : Int))), (.imm (.int .i64 ((behN p1q0 p2.toNat : Nat) : Int))), (.imm (.int .i64 x0q4)), (.imm (.int .i64 x1q5)), .dead, .dead, .dead, .dead, .dead, .dead, .dead, .dead, .dead, .dead, .dead, .dead, .dead, .dead, .dead, .dead, .dead, .dead, .dead, .dead, .dead, .dead, .dead, .dead, .dead, .dead, .dead, .dead, .dead, .dead, .dead, .dead, .dead, .dead, .dead, .dead, .dead, .dead, .dead, .dead, .dead, .dead, .dead, .dead, .dead, .dead, .dead, .dead, .dead, .dead, .dead, .dead, .dead, .dead, .dead, .dead, .dead, .dead, .dead, .dead, .dead, .dead, .dead, .dead, .dead, .dead, .dead, .dead], hOf [(1000000000, (.box [(.imm (.ints .i64 p1q0)), (.imm (.ints .i64 p1q1))])), (1000000001, (.box [(.imm .nils), (.imm .nils)])), (1000000002, (.box [(.all 1000000003 1), (.all 1000000004 1)])), (1000000003, (.ints .i64 p1q0)), (1000000004, (.ints .i64 x1q9))], [], []⟩
noncomputable abbrev L2 (fuel n : Nat) (s : St) (k : Kont) := lAt Try.prog X I fuel true 0 false 19 (bodyOf Try.f19) [1, 1, 1, 1, 0, 1, 0, 0, 1, 0, 0, 1, 0, 0, 1, 0, 0, 1, 1, 0] n s k
noncomputable abbrev k2 (n0 : Nat) (n1 : Nat) (fuel : Nat) : Kont := (kAt Try.prog X I fuel true 0 false 19 (bodyOf Try.f19) [1, 1, 1, 1, 0, 1, 0, 0, 1, 0, 0, 1, 0, 0, 1, 0, 0, 1, 1, 0] [n0, n1] (endK Try.prog Try.f19))
noncomputable def t2 (p0 : Int) (p2 : Int) (p1q0 : List Int) (x0q4 : Int) (x1q5 : Int) (p1q1 : List Int) (x2q6 : Int) (x2q11 : List Int) : St := ⟨[(.imm (.int .i64 p0)), .dead, (.imm (.int .i64 p2)), .dead, (.ptr 1000000000 0 0), .dead, (.ptr 1000000001 0 0), (.ptr 1000000002 0 0), (.imm (.int .i64 ((befN p1q0 p2.toNat : Nat) : Int))), (.imm (.int .i64 ((behN p1q0 p2.toNat : Nat) : Int))), (.imm (.int .i64 x0q4)), (.imm (.int .i64 x1q5)), (.all 1000000003 1), (.imm (.int .i64 x2q6)), .dead, .dead, .dead, .dead, .dead, .dead, .dead, .dead, .dead, .dead, .dead, .dead, .dead, .dead, .dead, .dead, .dead, .dead, .dead, .dead, .dead, .dead, .dead, .dead, .dead, .dead, .dead, .dead, .dead, .dead, .dead, .dead, .dead, .dead, .dead, .dead, .dead, .dead, .dead, .dead, .dead, .dead, .dead, .dead, .dead, .dead, .dead, .dead, .dead, .dead, .dead, .dead, .dead, .dead, .dead, .dead, .dead, .dead, .dead, .dead, .dead, .dead, .dead, .dead, .dead, .dead], hOf [(1000000000, (.box [(.imm (.ints .i64 p1q0)), (.imm (.ints .i64 p1q1))])), (1000000001, (.box [(.imm .nils), (.imm .nils)])), (1000000002, (.box [(.all 1000000004 1), (.all 1000000005 1)])), (1000000003, (.ints .i64 (lnK p1q0 p1q1 p2 (Int.toNat x0q4) (Int.toNat x1q5)))), (1000000004, (.ints .i64 p1q0)), (1000000005, (.ints .i64 x2q11))], [], []⟩
theorem e (fuel : Nat) (p0 : Int) (p1q0 : List Int) (p1q1 : List Int) (p2 : Int) : runF Try.prog X I 0 fuel 19 Try.f19 [.d (.int .i64 p0), .d (.agg [(.ints .i64 p1q0), (.ints .i64 p1q1)]), .d (.int .i64 p2)] =
  (bif (!(opOk p0)) then
  some ([.agg [((.ints .i64 []), true), ((.ints .i64 []), true)]], [])
  else
  (bif decide (p1q0.length < 9223372036854775808) && decide (p1q1.length < 9223372036854775808) then
  (bif (!(axB p1q0 p1q1 p2)) then
  some ([.agg [((.ints .i64 []), true), ((.ints .i64 []), true)]], [])
  else
  (bif szB p1q0 && szB p1q1 then
  (bif validS p1q0 && axOk p1q0 p2 then
  L0 fuel fuel (t0 p0 p2 p1q0 p1q1 0 p1q1) (k0  fuel)
  else
  none)
  else
  none))
  else
  none)) := by kernel_rfl
theorem s0 (fuel n0 : Nat) (p0 : Int) (p2 : Int) (p1q0 : List Int) (p1q1 : List Int) (x0q4 : Int) (x0q8 : List Int) : L0 fuel (n0 + 1) (t0 p0 p2 p1q0 p1q1 x0q4 x0q8) (k0  fuel) =
  (bif (decide ((x0q4 : Int) < ((befN p1q0 p2.toNat : Nat) : Int))) then
  L1 fuel fuel (t1 p0 p2 p1q0 x0q4 p1q1 0 x0q8) (k1 n0 fuel)
  else
  some ([.agg [((.ints .i64 p1q0), true), ((.ints .i64 x0q8), true)]], [])) := by kernel_rfl
theorem s1 (fuel n0 n1 : Nat) (p0 : Int) (p2 : Int) (p1q0 : List Int) (x0q4 : Int) (p1q1 : List Int) (x1q5 : Int) (x1q9 : List Int) : L1 fuel (n1 + 1) (t1 p0 p2 p1q0 x0q4 p1q1 x1q5 x1q9) (k1 n0 fuel) =
  (bif (decide ((x1q5 : Int) < ((behN p1q0 p2.toNat : Nat) : Int))) then
  (bif axB p1q0 p1q1 p2 && laneB p1q0 p2 x0q4 x1q5 then
  L2 fuel fuel (t2 p0 p2 p1q0 x0q4 x1q5 p1q1 0 x1q9) (k2 n0 n1 fuel)
  else
  none)
  else
  L0 fuel n0 (t0 p0 p2 p1q0 p1q1 ((IntKind.wrap .i64 (x0q4 + 1))) x1q9) (k0  fuel)) := by kernel_rfl
theorem s2 (fuel n0 n1 n2 : Nat) (p0 : Int) (p2 : Int) (p1q0 : List Int) (x0q4 : Int) (x1q5 : Int) (p1q1 : List Int) (x2q6 : Int) (x2q11 : List Int) : L2 fuel (n2 + 1) (t2 p0 p2 p1q0 x0q4 x1q5 p1q1 x2q6 x2q11) (k2 n0 n1 fuel) =
  (bif (decide ((x2q6 : Int) < (((lnK p1q0 p1q1 p2 (Int.toNat x0q4) (Int.toNat x1q5)).length : Nat) : Int))) then
  (idx p2 p1q0.length).bind fun j57 =>
  (p1q0[j57]?).bind fun v58 =>
  (cutEnds (lnK p1q0 p1q1 p2 (Int.toNat x0q4) (Int.toNat x1q5)).length (none) (some (.imm (.int .i64 (IntKind.wrap .i64 (x2q6 + 1)))))).bind fun cq59 =>
  (bif decide (cq59.1 + (cq59.2 - cq59.1) ≤ (lnK p1q0 p1q1 p2 (Int.toNat x0q4) (Int.toNat x1q5)).length) then
  (bif opOk p0 && decide (((((lnK p1q0 p1q1 p2 (Int.toNat x0q4) (Int.toNat x1q5)).drop cq59.1).take (cq59.2 - cq59.1))).length < 9223372036854775808) then
  (idx (IntKind.wrap .i64 ((IntKind.wrap .i64 ((IntKind.wrap .i64 ((IntKind.wrap .i64 (x0q4 * v58)) + x2q6)) * ((behN p1q0 p2.toNat : Nat) : Int))) + x1q5)) x2q11.length).bind fun j60 =>
  (bif decide (j60 < x2q11.length) then
  L2 fuel n2 (t2 p0 p2 p1q0 x0q4 x1q5 p1q1 ((IntKind.wrap .i64 (x2q6 + 1))) ((x2q11.set j60 (redF p0 ((((lnK p1q0 p1q1 p2 (Int.toNat x0q4) (Int.toNat x1q5)).drop cq59.1).take (cq59.2 - cq59.1))))))) (k2 n0 n1 fuel)
  else
  none)
  else
  none)
  else
  none)
  else
  L1 fuel n1 (t1 p0 p2 p1q0 x0q4 p1q1 ((IntKind.wrap .i64 (x1q5 + 1))) x2q11) (k1 n0 fuel)) := by kernel_rfl
end spec_ScanAxis
theorem spec_ScanAxis.ok_of (hX : ∀ E ∈ spec_ScanAxis.X, CallSpec Try.prog E) (h : ∀ (op : Int) (sh : List Int) (da : List Int) (k : Int), (decide (sh.length < 9223372036854775808) && decide (da.length < 9223372036854775808)) = true → ∃ fuel, runF Try.prog spec_ScanAxis.X spec_ScanAxis.I 0 fuel 19 Try.f19 [.d (.int .i64 op), .d (.agg [(.ints .i64 sh), (.ints .i64 da)]), .d (.int .i64 k)] = some ([.agg [((.ints .i64 (scS op sh da k)), true), ((.ints .i64 (scD op sh da k)), true)]], [])) : CallSpec Try.prog spec_ScanAxis.E :=
  callSpec_of (d := 0) hX (by kernel_rfl) spec_ScanAxis.I_ok (by kernel_rfl) (by kernel_rfl) (by kernel_rfl) (fun _ _ _ _ h => by dsimp only [spec_ScanAxis.E] at h; cases h) (fun xs hp => by
    dsimp only [spec_ScanAxis.E] at hp ⊢
    split at hp
    · exact h _ _ _ _ hp
    · cases hp)
theorem scan_at {sh da : List Int} {k : Nat} {i j m : Nat} (hi : i < befN sh k) (hj : j < lenN sh k) (hm : m < behN sh k) : scL sh da (k : Int) ((i * lenN sh k + j) * behN sh k + m) = (lnK sh da (k : Int) i m).take (j + 1) := by
  obtain ⟨_, e1, e2, e3⟩ := enc3 hi hj hm
  simp only [scL, Int.toNat_natCast, e1, e2, e3]
theorem spec_ScanAxis.inner (fuel n0 n1 : Nat) (op : Int) (sh da : List Int) (k i m : Nat) (ho : opOk op = true) (hv : validA sh da = true) (hk : k < sh.length) (hi : i < befN sh k) (hm : m < behN sh k) (hf : 60 < fuel) (out0 : List Int)
    (h0 : Filled da.length (rkN (lenN sh k) (behN sh k)) (fun n => redF op (scL sh da k n)) ((i * behN sh k + m) * lenN sh k + 0) out0) :
    ∃ out, Filled da.length (rkN (lenN sh k) (behN sh k)) (fun n => redF op (scL sh da k n)) ((i * behN sh k + m) * lenN sh k + lenN sh k) out ∧
      spec_ScanAxis.L2 fuel fuel (spec_ScanAxis.t2 op (k : Int) sh (i : Int) (m : Int) da 0 out0) (spec_ScanAxis.k2 n0 n1 fuel) = spec_ScanAxis.L1 fuel n1 (spec_ScanAxis.t1 op (k : Int) sh (i : Int) da ((IntKind.wrap .i64 ((m : Int) + 1))) out) (spec_ScanAxis.k1 n0 fuel) := by
  have ax := ax_of (validA_inv hv).1 hk
  have hL := ax.len_le
  have hlk := ax.lt
  have hd := ax_data hv hk
  have hle := ax.le
  have hlen : (lnK sh da (k : Int) i m).length = lenN sh k := by rw [lnK_length, Int.toNat_natCast]
  have hx : i * lenN sh k ≤ 3600 * 60 := Nat.mul_le_mul (by have := ax.bef_le; omega) hL
  have go : ∀ d j n out, lenN sh k - j = d → j ≤ lenN sh k → lenN sh k - j < n → Filled da.length (rkN (lenN sh k) (behN sh k)) (fun n => redF op (scL sh da k n)) ((i * behN sh k + m) * lenN sh k + j) out →
      ∃ out', Filled da.length (rkN (lenN sh k) (behN sh k)) (fun n => redF op (scL sh da k n)) ((i * behN sh k + m) * lenN sh k + lenN sh k) out' ∧
      spec_ScanAxis.L2 fuel n (spec_ScanAxis.t2 op (k : Int) sh (i : Int) (m : Int) da (j : Int) out) (spec_ScanAxis.k2 n0 n1 fuel) = spec_ScanAxis.L1 fuel n1 (spec_ScanAxis.t1 op (k : Int) sh (i : Int) da ((IntKind.wrap .i64 ((m : Int) + 1))) out') (spec_ScanAxis.k1 n0 fuel) := by
    intro d
    induction d with
    | zero =>
      intro j n out hd0 hj hn hF
      obtain ⟨n, rfl⟩ : ∃ n', n = n' + 1 := ⟨n - 1, by omega⟩
      obtain rfl : j = lenN sh k := by omega
      refine ⟨out, hF, ?_⟩
      rw [spec_ScanAxis.s2]
      simp only [Int.toNat_natCast, hlen]
      rw [dge (by omega), cond_false]
    | succ d ih =>
      intro j n out hd0 hj hn hF
      obtain ⟨n, rfl⟩ : ∃ n', n = n' + 1 := ⟨n - 1, by omega⟩
      have hj' : j < lenN sh k := by omega
      obtain ⟨e1, e2, e3, e4⟩ := enc3 hi hj' hm
      have hol := hF.len
      rw [spec_ScanAxis.s2]
      simp only [Int.toNat_natCast, hlen]
      rw [dlt hj', cond_true, idx_nat hlk]
      simp only [Option.bind_some, getD_get hlk, ax.len]
      rw [w1 (by omega), cut_hi (by omega)]
      simp only [Option.bind_some, List.drop_zero, Nat.sub_zero]
      rw [decide_eq_true (by omega), cond_true, ho, lt_of (by simp only [List.length_take]; omega), wIdx (by omega) (by omega), idx_nat (by omega)]
      simp only [Option.bind_some, Bool.and_self, cond_true]
      rw [decide_eq_true (by omega), cond_true]
      exact ih (j + 1) n _ (by omega) (by omega) (by omega) (hF.set (fun p hp hr => rkN_inj (B := befN sh k) (L := lenN sh k) (M := behN sh k) (by omega) e1 hr) (rkN_enc hi hj' hm) (by rw [scan_at hi hj' hm]))
  exact go _ 0 fuel out0 rfl (by omega) (by omega) h0
theorem spec_ScanAxis.mid (fuel n0 : Nat) (op : Int) (sh da : List Int) (k i : Nat) (ho : opOk op = true) (hv : validA sh da = true) (hk : k < sh.length) (hi : i < befN sh k) (hf : 3600 < fuel) (out0 : List Int)
    (h0 : Filled da.length (rkN (lenN sh k) (behN sh k)) (fun n => redF op (scL sh da k n)) ((i * behN sh k + 0) * lenN sh k + 0) out0) :
    ∃ out, Filled da.length (rkN (lenN sh k) (behN sh k)) (fun n => redF op (scL sh da k n)) (((i + 1) * behN sh k + 0) * lenN sh k + 0) out ∧
      spec_ScanAxis.L1 fuel fuel (spec_ScanAxis.t1 op (k : Int) sh (i : Int) da 0 out0) (spec_ScanAxis.k1 n0 fuel) = spec_ScanAxis.L0 fuel n0 (spec_ScanAxis.t0 op (k : Int) sh da ((IntKind.wrap .i64 ((i : Int) + 1))) out) (spec_ScanAxis.k0 fuel) := by
  have ax := ax_of (validA_inv hv).1 hk
  have hM := ax.beh_le
  have go : ∀ d m n out, behN sh k - m = d → m ≤ behN sh k → behN sh k - m < n → Filled da.length (rkN (lenN sh k) (behN sh k)) (fun n => redF op (scL sh da k n)) ((i * behN sh k + m) * lenN sh k + 0) out →
      ∃ out', Filled da.length (rkN (lenN sh k) (behN sh k)) (fun n => redF op (scL sh da k n)) ((i * behN sh k + behN sh k) * lenN sh k + 0) out' ∧
      spec_ScanAxis.L1 fuel n (spec_ScanAxis.t1 op (k : Int) sh (i : Int) da (m : Int) out) (spec_ScanAxis.k1 n0 fuel) = spec_ScanAxis.L0 fuel n0 (spec_ScanAxis.t0 op (k : Int) sh da ((IntKind.wrap .i64 ((i : Int) + 1))) out') (spec_ScanAxis.k0 fuel) := by
    intro d
    induction d with
    | zero =>
      intro m n out hd0 hm hn hF
      obtain ⟨n, rfl⟩ : ∃ n', n = n' + 1 := ⟨n - 1, by omega⟩
      obtain rfl : m = behN sh k := by omega
      refine ⟨out, hF, ?_⟩
      rw [spec_ScanAxis.s1]
      simp only [Int.toNat_natCast]
      rw [dge (by omega), cond_false]
    | succ d ih =>
      intro m n out hd0 hm hn hF
      obtain ⟨n, rfl⟩ : ∃ n', n = n' + 1 := ⟨n - 1, by omega⟩
      have hm' : m < behN sh k := by omega
      obtain ⟨out', hF', he⟩ := spec_ScanAxis.inner fuel n0 n op sh da k i m ho hv hk hi hm' (by omega) out hF
      have hln : laneB sh (k : Int) (i : Int) (m : Int) = true := by simp only [laneB, Int.toNat_natCast]; simp; omega
      rw [spec_ScanAxis.s1]
      simp only [Int.toNat_natCast]
      rw [dlt hm', cond_true, axB_of hv hk, hln, Bool.and_self, cond_true, he, w1 (by omega)]
      refine ih (m + 1) n out' (by omega) (by omega) (by omega) ?_
      rw [show (i * behN sh k + (m + 1)) * lenN sh k + 0 = (i * behN sh k + m) * lenN sh k + lenN sh k by rw [← Nat.add_assoc, Nat.add_mul (_ + m), Nat.one_mul]; omega]
      exact hF'
  obtain ⟨out', hF', he⟩ := go _ 0 fuel out0 rfl (by omega) (by omega) h0
  refine ⟨out', ?_, he⟩
  rw [show (i + 1) * behN sh k + 0 = i * behN sh k + behN sh k by rw [Nat.add_mul]; omega]
  exact hF'
theorem spec_ScanAxis.loop (fuel : Nat) (op : Int) (sh da : List Int) (k : Nat) (ho : opOk op = true) (hv : validA sh da = true) (hk : k < sh.length) (hf : 3600 < fuel) :
    spec_ScanAxis.L0 fuel fuel (spec_ScanAxis.t0 op (k : Int) sh da 0 da) (spec_ScanAxis.k0 fuel) = some ([.agg [((.ints .i64 sh), true), ((.ints .i64 (scN op sh da k)), true)]], []) := by
  have ax := ax_of (validA_inv hv).1 hk
  have hB := ax.bef_le
  have hd := ax_data hv hk
  refine run_loop (N := befN sh k) (fun n i out => spec_ScanAxis.L0 fuel n (spec_ScanAxis.t0 op (k : Int) sh da (i : Int) out) (spec_ScanAxis.k0 fuel)) (fun i out => Filled da.length (rkN (lenN sh k) (behN sh k)) (fun n => redF op (scL sh da k n)) ((i * behN sh k + 0) * lenN sh k + 0) out) ?_ ?_ fuel 0 da (by omega) (by omega) (by simp only [Nat.zero_mul, Nat.add_zero]; exact Filled.zero rfl)
  · intro n out hF
    have hall := hF.all fun p hp => by
      have := rkN_lt (B := befN sh k) (L := lenN sh k) (M := behN sh k) (p := p) (by omega)
      simpa using this
    rw [spec_ScanAxis.s0]
    simp only [Int.toNat_natCast]
    rw [dge (by omega), cond_false, hall]
    rfl
  · intro n i out hi hF
    obtain ⟨out', hF', he⟩ := spec_ScanAxis.mid fuel n op sh da k i ho hv hk hi hf out hF
    rw [spec_ScanAxis.s0]
    simp only [Int.toNat_natCast]
    rw [dlt hi, cond_true, he, w1 (by omega)]
    exact ⟨out', hF', rfl⟩
theorem spec_ScanAxis.ok : CallSpec Try.prog spec_ScanAxis.E := spec_ScanAxis.ok_of (by simp [spec_ScanAxis.X, spec_validOp.ok, spec_isAxis.ok, spec_make1.ok, spec_around.ok, spec_lane.ok, spec_fold.ok]) fun op sh da k h => by
  obtain ⟨F, hF⟩ : ∃ F : Nat, 3600 < F := ⟨3601, by omega⟩
  refine ⟨F, ?_⟩
  rw [spec_ScanAxis.e, h]
  unfold scS scD scB
  cases ho : opOk op with
  | false => rfl
  | true =>
    cases hb : axB sh da k with
    | false => rfl
    | true =>
      obtain ⟨j, rfl, hj, hv, ax, hd, hl⟩ := axB_inv hb
      have hlen := validA_len hv
      simp only [Bool.not_true, cond_true, cond_false]
      rw [szB_of (by omega), szB_of (by omega), (validA_inv hv).1, axOk_of hj]
      exact spec_ScanAxis.loop F op sh da j ho hv hj hF

namespace impl_Reshape
noncomputable def E : Entry := ⟨20, false, false, fun | [.d (.ints .i64 sh), .d (.agg [(.ints .i64 s2), (.ints .i64 da)])] => decide (sh.length < 9223372036854775808) && decide (s2.length < 9223372036854775808) && decide (da.length < 9223372036854775808) | _ => false, fun | [.d (.ints .i64 sh), .d (.agg [(.ints .i64 s2), (.ints .i64 da)])] => ([.agg [((.ints .i64 (reshS sh s2 da)), true), ((.ints .i64 (reshD sh s2 da)), true)], .one ((.bool (reshB sh s2 da)), false)], []) | _ => ([], []), fun _ => [], true, fun _ => none⟩
end impl_Reshape
namespace impl_Reshape
noncomputable def X : List Entry := [impl_layoutOf.E, impl_ValidArray.E, impl_copyList.E]
noncomputable def I : List Inl := [⟨20, Try.f20, ⟨[12, 49], [(1000007, [1, 2, 5, 6, 7, 9, 10, 11, 12, 13, 14, 15, 16, 17, 18, 19, 20, 21, 22, 23, 24, 25, 26, 27, 28, 29, 30, 33, 34, 35, 36, 37, 38, 39, 40, 41, 42, 43, 44, 45, 46, 47, 48, 49, 50, 51])], [], [(9, [0, 1, 2, 4, 5, 3, 6, 7, 8, 9, 10, 11, 12])], [], []⟩⟩]
theorem I_ok : ∀ i ∈ I, Try.prog.funcs[i.f]? = some i.fn ∧ (i.fn.name == "runtime.NumGoroutine") = false := by
  intro i hi
  simp only [I, List.mem_cons, List.not_mem_nil, or_false] at hi
  subst hi
  exact ⟨by kernel_rfl, by kernel_rfl⟩
noncomputable abbrev L0 (fuel n : Nat) (s : St) (k : Kont) := lAt Try.prog X I fuel true 0 false 20 (bodyOf Try.f20) [1, 1, 1, 1, 0, 1, 0, 1, 0] n s k
noncomputable abbrev k0  (fuel : Nat) : Kont := (kAt Try.prog X I fuel true 0 false 20 (bodyOf Try.f20) [1, 1, 1, 1, 0, 1, 0, 1, 0] [] (endK Try.prog Try.f20))
noncomputable def t0 (p0 : List Int) (p1q0 : List Int) (p1q1 : List Int) (x0q2 : Int) (x0q5 : List Int) : St := ⟨[(.imm (.ints .i64 p0)), .dead, .dead, (.ptr 1000000000 0 0), (.ptr 1000000001 0 0), .dead, .dead, .dead, (.all 1000000002 1), .dead, .dead, .dead, .dead, .dead, .dead, .dead, .dead, .dead, .dead, .dead, .dead, .dead, .dead, .dead, .dead, .dead, .dead, .dead, .dead, .dead, .dead, (.imm (.int .i64 (((List.replicate ((volW p0)).toNat (0 : Int)).length : Nat) : Int))), (.imm (.int .i64 x0q2)), .dead, .dead, .dead, .dead, .dead, .dead, .dead, .dead, .dead, .dead, .dead, .dead, .dead, .dead, .dead, .dead, .dead, .dead, .dead], hOf [(1000000000, (.box [(.imm (.ints .i64 p1q0)), (.imm (.ints .i64 p1q1))])), (1000000001, (.box [(.imm .nils), (.imm .nils)])), (1000000002, (.ints .i64 x0q5))], [], []⟩
theorem e (fuel : Nat) (p0 : List Int) (p1q0 : List Int) (p1q1 : List Int) : runF Try.prog X I 0 fuel 20 Try.f20 [.d (.ints .i64 p0), .d (.agg [(.ints .i64 p1q0), (.ints .i64 p1q1)])] =
  (bif decide (p0.length < 9223372036854775808) then
  (bif validS p0 then
  (bif decide (p1q0.length < 9223372036854775808) && decide (p1q1.length < 9223372036854775808) then
  (bif (!(validA p1q0 p1q1)) then
  some ([.agg [((.ints .i64 []), true), ((.ints .i64 []), true)], .one ((.bool false), false)], [])
  else
  (bif decide (0 ≤ ((volW p0) : Int)) && decide (((volW p0) : Int) ≤ (volW p0)) && decide (((volW p0) : Int) ≤ 1152921504606846976) && decide (((8 : Nat) : Int) * (volW p0) ≤ 281474976710656) then
  (bif (decide ((((p1q1.length : Nat) : Int) : Int) > 0)) then
  L0 fuel fuel (t0 p0 p1q0 p1q1 0 ((List.replicate ((volW p0)).toNat (0 : Int)))) (k0  fuel)
  else
  (bif szB p0 then
  some ([.agg [((.ints .i64 p0), true), ((.ints .i64 (List.replicate ((volW p0)).toNat (0 : Int))), true)], .one ((.bool true), false)], [])
  else
  none))
  else
  none))
  else
  none)
  else
  some ([.agg [((.ints .i64 []), true), ((.ints .i64 []), true)], .one ((.bool false), false)], []))
  else
  none) := by kernel_rfl
theorem s0 (fuel n0 : Nat) (p0 : List Int) (p1q0 : List Int) (p1q1 : List Int) (x0q2 : Int) (x0q5 : List Int) : L0 fuel (n0 + 1) (t0 p0 p1q0 p1q1 x0q2 x0q5) (k0  fuel) =
  (bif (decide ((x0q2 : Int) < (((List.replicate ((volW p0)).toNat (0 : Int)).length : Nat) : Int))) then
  (bif decide ((((p1q1.length : Nat) : Int) : Int) = 0) then
  none
  else
  (idx (Int.tmod x0q2 ((p1q1.length : Nat) : Int)) p1q1.length).bind fun j7 =>
  (p1q1[j7]?).bind fun v8 =>
  (idx x0q2 x0q5.length).bind fun j9 =>
  (bif decide (j9 < x0q5.length) then
  L0 fuel n0 (t0 p0 p1q0 p1q1 ((IntKind.wrap .i64 (x0q2 + 1))) ((x0q5.set j9 v8))) (k0  fuel)
  else
  none))
  else
  (bif szB p0 then
  some ([.agg [((.ints .i64 p0), true), ((.ints .i64 x0q5), true)], .one ((.bool true), false)], [])
  else
  none)) := by kernel_rfl
end impl_Reshape
theorem impl_Reshape.ok_of (hX : ∀ E ∈ impl_Reshape.X, CallSpec Try.prog E) (h : ∀ (sh : List Int) (s2 : List Int) (da : List Int), (decide (sh.length < 9223372036854775808) && decide (s2.length < 9223372036854775808) && decide (da.length < 9223372036854775808)) = true → ∃ fuel, runF Try.prog impl_Reshape.X impl_Reshape.I 0 fuel 20 Try.f20 [.d (.ints .i64 sh), .d (.agg [(.ints .i64 s2), (.ints .i64 da)])] = some ([.agg [((.ints .i64 (reshS sh s2 da)), true), ((.ints .i64 (reshD sh s2 da)), true)], .one ((.bool (reshB sh s2 da)), false)], [])) : CallSpec Try.prog impl_Reshape.E :=
  callSpec_of (d := 0) hX (by kernel_rfl) impl_Reshape.I_ok (by kernel_rfl) (by kernel_rfl) (by kernel_rfl) (fun _ _ _ _ h => by dsimp only [impl_Reshape.E] at h; cases h) (fun xs hp => by
    dsimp only [impl_Reshape.E] at hp ⊢
    split at hp
    · exact h _ _ _ hp
    · cases hp)
theorem impl_Reshape.loop (fuel : Nat) (sh s2 da : List Int) (hv : validS sh = true) (hd : ((da.length : Nat) : Int) ≠ 0) : ∀ (m n j : Nat) (out : List Int), (volW sh).toNat - j = m → m < n → j ≤ (volW sh).toNat → out.length = (volW sh).toNat → out.take j = tab j (fun i => da.getD (i % da.length) 0) →
    impl_Reshape.L0 fuel n (impl_Reshape.t0 sh s2 da (j : Int) out) (impl_Reshape.k0 fuel) = some ([.agg [(.ints .i64 sh, true), (.ints .i64 (reD sh da), true)], .one (.bool true, false)], []) := by
  have hb := vol_bd hv
  have hs := (validS_inv hv).1
  intro m
  induction m with
  | zero =>
    intro n j out h1 h2 h3 h4 h5
    obtain ⟨n, rfl⟩ : ∃ n', n = n' + 1 := ⟨n - 1, by omega⟩
    rw [impl_Reshape.s0, List.length_replicate, dge (by omega), szB_of (xs := sh) (by omega)]
    simp only [cond_true, cond_false, reD]
    rw [fill_end (n := (volW sh).toNat) h4 (by rw [show j = (volW sh).toNat by omega] at h5; exact h5)]
  | succ m ih =>
    intro n j out h1 h2 h3 h4 h5
    obtain ⟨n, rfl⟩ : ∃ n', n = n' + 1 := ⟨n - 1, by omega⟩
    have hj2 : j < out.length := by omega
    obtain ⟨g1, g2⟩ := re_get (j := j) hd
    rw [impl_Reshape.s0, List.length_replicate, dlt (by omega), decide_eq_false hd, g1, idx_nat hj2, w1 (by omega)]
    simp only [cond_true, cond_false, Option.bind_some, g2, hj2, decide_true]
    exact ih n (j + 1) _ (by omega) (by omega) (by omega) (by simpa using h4) (fill_step (f := fun i => da.getD (i % da.length) 0) (show j < (volW sh).toNat by omega) h4 h5)
theorem impl_Reshape.ok : CallSpec Try.prog impl_Reshape.E := impl_Reshape.ok_of (by simp [impl_Reshape.X, impl_layoutOf.ok, impl_ValidArray.ok, impl_copyList.ok]) fun sh s2 da h => by
  simp only [Bool.and_eq_true] at h
  refine ⟨(volW sh).toNat + 1, ?_⟩
  rw [impl_Reshape.e, h.1.1, h.1.2, h.2]
  unfold reshS reshD reshB
  cases hv : validS sh with
  | false => rfl
  | true =>
    have hb := vol_bd hv
    have hs := (validS_inv hv).1
    cases hv2 : validA s2 da with
    | false => rfl
    | true =>
      rw [mkOk hb.1 (by omega)]
      simp only [cond_true, Bool.and_self, Bool.not_true, cond_false]
      by_cases hd : ((da.length : Nat) : Int) > 0
      · rw [decide_eq_true hd, cond_true]
        exact impl_Reshape.loop ((volW sh).toNat + 1) sh s2 da hv (by omega) (volW sh).toNat ((volW sh).toNat + 1) 0 _ (by omega) (by omega) (by omega) (by simp) (by simp [tab])
      · have h0 : da = [] := List.eq_nil_of_length_eq_zero (by omega)
        rw [decide_eq_false hd, szB_of (xs := sh) (by omega)]
        have : List.replicate (volW sh).toNat (0 : Int) = reD sh da := by
          rw [h0]
          apply List.ext_getElem?
          intro i
          by_cases hi : i < (volW sh).toNat
          · unfold reD; rw [tab_get hi]; simp [hi]
          · rw [List.getElem?_eq_none (by simp; omega), List.getElem?_eq_none (by unfold reD; rw [tab_length]; omega)]
        rw [this]
        rfl

namespace slices_Equal_int_int
noncomputable def E : Entry := ⟨54, true, false, fun | [.d (.ints .i64 xs), .d (.ints .i64 ys)] => decide (xs.length < 9223372036854775808) && decide (ys.length < 9223372036854775808) | _ => false, fun | [.d (.ints .i64 xs), .d (.ints .i64 ys)] => ([.one ((.bool (decide (xs = ys))), false)], []) | _ => ([], []), fun _ => [], false, fun _ => none⟩
end slices_Equal_int_int
namespace slices_Equal_int_int
noncomputable def X : List Entry := []
noncomputable def I : List Inl := [⟨54, Try.f54, ⟨[], [(1000004, [2, 3, 4, 5, 6, 7, 8, 9, 10, 11, 14, 15, 16, 17, 18, 19, 20, 21, 22, 23, 24, 25])], [], [(6, [0, 1, 4, 5, 2, 3, 6, 7, 8])], [], []⟩⟩]
theorem I_ok : ∀ i ∈ I, Try.prog.funcs[i.f]? = some i.fn ∧ (i.fn.name == "runtime.NumGoroutine") = false := by
  intro i hi
  simp only [I, List.mem_cons, List.not_mem_nil, or_false] at hi
  subst hi
  exact ⟨by kernel_rfl, by kernel_rfl⟩
noncomputable abbrev L0 (fuel n : Nat) (s : St) (k : Kont) := lAt Try.prog X I fuel true 0 false 54 (bodyOf Try.f54) [1, 1, 0, 1, 0] n s k
noncomputable abbrev k0  (fuel : Nat) : Kont := (kAt Try.prog X I fuel true 0 false 54 (bodyOf Try.f54) [1, 1, 0, 1, 0] [] (endK Try.prog Try.f54))
noncomputable def t0 (p0 : List Int) (p1 : List Int) (x0q3 : Int) : St := ⟨[(.imm (.ints .i64 p0)), (.imm (.ints .i64 p1)), .dead, .dead, .dead, .dead, .dead, .dead, .dead, .dead, .dead, .dead, (.imm (.int .i64 ((p0.length : Nat) : Int))), (.imm (.int .i64 x0q3)), .dead, .dead, .dead, .dead, .dead, .dead, .dead, .dead, .dead, .dead, .dead, .dead], hOf [], [], []⟩
theorem e (fuel : Nat) (p0 : List Int) (p1 : List Int) : runF Try.prog X I 0 fuel 54 Try.f54 [.d (.ints .i64 p0), .d (.ints .i64 p1)] =
  (bif ((((p0.length : Nat) : Int) : Int) != ((p1.length : Nat) : Int)) then
  some ([.one ((.bool false), false)], [])
  else
  L0 fuel fuel (t0 p0 p1 0) (k0  fuel)) := by kernel_rfl
theorem s0 (fuel n0 : Nat) (p0 : List Int) (p1 : List Int) (x0q3 : Int) : L0 fuel (n0 + 1) (t0 p0 p1 x0q3) (k0  fuel) =
  (bif (decide ((x0q3 : Int) < ((p0.length : Nat) : Int))) then
  (idx x0q3 p0.length).bind fun j9 =>
  (p0[j9]?).bind fun v10 =>
  (idx x0q3 p1.length).bind fun j11 =>
  (p1[j11]?).bind fun v12 =>
  (bif ((v10 : Int) != v12) then
  some ([.one ((.bool false), false)], [])
  else
  L0 fuel n0 (t0 p0 p1 ((IntKind.wrap .i64 (x0q3 + 1)))) (k0  fuel))
  else
  some ([.one ((.bool true), false)], [])) := by kernel_rfl
end slices_Equal_int_int
theorem slices_Equal_int_int.ok_of (hX : ∀ E ∈ slices_Equal_int_int.X, CallSpec Try.prog E) (h : ∀ (xs : List Int) (ys : List Int), (decide (xs.length < 9223372036854775808) && decide (ys.length < 9223372036854775808)) = true → ∃ fuel, runF Try.prog slices_Equal_int_int.X slices_Equal_int_int.I 0 fuel 54 Try.f54 [.d (.ints .i64 xs), .d (.ints .i64 ys)] = some ([.one ((.bool (decide (xs = ys))), false)], [])) : CallSpec Try.prog slices_Equal_int_int.E :=
  callSpec_of (d := 0) hX (by kernel_rfl) slices_Equal_int_int.I_ok (by kernel_rfl) (by kernel_rfl) (by kernel_rfl) (fun _ _ _ _ h => by dsimp only [slices_Equal_int_int.E] at h; cases h) (fun xs hp => by
    dsimp only [slices_Equal_int_int.E] at hp ⊢
    split at hp
    · exact h _ _ hp
    · cases hp)
theorem slices_Equal_int_int.loop (fuel : Nat) (xs ys : List Int) (hl : xs.length = ys.length) (hx : xs.length < 9223372036854775808) : ∀ (m n j : Nat), xs.length - j = m → m < n → j ≤ xs.length →
    slices_Equal_int_int.L0 fuel n (slices_Equal_int_int.t0 xs ys (j : Int)) (slices_Equal_int_int.k0 fuel) = some ([.one (.bool (decide (xs.drop j = ys.drop j)), false)], []) := by
  intro m
  induction m with
  | zero =>
    intro n j h1 h2 h3
    obtain ⟨n, rfl⟩ : ∃ n', n = n' + 1 := ⟨n - 1, by omega⟩
    have hj : ¬ j < xs.length := by omega
    rw [slices_Equal_int_int.s0, dge hj, dropE hj, dropE (xs := ys) (by omega)]
    rfl
  | succ m ih =>
    intro n j h1 h2 h3
    obtain ⟨n, rfl⟩ : ∃ n', n = n' + 1 := ⟨n - 1, by omega⟩
    have hj : j < xs.length := by omega
    have hj2 : j < ys.length := by omega
    rw [slices_Equal_int_int.s0, dlt hj, idx_nat hj, idx_nat hj2, w1 (by omega), dropS hj, dropS hj2]
    simp only [cond_true, Option.bind_some, getS hj, getS hj2]
    rw [ih n (j + 1) (by omega) (by omega) (by omega)]
    by_cases hv : xs[j] = ys[j]
    · rw [hv]
      simp only [bne_self_eq_false, cond_false, List.cons.injEq, true_and]
    · have : (xs[j] != ys[j]) = true := by simp [hv]
      rw [this]
      simp only [cond_true, List.cons.injEq, hv, false_and, decide_false]

theorem slices_Equal_int_int.ok : CallSpec Try.prog slices_Equal_int_int.E := slices_Equal_int_int.ok_of (by simp [slices_Equal_int_int.X]) fun xs ys h => by
  simp only [Bool.and_eq_true, decide_eq_true_eq] at h
  refine ⟨xs.length + 1, ?_⟩
  rw [slices_Equal_int_int.e]
  by_cases hl : xs.length = ys.length
  · have := slices_Equal_int_int.loop (xs.length + 1) xs ys hl h.1 xs.length (xs.length + 1) 0 (by omega) (by omega) (by omega)
    simp only [List.drop_zero] at this
    simp only [hl, bne_self_eq_false, cond_false]
    rw [← hl]
    exact this
  · have hne : xs ≠ ys := fun e => hl (e ▸ rfl)
    have : (((xs.length : Nat) : Int) != ((ys.length : Nat) : Int)) = true := by simp; omega
    rw [this]
    simp [hne]

namespace impl_pairwise
noncomputable def E : Entry := ⟨55, false, false, fun | [.d (.fn false dom G), .d (.ints .i64 xs), .d (.ints .i64 ys)] => szB xs && decide (xs.length ≤ ys.length) && pwB dom xs ys | _ => false, fun | [.d (.fn false dom G), .d (.ints .i64 xs), .d (.ints .i64 ys)] => ([.one ((.ints .i64 (pwD G xs ys)), true)], []) | _ => ([], []), fun _ => [], true, fun _ => none⟩
end impl_pairwise
namespace impl_pairwise
noncomputable def X : List Entry := []
noncomputable def I : List Inl := [⟨55, Try.f55, ⟨[], [(1000003, [3, 4, 5, 6, 8, 9, 10, 11, 12, 15, 16, 17, 18, 19, 20, 21, 22, 23, 24, 25, 26, 27, 28, 29, 30, 31])], [], [(5, [0, 1, 2, 3, 4, 7, 8, 5, 6, 9, 10, 11, 12, 13])], [], []⟩⟩]
theorem I_ok : ∀ i ∈ I, Try.prog.funcs[i.f]? = some i.fn ∧ (i.fn.name == "runtime.NumGoroutine") = false := by
  intro i hi
  simp only [I, List.mem_cons, List.not_mem_nil, or_false] at hi
  subst hi
  exact ⟨by kernel_rfl, by kernel_rfl⟩
noncomputable abbrev L0 (fuel n : Nat) (s : St) (k : Kont) := lAt Try.prog X I fuel true 0 false 55 (bodyOf Try.f55) [1, 1, 0, 1, 0] n s k
noncomputable abbrev k0  (fuel : Nat) : Kont := (kAt Try.prog X I fuel true 0 false 55 (bodyOf Try.f55) [1, 1, 0, 1, 0] [] (endK Try.prog Try.f55))
noncomputable def t0 (p0d : List Q → Bool) (p0g : List Q → Int) (p1 : List Int) (p2 : List Int) (x0q5 : Int) (x0q6 : List Int) : St := ⟨[(.imm (.fn false p0d p0g)), (.imm (.ints .i64 p1)), (.imm (.ints .i64 p2)), .dead, .dead, .dead, .dead, (.all 1000000000 1), .dead, .dead, .dead, .dead, .dead, (.imm (.int .i64 (((List.replicate (((p1.length : Nat) : Int)).toNat (0 : Int)).length : Nat) : Int))), (.imm (.int .i64 x0q5)), .dead, .dead, .dead, .dead, .dead, .dead, .dead, .dead, .dead, .dead, .dead, .dead, .dead, .dead, .dead, .dead, .dead], hOf [(1000000000, (.ints .i64 x0q6))], [], []⟩
theorem e (fuel : Nat) (p0d : List Q → Bool) (p0g : List Q → Int) (p1 : List Int) (p2 : List Int) : runF Try.prog X I 0 fuel 55 Try.f55 [.d (.fn false p0d p0g), .d (.ints .i64 p1), .d (.ints .i64 p2)] =
  (bif decide (0 ≤ (((p1.length : Nat) : Int) : Int)) && decide ((((p1.length : Nat) : Int) : Int) ≤ ((p1.length : Nat) : Int)) && decide ((((p1.length : Nat) : Int) : Int) ≤ 1152921504606846976) && decide (((8 : Nat) : Int) * ((p1.length : Nat) : Int) ≤ 281474976710656) then
  L0 fuel fuel (t0 p0d p0g p1 p2 0 ((List.replicate (((p1.length : Nat) : Int)).toNat (0 : Int)))) (k0  fuel)
  else
  none) := by kernel_rfl
theorem s0 (fuel n0 : Nat) (p0d : List Q → Bool) (p0g : List Q → Int) (p1 : List Int) (p2 : List Int) (x0q5 : Int) (x0q6 : List Int) : L0 fuel (n0 + 1) (t0 p0d p0g p1 p2 x0q5 x0q6) (k0  fuel) =
  (bif (decide ((x0q5 : Int) < (((List.replicate (((p1.length : Nat) : Int)).toNat (0 : Int)).length : Nat) : Int))) then
  (idx x0q5 p1.length).bind fun j11 =>
  (p1[j11]?).bind fun v12 =>
  (idx x0q5 p2.length).bind fun j13 =>
  (p2[j13]?).bind fun v14 =>
  (bif (p0d [Q.i v12, Q.i v14]) then
  (idx x0q5 x0q6.length).bind fun j15 =>
  (bif decide (j15 < x0q6.length) then
  L0 fuel n0 (t0 p0d p0g p1 p2 ((IntKind.wrap .i64 (x0q5 + 1))) ((x0q6.set j15 (p0g [Q.i v12, Q.i v14])))) (k0  fuel)
  else
  none)
  else
  none)
  else
  some ([.one ((.ints .i64 x0q6), true)], [])) := by kernel_rfl
end impl_pairwise
theorem impl_pairwise.ok_of (hX : ∀ E ∈ impl_pairwise.X, CallSpec Try.prog E) (h : ∀ (dom : List Q → Bool) (G : List Q → Int) (xs : List Int) (ys : List Int), (szB xs && decide (xs.length ≤ ys.length) && pwB dom xs ys) = true → ∃ fuel, runF Try.prog impl_pairwise.X impl_pairwise.I 0 fuel 55 Try.f55 [.d (.fn false dom G), .d (.ints .i64 xs), .d (.ints .i64 ys)] = some ([.one ((.ints .i64 (pwD G xs ys)), true)], [])) : CallSpec Try.prog impl_pairwise.E :=
  callSpec_of (d := 0) hX (by kernel_rfl) impl_pairwise.I_ok (by kernel_rfl) (by kernel_rfl) (by kernel_rfl) (fun _ _ _ _ h => by dsimp only [impl_pairwise.E] at h; cases h) (fun xs hp => by
    dsimp only [impl_pairwise.E] at hp ⊢
    split at hp
    · exact h _ _ _ _ hp
    · cases hp)
theorem impl_pairwise.ok : CallSpec Try.prog impl_pairwise.E := impl_pairwise.ok_of (by simp [impl_pairwise.X]) fun dom G xs ys h => ⟨xs.length + 1, by
  simp only [Bool.and_eq_true, decide_eq_true_eq] at h
  have hx := szB_le h.1.1
  have hA : (pwD G xs ys).length = xs.length := tab_length _ _
  rw [impl_pairwise.e, mkOk (by omega) (by omega), cond_true]
  refine run_loop (N := xs.length) (fun n j out => impl_pairwise.L0 (xs.length + 1) n (impl_pairwise.t0 dom G xs ys (j : Int) out) (impl_pairwise.k0 (xs.length + 1))) (fun j out => out = part (pwD G xs ys) j) ?_ ?_ (xs.length + 1) 0 _ (by omega) (by omega) (by rw [part_zero, hA]; rfl)
  · intro n out ho
    rw [← hA, part_all] at ho
    rw [impl_pairwise.s0, List.length_replicate, Int.toNat_natCast, dge (by omega), ho]
    rfl
  · intro n j out hj ho
    have hol : out.length = xs.length := by rw [ho, part_length (by omega), hA]
    have hy : j < ys.length := by omega
    rw [impl_pairwise.s0, List.length_replicate, Int.toNat_natCast, dlt hj, idx_nat hj, idx_nat hy, idx_nat (by omega), w1 (by omega)]
    simp only [cond_true, Option.bind_some, getD_get hj, getD_get hy]
    rw [pwB_get h.2 hj, decide_eq_true (by omega)]
    refine ⟨_, ?_, rfl⟩
    rw [ho, part_set (by omega)]
    exact tab_getD hj⟩

namespace impl_Combine
noncomputable def E : Entry := ⟨21, false, false, fun | [.d (.int .i64 op), .d (.agg [(.ints .i64 s1), (.ints .i64 d1)]), .d (.agg [(.ints .i64 s2), (.ints .i64 d2)])] => decide (s1.length < 9223372036854775808) && decide (d1.length < 9223372036854775808) && decide (s2.length < 9223372036854775808) && decide (d2.length < 9223372036854775808) | _ => false, fun | [.d (.int .i64 op), .d (.agg [(.ints .i64 s1), (.ints .i64 d1)]), .d (.agg [(.ints .i64 s2), (.ints .i64 d2)])] => ([.agg [((.ints .i64 (comS op s1 d1 s2 d2)), true), ((.ints .i64 (comD op s1 d1 s2 d2)), true)], .one ((.bool (comB op s1 d1 s2 d2)), false)], []) | _ => ([], []), fun _ => [], true, fun _ => none⟩
end impl_Combine
namespace impl_Combine
noncomputable def X : List Entry := [impl_functionOfTwo_f.E, impl_ValidArray.E, impl_Reshape.E, slices_Equal_int_int.E, impl_copyList.E, impl_pairwise.E]
noncomputable def I : List Inl := [⟨21, Try.f21, ⟨[32, 43, 55, 61], [], [], [(10, [0, 3, 4, 6, 1, 5, 7, 2, 8, 9, 10, 11])], [], []⟩⟩]
theorem I_ok : ∀ i ∈ I, Try.prog.funcs[i.f]? = some i.fn ∧ (i.fn.name == "runtime.NumGoroutine") = false := by
  intro i hi
  simp only [I, List.mem_cons, List.not_mem_nil, or_false] at hi
  subst hi
  exact ⟨by kernel_rfl, by kernel_rfl⟩
theorem e (fuel : Nat) (p0 : Int) (p1q0 : List Int) (p1q1 : List Int) (p2q0 : List Int) (p2q1 : List Int) : runF Try.prog X I 0 fuel 21 Try.f21 [.d (.int .i64 p0), .d (.agg [(.ints .i64 p1q0), (.ints .i64 p1q1)]), .d (.agg [(.ints .i64 p2q0), (.ints .i64 p2q1)])] =
  (bif opOk p0 then
  (bif decide (p1q0.length < 9223372036854775808) && decide (p1q1.length < 9223372036854775808) then
  (bif (!(validA p1q0 p1q1)) then
  some ([.agg [((.ints .i64 []), true), ((.ints .i64 []), true)], .one ((.bool false), false)], [])
  else
  (bif decide (p2q0.length < 9223372036854775808) && decide (p2q1.length < 9223372036854775808) then
  (bif (!(validA p2q0 p2q1)) then
  some ([.agg [((.ints .i64 []), true), ((.ints .i64 []), true)], .one ((.bool false), false)], [])
  else
  (bif ((((p1q0.length : Nat) : Int) : Int) == 0) then
  (bif decide (p2q0.length < 9223372036854775808) && decide (p1q0.length < 9223372036854775808) && decide (p1q1.length < 9223372036854775808) then
  (bif decide (((reshS p2q0 p1q0 p1q1)).length < 9223372036854775808) && decide (p2q0.length < 9223372036854775808) then
  (bif (!(decide (((reshS p2q0 p1q0 p1q1)) = p2q0))) then
  some ([.agg [((.ints .i64 []), true), ((.ints .i64 []), true)], .one ((.bool false), false)], [])
  else
  (bif szB ((reshS p2q0 p1q0 p1q1)) then
  (bif szB ((reshD p2q0 p1q0 p1q1)) && decide (((reshD p2q0 p1q0 p1q1)).length ≤ p2q1.length) && pwB q2 ((reshD p2q0 p1q0 p1q1)) p2q1 then
  some ([.agg [((.ints .i64 ((reshS p2q0 p1q0 p1q1))), true), ((.ints .i64 (pwD ((q2v (operF p0))) ((reshD p2q0 p1q0 p1q1)) p2q1)), true)], .one ((.bool true), false)], [])
  else
  none)
  else
  none))
  else
  none)
  else
  none)
  else
  (bif ((((p2q0.length : Nat) : Int) : Int) == 0) then
  (bif decide (p1q0.length < 9223372036854775808) && decide (p2q0.length < 9223372036854775808) && decide (p2q1.length < 9223372036854775808) then
  (bif decide (p1q0.length < 9223372036854775808) && decide (((reshS p1q0 p2q0 p2q1)).length < 9223372036854775808) then
  (bif (!(decide (p1q0 = ((reshS p1q0 p2q0 p2q1))))) then
  some ([.agg [((.ints .i64 []), true), ((.ints .i64 []), true)], .one ((.bool false), false)], [])
  else
  (bif szB p1q0 then
  (bif szB p1q1 && decide (p1q1.length ≤ ((reshD p1q0 p2q0 p2q1)).length) && pwB q2 p1q1 ((reshD p1q0 p2q0 p2q1)) then
  some ([.agg [((.ints .i64 p1q0), true), ((.ints .i64 (pwD ((q2v (operF p0))) p1q1 ((reshD p1q0 p2q0 p2q1)))), true)], .one ((.bool true), false)], [])
  else
  none)
  else
  none))
  else
  none)
  else
  none)
  else
  (bif decide (p1q0.length < 9223372036854775808) && decide (p2q0.length < 9223372036854775808) then
  (bif (!(decide (p1q0 = p2q0))) then
  some ([.agg [((.ints .i64 []), true), ((.ints .i64 []), true)], .one ((.bool false), false)], [])
  else
  (bif szB p1q0 then
  (bif szB p1q1 && decide (p1q1.length ≤ p2q1.length) && pwB q2 p1q1 p2q1 then
  some ([.agg [((.ints .i64 p1q0), true), ((.ints .i64 (pwD ((q2v (operF p0))) p1q1 p2q1)), true)], .one ((.bool true), false)], [])
  else
  none)
  else
  none))
  else
  none))))
  else
  none))
  else
  none)
  else
  some ([.agg [((.ints .i64 []), true), ((.ints .i64 []), true)], .one ((.bool false), false)], [])) := by kernel_rfl
end impl_Combine
theorem impl_Combine.ok_of (hX : ∀ E ∈ impl_Combine.X, CallSpec Try.prog E) (h : ∀ (op : Int) (s1 : List Int) (d1 : List Int) (s2 : List Int) (d2 : List Int), (decide (s1.length < 9223372036854775808) && decide (d1.length < 9223372036854775808) && decide (s2.length < 9223372036854775808) && decide (d2.length < 9223372036854775808)) = true → ∃ fuel, runF Try.prog impl_Combine.X impl_Combine.I 0 fuel 21 Try.f21 [.d (.int .i64 op), .d (.agg [(.ints .i64 s1), (.ints .i64 d1)]), .d (.agg [(.ints .i64 s2), (.ints .i64 d2)])] = some ([.agg [((.ints .i64 (comS op s1 d1 s2 d2)), true), ((.ints .i64 (comD op s1 d1 s2 d2)), true)], .one ((.bool (comB op s1 d1 s2 d2)), false)], [])) : CallSpec Try.prog impl_Combine.E :=
  callSpec_of (d := 0) hX (by kernel_rfl) impl_Combine.I_ok (by kernel_rfl) (by kernel_rfl) (by kernel_rfl) (fun _ _ _ _ h => by dsimp only [impl_Combine.E] at h; cases h) (fun xs hp => by
    dsimp only [impl_Combine.E] at hp ⊢
    split at hp
    · exact h _ _ _ _ _ hp
    · cases hp)
theorem impl_Combine.ok : CallSpec Try.prog impl_Combine.E := impl_Combine.ok_of (by simp [impl_Combine.X, impl_functionOfTwo_f.ok, impl_ValidArray.ok, impl_Reshape.ok, slices_Equal_int_int.ok, impl_copyList.ok, impl_pairwise.ok]) fun op s1 d1 s2 d2 h => ⟨0, by
  rw [impl_Combine.e]
  simp only [Bool.and_eq_true] at h
  obtain ⟨⟨⟨h1, h2⟩, h3⟩, h4⟩ := h
  simp only [h1, h2, h3, h4, Bool.and_self, Bool.true_and, Bool.and_true, cond_true, len0, pwB_q2, pwD_q2]
  unfold comS comD
  cases ho : opOk op with
  | false => simp only [comB, ho]; rfl
  | true =>
    cases v1 : validA s1 d1 with
    | false => simp only [comB, ho, v1]; rfl
    | true =>
      cases v2 : validA s2 d2 with
      | false => simp only [comB, ho, v1, v2]; rfl
      | true =>
        have b1 := validA_len v1
        have b2 := validA_len v2
        simp only [comB, ho, v1, v2, Bool.and_self, Bool.true_and, cond_true, Bool.not_true, cond_false]
        by_cases e1 : s1.length = 0
        · have e1' := List.length_eq_zero_iff.mp e1
          have hr := resh_sc (e1' ▸ v1) v2 e1'
          have b3 := resh_len s2 s1 d1
          have hd : (reshD s2 s1 d1).length = d2.length := by rw [hr.2, tab_length]
          rw [decide_eq_true e1, cond_true, decide_eq_true (p := (reshS s2 s1 d1).length < 9223372036854775808) (by omega), cond_true, decide_eq_true hr.1, szB_of (by omega), szB_of (by omega), decide_eq_true (p := (reshD s2 s1 d1).length ≤ d2.length) (by omega), hd]
          subst e1'
          rw [cD_a op v1 v2, hr.1]
          simp [fitB, cS]
        · rw [decide_eq_false e1, cond_false]
          by_cases e2 : s2.length = 0
          · have e2' := List.length_eq_zero_iff.mp e2
            have hr := resh_sc (e2' ▸ v2) v1 e2'
            have b3 := resh_len s1 s2 d2
            have hd : (reshD s1 s2 d2).length = d1.length := by rw [hr.2, tab_length]
            rw [decide_eq_true e2, cond_true, decide_eq_true (p := (reshS s1 s2 d2).length < 9223372036854775808) (by omega), cond_true, decide_eq_true hr.1.symm, szB_of (by omega), szB_of (by omega), decide_eq_true (p := d1.length ≤ (reshD s1 s2 d2).length) (by omega)]
            subst e2'
            rw [cD_b op v1 v2 e1]
            simp [fitB, cS, e1]
          · rw [decide_eq_false e2, cond_false]
            by_cases e3 : s1 = s2
            · subst e3
              have l1 := vol_len v1
              have l2 := vol_len v2
              rw [decide_eq_true rfl, szB_of (by omega), szB_of (by omega), decide_eq_true (p := d1.length ≤ d2.length) (by omega), cD_c op v1 v2 e1]
              simp [fitB, cS, e1]
            · rw [decide_eq_false e3]
              simp [fitB, e1, e2, e3]⟩

namespace laws_FnScanAxisAdd
noncomputable def E : Entry := ⟨4, true, false, fun | [.d (.ints .u8 bs)] => bytesB bs | _ => false, fun | [.d (.ints .u8 bs)] => ([.one ((.bool true), false)], []) | _ => ([], []), fun _ => [], false, fun _ => none⟩
end laws_FnScanAxisAdd
namespace laws_FnScanAxisAdd
noncomputable def X : List Entry := [spec_DrawScanAxis.E, impl_ScanAxis.E, spec_ScanAxis.E, laws_equalArray.E, impl_ScalarOf.E, impl_Reshape.E, impl_CountTo.E, impl_Combine.E]
noncomputable def I : List Inl := [⟨4, Try.f4, ⟨[17, 24, 29, 39, 40, 45, 46, 47, 56], [], [], [(5, [1, 3, 0, 2, 4, 5, 6]), (10, [0, 1, 2, 3, 4, 5, 7, 6, 8, 9, 10])], [38], []⟩⟩]
theorem I_ok : ∀ i ∈ I, Try.prog.funcs[i.f]? = some i.fn ∧ (i.fn.name == "runtime.NumGoroutine") = false := by
  intro i hi
  simp only [I, List.mem_cons, List.not_mem_nil, or_false] at hi
  subst hi
  exact ⟨by kernel_rfl, by kernel_rfl⟩
theorem e (fuel : Nat) (p0 : List Int) : runF Try.prog X I 0 fuel 4 Try.f4 [.d (.ints .u8 p0)] =
  (bif (decide ((((p0.length : Nat) : Int) : Int) > 1048576)) then
  some ([.one ((.bool true), false)], [])
  else
  (bif bytesB p0 then
  (bif decide (((rxS (cutC p0))).length < 9223372036854775808) && decide (((rxD (cutC p0))).length < 9223372036854775808) then
  (bif decide (((rxS (cutC p0))).length < 9223372036854775808) && decide (((rxD (cutC p0))).length < 9223372036854775808) then
  (bif decide (((scS ((anyOpV (cutC p0) 0)) ((rxS (cutC p0))) ((rxD (cutC p0))) ((rxK (cutC p0))))).length < 9223372036854775808) && decide (((scD ((anyOpV (cutC p0) 0)) ((rxS (cutC p0))) ((rxD (cutC p0))) ((rxK (cutC p0))))).length < 9223372036854775808) && decide (((scS ((anyOpV (cutC p0) 0)) ((rxS (cutC p0))) ((rxD (cutC p0))) ((rxK (cutC p0))))).length < 9223372036854775808) && decide (((scD ((anyOpV (cutC p0) 0)) ((rxS (cutC p0))) ((rxD (cutC p0))) ((rxK (cutC p0))))).length < 9223372036854775808) then
  (bif (!(decide (((scS ((anyOpV (cutC p0) 0)) ((rxS (cutC p0))) ((rxD (cutC p0))) ((rxK (cutC p0))))) = ((scS ((anyOpV (cutC p0) 0)) ((rxS (cutC p0))) ((rxD (cutC p0))) ((rxK (cutC p0)))))) && decide (((scD ((anyOpV (cutC p0) 0)) ((rxS (cutC p0))) ((rxD (cutC p0))) ((rxK (cutC p0))))) = ((scD ((anyOpV (cutC p0) 0)) ((rxS (cutC p0))) ((rxD (cutC p0))) ((rxK (cutC p0)))))))) then
  some ([.one ((.bool false), false)], [])
  else
  (bif decide (([(IntKind.wrap .i64 ((Int.tmod ((p0.length : Nat) : Int) 20) + 1))]).length < 9223372036854775808) && decide (nilI.length < 9223372036854775808) && decide (((scalL 1)).length < 9223372036854775808) then
  (bif decide (((cntS ((IntKind.wrap .i64 ((Int.tmod ((p0.length : Nat) : Int) 20) + 1))))).length < 9223372036854775808) && decide (((cntD ((IntKind.wrap .i64 ((Int.tmod ((p0.length : Nat) : Int) 20) + 1))))).length < 9223372036854775808) && decide (nilI.length < 9223372036854775808) && decide (((scalL 1)).length < 9223372036854775808) then
  (bif (reshB ([(IntKind.wrap .i64 ((Int.tmod ((p0.length : Nat) : Int) 20) + 1))]) nilI ((scalL 1))) then
  (bif (comB 1 ((cntS ((IntKind.wrap .i64 ((Int.tmod ((p0.length : Nat) : Int) 20) + 1))))) ((cntD ((IntKind.wrap .i64 ((Int.tmod ((p0.length : Nat) : Int) 20) + 1))))) nilI ((scalL 1))) then
  (bif decide (((reshS ([(IntKind.wrap .i64 ((Int.tmod ((p0.length : Nat) : Int) 20) + 1))]) nilI ((scalL 1)))).length < 9223372036854775808) && decide (((reshD ([(IntKind.wrap .i64 ((Int.tmod ((p0.length : Nat) : Int) 20) + 1))]) nilI ((scalL 1)))).length < 9223372036854775808) then
  (bif decide (((scS 1 ((reshS ([(IntKind.wrap .i64 ((Int.tmod ((p0.length : Nat) : Int) 20) + 1))]) nilI ((scalL 1)))) ((reshD ([(IntKind.wrap .i64 ((Int.tmod ((p0.length : Nat) : Int) 20) + 1))]) nilI ((scalL 1)))) 0)).length < 9223372036854775808) && decide (((scD 1 ((reshS ([(IntKind.wrap .i64 ((Int.tmod ((p0.length : Nat) : Int) 20) + 1))]) nilI ((scalL 1)))) ((reshD ([(IntKind.wrap .i64 ((Int.tmod ((p0.length : Nat) : Int) 20) + 1))]) nilI ((scalL 1)))) 0)).length < 9223372036854775808) && decide (((comS 1 ((cntS ((IntKind.wrap .i64 ((Int.tmod ((p0.length : Nat) : Int) 20) + 1))))) ((cntD ((IntKind.wrap .i64 ((Int.tmod ((p0.length : Nat) : Int) 20) + 1))))) nilI ((scalL 1)))).length < 9223372036854775808) && decide (((comD 1 ((cntS ((IntKind.wrap .i64 ((Int.tmod ((p0.length : Nat) : Int) 20) + 1))))) ((cntD ((IntKind.wrap .i64 ((Int.tmod ((p0.length : Nat) : Int) 20) + 1))))) nilI ((scalL 1)))).length < 9223372036854775808) then
  some ([.one ((.bool (decide (((scS 1 ((reshS ([(IntKind.wrap .i64 ((Int.tmod ((p0.length : Nat) : Int) 20) + 1))]) nilI ((scalL 1)))) ((reshD ([(IntKind.wrap .i64 ((Int.tmod ((p0.length : Nat) : Int) 20) + 1))]) nilI ((scalL 1)))) 0)) = ((comS 1 ((cntS ((IntKind.wrap .i64 ((Int.tmod ((p0.length : Nat) : Int) 20) + 1))))) ((cntD ((IntKind.wrap .i64 ((Int.tmod ((p0.length : Nat) : Int) 20) + 1))))) nilI ((scalL 1))))) && decide (((scD 1 ((reshS ([(IntKind.wrap .i64 ((Int.tmod ((p0.length : Nat) : Int) 20) + 1))]) nilI ((scalL 1)))) ((reshD ([(IntKind.wrap .i64 ((Int.tmod ((p0.length : Nat) : Int) 20) + 1))]) nilI ((scalL 1)))) 0)) = ((comD 1 ((cntS ((IntKind.wrap .i64 ((Int.tmod ((p0.length : Nat) : Int) 20) + 1))))) ((cntD ((IntKind.wrap .i64 ((Int.tmod ((p0.length : Nat) : Int) 20) + 1))))) nilI ((scalL 1))))))), false)], [])
  else
  none)
  else
  none)
  else
  some ([.one ((.bool false), false)], []))
  else
  some ([.one ((.bool false), false)], []))
  else
  none)
  else
  none))
  else
  none)
  else
  none)
  else
  none)
  else
  none)) := by kernel_rfl
end laws_FnScanAxisAdd
theorem laws_FnScanAxisAdd.ok_of (hX : ∀ E ∈ laws_FnScanAxisAdd.X, CallSpec Try.prog E) (h : ∀ (bs : List Int), (bytesB bs) = true → ∃ fuel, runF Try.prog laws_FnScanAxisAdd.X laws_FnScanAxisAdd.I 0 fuel 4 Try.f4 [.d (.ints .u8 bs)] = some ([.one ((.bool true), false)], [])) : CallSpec Try.prog laws_FnScanAxisAdd.E :=
  callSpec_of (d := 0) hX (by kernel_rfl) laws_FnScanAxisAdd.I_ok (by kernel_rfl) (by kernel_rfl) (by kernel_rfl) (fun _ _ _ _ h => by dsimp only [laws_FnScanAxisAdd.E] at h; cases h) (fun xs hp => by
    dsimp only [laws_FnScanAxisAdd.E] at hp ⊢
    split at hp
    · exact h _ hp
    · cases hp)
theorem laws_FnScanAxisAdd.ok : CallSpec Try.prog laws_FnScanAxisAdd.E := laws_FnScanAxisAdd.ok_of (by simp [laws_FnScanAxisAdd.X, spec_DrawScanAxis.ok, impl_ScanAxis.ok, spec_ScanAxis.ok, laws_equalArray.ok, impl_ScalarOf.ok, impl_Reshape.ok, impl_CountTo.ok, impl_Combine.ok]) fun bs h => by
  obtain ⟨F, hF⟩ : ∃ F : Nat, 4000 < F := ⟨4001, by omega⟩
  refine ⟨F, ?_⟩
  rw [laws_FnScanAxisAdd.e]
  by_cases hl : ((bs.length : Nat) : Int) > 1048576
  · rw [decide_eq_true hl]; rfl
  rw [decide_eq_false hl, cond_false, h, cond_true]
  have r0 := cut_ok h (p := 0) (by omega) (by omega)
  obtain ⟨a1, a2, _, _⟩ := rx_bd r0
  obtain ⟨op, hop⟩ : ∃ x, anyOpV (cutC bs) 0 = x := ⟨_, rfl⟩
  obtain ⟨sh, hsh⟩ : ∃ x, rxS (cutC bs) = x := ⟨_, rfl⟩
  obtain ⟨da, hda⟩ : ∃ x, rxD (cutC bs) = x := ⟨_, rfl⟩
  obtain ⟨k, hk⟩ : ∃ x, rxK (cutC bs) = x := ⟨_, rfl⟩
  rw [hsh] at a1
  rw [hda] at a2
  have g1 := lt_of (xs := sh) (by omega)
  have g2 := lt_of (xs := da) (by omega)
  simp only [hop, hsh, hda, hk]
  have sl := scan_len op sh da k
  have g3 := lt_of (xs := scS op sh da k) (by omega)
  have g4 := lt_of (xs := scD op sh da k) (by omega)
  obtain ⟨n, hn, n0, n1⟩ : ∃ n : Nat, IntKind.wrap .i64 (Int.tmod ((bs.length : Nat) : Int) 20 + 1) = (n : Int) ∧ 0 < n ∧ n ≤ 20 := ⟨bs.length % 20 + 1, by
    rw [show (20 : Int) = ((20 : Nat) : Int) from rfl, tmodN, w1 (by omega)], by omega, by omega⟩
  rw [hn]
  obtain ⟨v1, v2⟩ := validS_one (m := (n : Int)) (by omega) (by omega)
  have sc : scalL 1 = [1] := rfl
  have hv1 : validA [] [(1 : Int)] = true := rfl
  have rb : reshB [(n : Int)] nilI [1] = true := by simp only [reshB, v1, hv1, Bool.and_self]
  have re : reD [(n : Int)] [1] = List.replicate n 1 := by
    unfold reD
    rw [v2, Int.toNat_natCast]
    refine tab_const fun i hi => ?_
    simp [Nat.mod_one]
  have rs : reshS [(n : Int)] nilI [1] = [(n : Int)] := by simp only [reshS, rb, cond_true]
  have rd : reshD [(n : Int)] nilI [1] = List.replicate n 1 := by simp only [reshD, rb, cond_true, re]
  obtain ⟨s1, s2, s3⟩ := scan_ones n0 (by omega)
  have ck : cntOk (n : Int) = true := by simp only [cntOk, Bool.and_eq_true, decide_eq_true_eq]; omega
  have cs : cntS (n : Int) = [(n : Int)] := by simp only [cntS, ck, cond_true]
  have cd : cntD (n : Int) = tab n fun i => ((i : Nat) : Int) := by simp only [cntD, ck, cond_true, Int.toNat_natCast]; rfl
  have hvc : validA [(n : Int)] (tab n fun i => ((i : Nat) : Int)) = true := valid_same s2 (by rw [tab_length, List.length_replicate]) fun i hi => by
    rw [tab_length] at hi
    rw [tab_getD hi]
    exact numB_of (by omega)
  obtain ⟨c1, c2, c3⟩ := com_right (op := 1) (n := 1) rfl hvc rfl
  have hD : (tab (tab n fun i => ((i : Nat) : Int)).length fun i => operF 1 ((tab n fun i => ((i : Nat) : Int)).getD i 0) 1) = tab n fun i => ((i : Nat) : Int) + 1 := by
    rw [tab_length]
    refine tab_congr fun i hi => ?_
    rw [tab_getD hi]
    show limV (IntKind.wrap .i64 ((i : Int) + 1)) = (i : Int) + 1
    rw [wS (by omega) (by omega)]
    unfold limV minI maxI
    split <;> split <;> omega
  rw [hD] at c3
  have y1 := lt_of (xs := [(n : Int)]) (by simp)
  have y2 := lt_of (xs := nilI) (by simp)
  have y3 := lt_of (xs := [(1 : Int)]) (by simp)
  have y4 := lt_of (xs := List.replicate n (1 : Int)) (by simp; omega)
  have y5 := lt_of (xs := tab n fun i => ((i : Nat) : Int) + 1) (by rw [tab_length]; omega)
  have y6 := lt_of (xs := tab n fun i => ((i : Nat) : Int)) (by rw [tab_length]; omega)
  simp only [Bool.and_self, Bool.and_true, Bool.true_and, cond_true, cond_false, Bool.not_true, Bool.not_false, bne_self_eq_false, beq_self_eq_true, decide_true, eq_self, g1, g2, g3, g4, sc, rb, rs, rd, cs, cd, c1, c2, c3, y1, y2, y3, y4, y5, y6]
  simp only [Bool.and_self, Bool.and_true, Bool.true_and, cond_true, cond_false, Bool.not_true, Bool.not_false, bne_self_eq_false, beq_self_eq_true, decide_true, eq_self, scS, scD, s1, s3, y1, y2, y3, y4, y5, y6]

namespace spec_smallNum
noncomputable def E : Entry := ⟨88, false, false, fun | [.box [(.ints .u8 bs), (.int .i64 p)]] => rdOk bs p | _ => false, fun | [.box [(.ints .u8 bs), (.int .i64 p)]] => ([.one ((.int .i64 (oneV bs p smallL)), false)], [[(.ints .u8 bs), (.int .i64 (p + 1))]]) | _ => ([], []), fun _ => [], false, fun _ => none⟩
end spec_smallNum
namespace spec_smallNum
noncomputable def X : List Entry := [spec_reader_one.E]
noncomputable def I : List Inl := [⟨88, Try.f88, ⟨[], [], [], [], [4], []⟩⟩]
theorem I_ok : ∀ i ∈ I, Try.prog.funcs[i.f]? = some i.fn ∧ (i.fn.name == "runtime.NumGoroutine") = false := by
  intro i hi
  simp only [I, List.mem_cons, List.not_mem_nil, or_false] at hi
  subst hi
  exact ⟨by kernel_rfl, by kernel_rfl⟩
theorem e (fuel : Nat) (p0q0 : List Int) (p0q1 : Int) : runF Try.prog X I 0 fuel 88 Try.f88 [.box [(.ints .u8 p0q0), (.int .i64 p0q1)]] =
  (bif rdOk p0q0 p0q1 && decide (0 < (([0, 1, 2, 3, (-1), 5, (-2), 4]) : List Int).length) && decide ((([0, 1, 2, 3, (-1), 5, (-2), 4]) : List Int).length ≤ 1048576) then
  some ([.one ((.int .i64 (oneV p0q0 p0q1 ([0, 1, 2, 3, (-1), 5, (-2), 4]))), false)], [[(.ints .u8 p0q0), (.int .i64 (p0q1 + 1))]])
  else
  none) := by kernel_rfl
end spec_smallNum
theorem spec_smallNum.ok_of (hX : ∀ E ∈ spec_smallNum.X, CallSpec Try.prog E) (h : ∀ (bs : List Int) (p : Int), (rdOk bs p) = true → ∃ fuel, runF Try.prog spec_smallNum.X spec_smallNum.I 0 fuel 88 Try.f88 [.box [(.ints .u8 bs), (.int .i64 p)]] = some ([.one ((.int .i64 (oneV bs p smallL)), false)], [[(.ints .u8 bs), (.int .i64 (p + 1))]])) : CallSpec Try.prog spec_smallNum.E :=
  callSpec_of (d := 0) hX (by kernel_rfl) spec_smallNum.I_ok (by kernel_rfl) (by kernel_rfl) (by kernel_rfl) (fun _ _ _ _ h => by dsimp only [spec_smallNum.E] at h; cases h) (fun xs hp => by
    dsimp only [spec_smallNum.E] at hp ⊢
    split at hp
    · exact h _ _ hp
    · cases hp)
theorem spec_smallNum.ok : CallSpec Try.prog spec_smallNum.E := spec_smallNum.ok_of (by simp [spec_smallNum.X, spec_reader_one.ok]) fun bs p h => ⟨0, by
  rw [spec_smallNum.e, h]
  rfl⟩

namespace spec_vector
noncomputable def E : Entry := ⟨67, false, false, fun | [.d (.ints .i64 xs)] => szB xs | _ => false, fun | [.d (.ints .i64 xs)] => ([.agg [((.ints .i64 [((xs.length : Nat) : Int)]), true), ((.ints .i64 xs), true)]], []) | _ => ([], []), fun _ => [], true, fun _ => none⟩
end spec_vector
namespace spec_vector
noncomputable def X : List Entry := [spec_make1.E]
noncomputable def I : List Inl := [⟨67, Try.f67, ⟨[7], [], [], [], [5], []⟩⟩]
theorem I_ok : ∀ i ∈ I, Try.prog.funcs[i.f]? = some i.fn ∧ (i.fn.name == "runtime.NumGoroutine") = false := by
  intro i hi
  simp only [I, List.mem_cons, List.not_mem_nil, or_false] at hi
  subst hi
  exact ⟨by kernel_rfl, by kernel_rfl⟩
theorem e (fuel : Nat) (p0 : List Int) : runF Try.prog X I 0 fuel 67 Try.f67 [.d (.ints .i64 p0)] =
  (bif szB ([((p0.length : Nat) : Int)]) && szB p0 then
  some ([.agg [((.ints .i64 ([((p0.length : Nat) : Int)])), true), ((.ints .i64 p0), true)]], [])
  else
  none) := by kernel_rfl
end spec_vector
theorem spec_vector.ok_of (hX : ∀ E ∈ spec_vector.X, CallSpec Try.prog E) (h : ∀ (xs : List Int), (szB xs) = true → ∃ fuel, runF Try.prog spec_vector.X spec_vector.I 0 fuel 67 Try.f67 [.d (.ints .i64 xs)] = some ([.agg [((.ints .i64 [((xs.length : Nat) : Int)]), true), ((.ints .i64 xs), true)]], [])) : CallSpec Try.prog spec_vector.E :=
  callSpec_of (d := 0) hX (by kernel_rfl) spec_vector.I_ok (by kernel_rfl) (by kernel_rfl) (by kernel_rfl) (fun _ _ _ _ h => by dsimp only [spec_vector.E] at h; cases h) (fun xs hp => by
    dsimp only [spec_vector.E] at hp ⊢
    split at hp
    · exact h _ hp
    · cases hp)
theorem spec_vector.ok : CallSpec Try.prog spec_vector.E := spec_vector.ok_of (by simp [spec_vector.X, spec_make1.ok]) fun xs h => ⟨0, by
  rw [spec_vector.e, h, szB_of (by simp)]
  rfl⟩

namespace spec_anyVector
noncomputable def E : Entry := ⟨56, false, false, fun | [.box [(.ints .u8 bs), (.int .i64 p)]] => rdOk bs p && decide ((p : Int) ≤ 900000) | _ => false, fun | [.box [(.ints .u8 bs), (.int .i64 p)]] => ([.agg [((.ints .i64 (avS bs p)), false), ((.ints .i64 (avD bs p)), false)]], [[(.ints .u8 bs), (.int .i64 (avP bs p))]]) | _ => ([], []), fun _ => [], false, fun _ => none⟩
end spec_anyVector
namespace spec_anyVector
noncomputable def X : List Entry := [spec_reader_pick.E, spec_anyArray.E, spec_reader_one.E, spec_smallNum.E, spec_vector.E]
noncomputable def I : List Inl := [⟨56, Try.f56, ⟨[9], [(1000005, [1, 5, 6, 7, 8, 9, 10, 11, 12, 13, 14, 15, 16, 17, 18, 19, 20, 21, 22, 23, 24])], [], [], [12], []⟩⟩]
theorem I_ok : ∀ i ∈ I, Try.prog.funcs[i.f]? = some i.fn ∧ (i.fn.name == "runtime.NumGoroutine") = false := by
  intro i hi
  simp only [I, List.mem_cons, List.not_mem_nil, or_false] at hi
  subst hi
  exact ⟨by kernel_rfl, by kernel_rfl⟩
noncomputable abbrev L0 (fuel n : Nat) (s : St) (k : Kont) := lAt Try.prog X I fuel false 0 false 56 (bodyOf Try.f56) [1, 1, 1, 0, 1, 0] n s k
noncomputable abbrev k0  (fuel : Nat) : Kont := (kAt Try.prog X I fuel false 0 false 56 (bodyOf Try.f56) [1, 1, 1, 0, 1, 0] [] (endK Try.prog Try.f56))
noncomputable def t0 (p0q0 : List Int) (x0q0 : Int) (x0q2 : Int) (x0q3 : List Int) : St := ⟨[(.ptr 1000000000 0 0), .dead, (.ptr 1000000001 0 0), (.all 1000000002 1), (.imm (.int .i64 x0q0)), .dead, .dead, .dead, .dead, .dead, .dead, .dead, .dead, .dead, .dead, .dead, .dead, .dead, .dead, .dead, .dead, .dead, .dead, .dead, .dead], hOf [(1000000000, (.box [(.imm (.ints .u8 p0q0)), (.imm (.int .i64 x0q2))])), (1000000001, (.box [(.imm .nils), (.imm .nils)])), (1000000002, (.ints .i64 x0q3))], [(.ptr 1000000000 0 0)], []⟩
theorem e (fuel : Nat) (p0q0 : List Int) (p0q1 : Int) : runF Try.prog X I 0 fuel 56 Try.f56 [.box [(.ints .u8 p0q0), (.int .i64 p0q1)]] =
  (bif rdOk p0q0 p0q1 && decide ((10 : Int) ≤ 1048576) then
  (bif (((pickV p0q0 p0q1 10) : Int) == 0) then
  (bif rdOk p0q0 ((p0q1 + 1)) && decide ((((p0q1 + 1)) : Int) ≤ 1000000) then
  some ([.agg [((.ints .i64 (aArS p0q0 ((p0q1 + 1)))), false), ((.ints .i64 (aArD p0q0 ((p0q1 + 1)))), false)]], [[(.ints .u8 p0q0), (.int .i64 (aArP p0q0 ((p0q1 + 1))))]])
  else
  none)
  else
  (bif rdOk p0q0 ((p0q1 + 1)) && decide (0 < (([4, 5, 3, 6, 2, 1, 0, 9]) : List Int).length) && decide ((([4, 5, 3, 6, 2, 1, 0, 9]) : List Int).length ≤ 1048576) then
  L0 fuel fuel (t0 p0q0 ((oneV p0q0 ((p0q1 + 1)) ([4, 5, 3, 6, 2, 1, 0, 9]))) ((((p0q1 + 1)) + 1)) ([])) (k0  fuel)
  else
  none))
  else
  none) := by kernel_rfl
theorem s0 (fuel n0 : Nat) (p0q0 : List Int) (x0q0 : Int) (x0q2 : Int) (x0q3 : List Int) : L0 fuel (n0 + 1) (t0 p0q0 x0q0 x0q2 x0q3) (k0  fuel) =
  (bif (decide ((x0q0 : Int) > 0)) then
  (bif rdOk p0q0 x0q2 then
  (bif fits (x0q3.length + ([(oneV p0q0 x0q2 smallL)] : List Int).length) 8 then
  L0 fuel n0 (t0 p0q0 ((IntKind.wrap .i64 (x0q0 - 1))) ((x0q2 + 1)) ((x0q3 ++ [(oneV p0q0 x0q2 smallL)]))) (k0  fuel)
  else
  none)
  else
  none)
  else
  (bif szB x0q3 then
  some ([.agg [((.ints .i64 [((x0q3.length : Nat) : Int)]), false), ((.ints .i64 x0q3), false)]], [[(.ints .u8 p0q0), (.int .i64 x0q2)]])
  else
  none)) := by kernel_rfl
end spec_anyVector
theorem spec_anyVector.ok_of (hX : ∀ E ∈ spec_anyVector.X, CallSpec Try.prog E) (h : ∀ (bs : List Int) (p : Int), (rdOk bs p && decide ((p : Int) ≤ 900000)) = true → ∃ fuel, runF Try.prog spec_anyVector.X spec_anyVector.I 0 fuel 56 Try.f56 [.box [(.ints .u8 bs), (.int .i64 p)]] = some ([.agg [((.ints .i64 (avS bs p)), false), ((.ints .i64 (avD bs p)), false)]], [[(.ints .u8 bs), (.int .i64 (avP bs p))]])) : CallSpec Try.prog spec_anyVector.E :=
  callSpec_of (d := 0) hX (by kernel_rfl) spec_anyVector.I_ok (by kernel_rfl) (by kernel_rfl) (by kernel_rfl) (fun _ _ _ _ h => by dsimp only [spec_anyVector.E] at h; cases h) (fun xs hp => by
    dsimp only [spec_anyVector.E] at hp ⊢
    split at hp
    · exact h _ _ hp
    · cases hp)
theorem spec_anyVector.ok : CallSpec Try.prog spec_anyVector.E := spec_anyVector.ok_of (by simp [spec_anyVector.X, spec_reader_pick.ok, spec_anyArray.ok, spec_reader_one.ok, spec_smallNum.ok, spec_vector.ok]) fun bs p h => by
  obtain ⟨F, hF⟩ : ∃ F : Nat, 1000 < F := ⟨1001, by omega⟩
  refine ⟨F, ?_⟩
  simp only [Bool.and_eq_true, decide_eq_true_eq] at h
  have r1 := rd_le (q := p + 1) h.1 (by omega) (by omega)
  rw [spec_anyVector.e, h.1, r1, decide_eq_true (p := p + 1 ≤ 1000000) (by omega)]
  unfold avS avD avP avC
  cases pickV bs p 10 == 0 with
  | true => rfl
  | false =>
    obtain ⟨n1, n2⟩ := avN_bd h.1 h.2
    have hlen : (avV bs p).length = avN bs p := tab_length _ _
    have hz : (decide (0 < ([4, 5, 3, 6, 2, 1, 0, 9] : List Int).length) && decide (([4, 5, 3, 6, 2, 1, 0, 9] : List Int).length ≤ 1048576)) = true := rfl
    simp only [cond_false]
    rw [n2]
    show (bif (true && decide (0 < ([4, 5, 3, 6, 2, 1, 0, 9] : List Int).length) && decide (([4, 5, 3, 6, 2, 1, 0, 9] : List Int).length ≤ 1048576)) then _ else none) = _
    rw [show (true && decide (0 < ([4, 5, 3, 6, 2, 1, 0, 9] : List Int).length) && decide (([4, 5, 3, 6, 2, 1, 0, 9] : List Int).length ≤ 1048576)) = true from rfl, cond_true]
    refine run_loop (N := avN bs p) (fun n j (st : Int × Int × List Int) => spec_anyVector.L0 F n (spec_anyVector.t0 bs st.1 st.2.1 st.2.2) (spec_anyVector.k0 F)) (fun j st => st.1 = ((avN bs p - j : Nat) : Int) ∧ st.2.1 = p + 1 + 1 + ((j : Nat) : Int) ∧ st.2.2 = (avV bs p).take j) ?_ ?_ F 0 (_, p + 1 + 1, []) (by omega) (by omega) ⟨rfl, by simp, by simp⟩
    · rintro n ⟨c, q, out⟩ ⟨e0, e1, e2⟩
      simp only at e0 e1 e2
      rw [← hlen, List.take_length] at e2
      subst e0
      subst e1
      subst e2
      dsimp only
      rw [spec_anyVector.s0, decide_eq_false (by omega), cond_false, szB_of (by omega), hlen]
      rfl
    · rintro n j ⟨c, q, out⟩ hj ⟨e0, e1, e2⟩
      simp only at e0 e1 e2
      subst e0
      subst e1
      have hol : out.length = j := by rw [e2, take_len (by omega)]
      have r2 := rd_le (q := p + 1 + 1 + ((j : Nat) : Int)) h.1 (by omega) (by omega)
      rw [spec_anyVector.s0, decide_eq_true (by omega), cond_true, r2, cond_true, fitsOk (by simp only [List.length_cons, List.length_nil]; omega), cond_true]
      refine ⟨(((avN bs p - (j + 1) : Nat) : Int), p + 1 + 1 + ((j + 1 : Nat) : Int), out ++ [oneV bs (p + 1 + 1 + ((j : Nat) : Int)) smallL]), ⟨rfl, rfl, ?_⟩, ?_⟩
      · simp only
        rw [e2]
        refine take_push (by omega) ?_
        simp only [avV]
        rw [tab_getD hj]
      · rw [wS (by omega) (by omega), show ((avN bs p - j : Nat) : Int) - 1 = ((avN bs p - (j + 1) : Nat) : Int) by omega, show p + 1 + 1 + ((j + 1 : Nat) : Int) = p + 1 + 1 + ((j : Nat) : Int) + 1 by omega]

namespace spec_DrawOuterProduct
noncomputable def E : Entry := ⟨22, false, false, fun | [.d (.ints .u8 bs)] => bytesB bs | _ => false, fun | [.d (.ints .u8 bs)] => ([.one ((.int .i64 (anyOpV (cutC bs) 0)), false), .agg [((.ints .i64 (avS (cutC bs) 2)), false), ((.ints .i64 (avD (cutC bs) 2)), false)], .agg [((.ints .i64 (avS (cutC bs) (avP (cutC bs) 2))), false), ((.ints .i64 (avD (cutC bs) (avP (cutC bs) 2))), false)]], []) | _ => ([], []), fun _ => [], true, fun _ => none⟩
end spec_DrawOuterProduct
namespace spec_DrawOuterProduct
noncomputable def X : List Entry := [spec_newReader.E, spec_anyOp.E, spec_anyVector.E]
noncomputable def I : List Inl := [⟨22, Try.f22, ⟨[13, 17], [], [(4, [7])], [], [15], []⟩⟩]
theorem I_ok : ∀ i ∈ I, Try.prog.funcs[i.f]? = some i.fn ∧ (i.fn.name == "runtime.NumGoroutine") = false := by
  intro i hi
  simp only [I, List.mem_cons, List.not_mem_nil, or_false] at hi
  subst hi
  exact ⟨by kernel_rfl, by kernel_rfl⟩
theorem e (fuel : Nat) (p0 : List Int) : runF Try.prog X I 0 fuel 22 Try.f22 [.d (.ints .u8 p0)] =
  (bif rdOk ((cutC p0)) (0 + 1) && rdOk ((cutC p0)) 0 then
  (bif rdOk (((cutC p0))) ((0 + 2)) && decide ((((0 + 2)) : Int) ≤ 900000) then
  (bif rdOk ((((cutC p0)))) ((avP (((cutC p0))) ((0 + 2)))) && decide ((((avP (((cutC p0))) ((0 + 2)))) : Int) ≤ 900000) then
  some ([.one ((.int .i64 (anyOpV ((cutC p0)) 0)), false), .agg [((.ints .i64 (avS (((cutC p0))) ((0 + 2)))), false), ((.ints .i64 (avD (((cutC p0))) ((0 + 2)))), false)], .agg [((.ints .i64 (avS ((((cutC p0)))) ((avP (((cutC p0))) ((0 + 2)))))), false), ((.ints .i64 (avD ((((cutC p0)))) ((avP (((cutC p0))) ((0 + 2)))))), false)]], [])
  else
  none)
  else
  none)
  else
  none) := by kernel_rfl
end spec_DrawOuterProduct
theorem spec_DrawOuterProduct.ok_of (hX : ∀ E ∈ spec_DrawOuterProduct.X, CallSpec Try.prog E) (h : ∀ (bs : List Int), (bytesB bs) = true → ∃ fuel, runF Try.prog spec_DrawOuterProduct.X spec_DrawOuterProduct.I 0 fuel 22 Try.f22 [.d (.ints .u8 bs)] = some ([.one ((.int .i64 (anyOpV (cutC bs) 0)), false), .agg [((.ints .i64 (avS (cutC bs) 2)), false), ((.ints .i64 (avD (cutC bs) 2)), false)], .agg [((.ints .i64 (avS (cutC bs) (avP (cutC bs) 2))), false), ((.ints .i64 (avD (cutC bs) (avP (cutC bs) 2))), false)]], [])) : CallSpec Try.prog spec_DrawOuterProduct.E :=
  callSpec_of (d := 0) hX (by kernel_rfl) spec_DrawOuterProduct.I_ok (by kernel_rfl) (by kernel_rfl) (by kernel_rfl) (fun _ _ _ _ h => by dsimp only [spec_DrawOuterProduct.E] at h; cases h) (fun xs hp => by
    dsimp only [spec_DrawOuterProduct.E] at hp ⊢
    split at hp
    · exact h _ hp
    · cases hp)
theorem spec_DrawOuterProduct.ok : CallSpec Try.prog spec_DrawOuterProduct.E := spec_DrawOuterProduct.ok_of (by simp [spec_DrawOuterProduct.X, spec_newReader.ok, spec_anyOp.ok, spec_anyVector.ok]) fun bs h => ⟨0, by
  have r0 := cut_ok h (p := 0) (by omega) (by omega)
  obtain ⟨_, _, p1, p2⟩ := av_bd (rd_le (q := 2) r0 (by omega) (by omega)) (by omega)
  rw [spec_DrawOuterProduct.e, show (0 : Int) + 2 = 2 from rfl, r0, rd_le (q := 0 + 1) r0 (by omega) (by omega), rd_le (q := 2) r0 (by omega) (by omega), rd_le (q := avP (cutC bs) 2) r0 (by omega) (by omega), decide_eq_true (p := avP (cutC bs) 2 ≤ 900000) (by omega)]
  rfl⟩

namespace impl_OuterProduct_1
noncomputable def E : Entry := ⟨57, true, false, fun | [.d (.int .i64 n), .d (.pbox [(.fn false dom G)]), .d (.pbox [(.ints .i64 sa), (.ints .i64 da)]), .d (.pbox [(.int .i64 c)]), .d (.pbox [(.ints .i64 sb), (.ints .i64 db)])] => otP dom da db c n | _ => false, fun | [.d (.int .i64 n), .d (.pbox [(.fn false dom G)]), .d (.pbox [(.ints .i64 sa), (.ints .i64 da)]), .d (.pbox [(.int .i64 c)]), .d (.pbox [(.ints .i64 sb), (.ints .i64 db)])] => ([.one ((.int .i64 (G [.i (da.getD (n.toNat / db.length) 0), .i (db.getD (n.toNat % db.length) 0)])), false)], []) | _ => ([], []), fun _ => [], false, fun _ => none⟩
end impl_OuterProduct_1
namespace impl_OuterProduct_1
noncomputable def X : List Entry := []
noncomputable def I : List Inl := [⟨57, Try.f57, ⟨[], [], [], [(1, [1, 3, 8, 10, 0, 2, 4, 5, 6, 7, 9, 11, 12, 13, 14, 15, 16])], [], []⟩⟩]
theorem I_ok : ∀ i ∈ I, Try.prog.funcs[i.f]? = some i.fn ∧ (i.fn.name == "runtime.NumGoroutine") = false := by
  intro i hi
  simp only [I, List.mem_cons, List.not_mem_nil, or_false] at hi
  subst hi
  exact ⟨by kernel_rfl, by kernel_rfl⟩
theorem e (fuel : Nat) (p0 : Int) (f0q0d : List Q → Bool) (f0q0g : List Q → Int) (f1q0 : List Int) (f1q1 : List Int) (f2q0 : Int) (f3q0 : List Int) (f3q1 : List Int) : runF Try.prog X I 0 fuel 57 Try.f57 [.d (.int .i64 p0), .d (.pbox [(.fn false f0q0d f0q0g)]), .d (.pbox [(.ints .i64 f1q0), (.ints .i64 f1q1)]), .d (.pbox [(.int .i64 f2q0)]), .d (.pbox [(.ints .i64 f3q0), (.ints .i64 f3q1)])] =
  (bif decide ((f2q0 : Int) = 0) then
  none
  else
  (idx (IntKind.wrap .i64 (Int.tdiv p0 f2q0)) f1q1.length).bind fun j1 =>
  (f1q1[j1]?).bind fun v2 =>
  (bif decide ((f2q0 : Int) = 0) then
  none
  else
  (idx (Int.tmod p0 f2q0) f3q1.length).bind fun j3 =>
  (f3q1[j3]?).bind fun v4 =>
  (bif (f0q0d [Q.i v2, Q.i v4]) then
  some ([.one ((.int .i64 (f0q0g [Q.i v2, Q.i v4])), false)], [])
  else
  none))) := by kernel_rfl
end impl_OuterProduct_1
theorem impl_OuterProduct_1.ok_of (hX : ∀ E ∈ impl_OuterProduct_1.X, CallSpec Try.prog E) (h : ∀ (n : Int) (dom : List Q → Bool) (G : List Q → Int) (sa : List Int) (da : List Int) (c : Int) (sb : List Int) (db : List Int), (otP dom da db c n) = true → ∃ fuel, runF Try.prog impl_OuterProduct_1.X impl_OuterProduct_1.I 0 fuel 57 Try.f57 [.d (.int .i64 n), .d (.pbox [(.fn false dom G)]), .d (.pbox [(.ints .i64 sa), (.ints .i64 da)]), .d (.pbox [(.int .i64 c)]), .d (.pbox [(.ints .i64 sb), (.ints .i64 db)])] = some ([.one ((.int .i64 (G [.i (da.getD (n.toNat / db.length) 0), .i (db.getD (n.toNat % db.length) 0)])), false)], [])) : CallSpec Try.prog impl_OuterProduct_1.E :=
  callSpec_of (d := 0) hX (by kernel_rfl) impl_OuterProduct_1.I_ok (by kernel_rfl) (by kernel_rfl) (by kernel_rfl) (fun _ _ _ _ h => by dsimp only [impl_OuterProduct_1.E] at h; cases h) (fun xs hp => by
    dsimp only [impl_OuterProduct_1.E] at hp ⊢
    split at hp
    · exact h _ _ _ _ _ _ _ _ hp
    · cases hp)
theorem impl_OuterProduct_1.ok : CallSpec Try.prog impl_OuterProduct_1.E := impl_OuterProduct_1.ok_of (by simp [impl_OuterProduct_1.X]) fun n dom G sa da c sb db h => ⟨0, by
  simp only [otP, Bool.and_eq_true, decide_eq_true_eq] at h
  obtain ⟨⟨⟨⟨rfl, h0⟩, h1⟩, h60⟩, hd⟩ := h
  obtain ⟨n', rfl⟩ : ∃ n' : Nat, n = n' := ⟨n.toNat, by omega⟩
  rw [Int.toNat_natCast] at hd
  obtain ⟨d1, d2, d3⟩ := dec2 (n := n') (B := da.length) (M := db.length) (by omega)
  have hle : n' / db.length ≤ n' := Nat.div_le_self _ _
  have f1 := wN (n := n' / db.length) (by omega)
  have p1 : ¬ (((db.length : Nat) : Int) = 0) := by omega
  have i1 := idx_nat d1
  have i2 := idx_nat d2
  rw [impl_OuterProduct_1.e]
  simp only [tdivN, tmodN, f1, i1, i2, Option.bind_some, getD_get d1, getD_get d2, Int.toNat_natCast]
  rw [decide_eq_false p1, cond_false, cond_false, hd]
  rfl⟩

namespace impl_OuterProduct
noncomputable def E : Entry := ⟨23, false, false, fun | [.d (.int .i64 op), .d (.agg [(.ints .i64 sa), (.ints .i64 da)]), .d (.agg [(.ints .i64 sb), (.ints .i64 db)])] => decide (sa.length < 9223372036854775808) && decide (da.length < 9223372036854775808) && decide (sb.length < 9223372036854775808) && decide (db.length < 9223372036854775808) | _ => false, fun | [.d (.int .i64 op), .d (.agg [(.ints .i64 sa), (.ints .i64 da)]), .d (.agg [(.ints .i64 sb), (.ints .i64 db)])] => ([.agg [((.ints .i64 (otS op sa da sb db)), true), ((.ints .i64 (otD op sa da sb db)), true)], .one ((.bool (otB op sa da sb db)), false)], []) | _ => ([], []), fun _ => [], true, fun _ => none⟩
end impl_OuterProduct
namespace impl_OuterProduct
noncomputable def X : List Entry := [impl_functionOfTwo_f.E, impl_ValidArray.E, slices_Concat_int_int.E, impl_layoutOf_j.E, impl_OuterProduct_1.E]
noncomputable def I : List Inl := [⟨23, Try.f23, ⟨[33, 35], [(5, [0, 1, 2, 3, 7, 10, 11, 12, 13, 14, 15, 16, 17, 18, 19, 20, 21, 22, 23, 24, 25, 26, 27, 28, 29, 30, 31, 32, 33, 34, 35, 36, 37])], [(5, [8, 4, 9, 5])], [], [32], []⟩⟩, ⟨39, Try.f39, ⟨[12], [(1000006, [2, 3, 5, 6, 7, 9, 10, 11, 12, 13, 14, 15, 16, 17, 18, 19, 20, 21, 24, 25, 26, 27, 28, 29, 30, 31, 32, 33, 34, 35])], [], [], [], []⟩⟩]
theorem I_ok : ∀ i ∈ I, Try.prog.funcs[i.f]? = some i.fn ∧ (i.fn.name == "runtime.NumGoroutine") = false := by
  intro i hi
  simp only [I, List.mem_cons, List.not_mem_nil, or_false] at hi
  rcases hi with rfl | rfl
  all_goals exact ⟨by kernel_rfl, by kernel_rfl⟩
noncomputable abbrev L0 (fuel n : Nat) (s : St) (k : Kont) := lAt Try.prog X I fuel true 3 false 39 (bodyOf Try.f39) [1, 1, 1, 1, 0, 1, 0] n s k
noncomputable abbrev k0  (fuel : Nat) : Kont := (kAt Try.prog X I fuel true 3 false 39 (bodyOf Try.f39) [1, 1, 1, 1, 0, 1, 0] [] (endFn Try.prog Try.f39 38 (kOp Try.prog X I fuel true 4 23 (cAt (bodyOf Try.f23) [1, 1, 1, 1, 0]) 7 (kAt Try.prog X I fuel true 4 false 23 (bodyOf Try.f23) [1, 1, 1, 1, 0] [] (endK Try.prog Try.f23)))))
noncomputable def t0 (p0 : Int) (p1q0 : List Int) (p1q1 : List Int) (p2q1 : List Int) (p2q0 : List Int) (x0q8 : Int) (x0q10 : List Int) : St := ⟨[(.all 1000000001 1), (.imm (.clo 57 [(.pbox [(.fn false q2 ((q2v (operF p0))))]), (.pbox [(.ints .i64 p1q0), (.ints .i64 p1q1)]), (.pbox [(.int .i64 ((p2q1.length : Nat) : Int))]), (.pbox [(.ints .i64 p2q0), (.ints .i64 p2q1)])])), .dead, .dead, (.ptr 1000000002 0 0), .dead, .dead, .dead, (.all 1000000003 1), .dead, .dead, .dead, .dead, .dead, .dead, .dead, .dead, .dead, .dead, .dead, .dead, .dead, (.imm (.int .i64 (((List.replicate ((volW ((p1q0 ++ p2q0)))).toNat (0 : Int)).length : Nat) : Int))), (.imm (.int .i64 x0q8)), .dead, .dead, .dead, .dead, .dead, .dead, .dead, .dead, .dead, .dead, .dead, .dead], hOf [(1000000000, (.box [(.imm .nils), (.imm .nils)])), (1000000001, (.ints .i64 (p1q0 ++ p2q0))), (1000000002, (.box [(.imm .nils), (.imm .nils)])), (1000000003, (.ints .i64 x0q10))], [.dead, .dead, .dead, .dead, (.dptr [(.ints .i64 p1q0), (.ints .i64 p1q1)] 0), (.dptr [(.ints .i64 p2q0), (.ints .i64 p2q1)] 0), (.ptr 1000000000 0 0), .dead, (.dptr [(.fn false q2 ((q2v (operF p0))))] 0), (.dptr [(.int .i64 ((p2q1.length : Nat) : Int))] 0), .dead, .dead, .dead, .dead, .dead, .dead, .dead, .dead, .dead, .dead, .dead, .dead, .dead, .dead, .dead, .dead, .dead, .dead, (.dptr [(.ints .i64 p1q0), (.ints .i64 p1q1)] 0), (.imm (.ints .i64 p1q0)), (.dptr [(.ints .i64 p2q0), (.ints .i64 p2q1)] 0), (.imm (.ints .i64 p2q0)), (.imm (.seq 1 [(.ints .i64 p1q0), (.ints .i64 p2q0)])), (.all 1000000001 1), (.imm (.clo 57 [(.pbox [(.fn false q2 ((q2v (operF p0))))]), (.pbox [(.ints .i64 p1q0), (.ints .i64 p1q1)]), (.pbox [(.int .i64 ((p2q1.length : Nat) : Int))]), (.pbox [(.ints .i64 p2q0), (.ints .i64 p2q1)])])), .dead, .dead, .dead, (.tup [])], []⟩
theorem e (fuel : Nat) (p0 : Int) (p1q0 : List Int) (p1q1 : List Int) (p2q0 : List Int) (p2q1 : List Int) : runF Try.prog X I 4 fuel 23 Try.f23 [.d (.int .i64 p0), .d (.agg [(.ints .i64 p1q0), (.ints .i64 p1q1)]), .d (.agg [(.ints .i64 p2q0), (.ints .i64 p2q1)])] =
  (bif opOk p0 then
  (bif decide (p1q0.length < 9223372036854775808) && decide (p1q1.length < 9223372036854775808) then
  (bif (!(validA p1q0 p1q1)) then
  some ([.agg [((.ints .i64 []), true), ((.ints .i64 []), true)], .one ((.bool false), false)], [])
  else
  (bif decide (p2q0.length < 9223372036854775808) && decide (p2q1.length < 9223372036854775808) then
  (bif (!(validA p2q0 p2q1)) then
  some ([.agg [((.ints .i64 []), true), ((.ints .i64 []), true)], .one ((.bool false), false)], [])
  else
  (bif szB p1q0 && szB p2q0 then
  (bif decide (((p1q0 ++ p2q0)).length < 9223372036854775808) then
  (bif validS ((p1q0 ++ p2q0)) then
  (bif decide (0 ≤ ((volW ((p1q0 ++ p2q0))) : Int)) && decide (((volW ((p1q0 ++ p2q0))) : Int) ≤ (volW ((p1q0 ++ p2q0)))) && decide (((volW ((p1q0 ++ p2q0))) : Int) ≤ 1152921504606846976) && decide (((8 : Nat) : Int) * (volW ((p1q0 ++ p2q0))) ≤ 281474976710656) then
  L0 fuel fuel (t0 p0 p1q0 p1q1 p2q1 p2q0 0 ((List.replicate ((volW ((p1q0 ++ p2q0)))).toNat (0 : Int)))) (k0  fuel)
  else
  none)
  else
  some ([.agg [((.ints .i64 []), true), ((.ints .i64 []), true)], .one ((.bool false), false)], []))
  else
  none)
  else
  none))
  else
  none))
  else
  none)
  else
  some ([.agg [((.ints .i64 []), true), ((.ints .i64 []), true)], .one ((.bool false), false)], [])) := by kernel_rfl
theorem s0 (fuel n0 : Nat) (p0 : Int) (p1q0 : List Int) (p1q1 : List Int) (p2q1 : List Int) (p2q0 : List Int) (x0q8 : Int) (x0q10 : List Int) : L0 fuel (n0 + 1) (t0 p0 p1q0 p1q1 p2q1 p2q0 x0q8 x0q10) (k0  fuel) =
  (bif (decide ((x0q8 : Int) < (((List.replicate ((volW ((p1q0 ++ p2q0)))).toNat (0 : Int)).length : Nat) : Int))) then
  (bif otP q2 p1q1 p2q1 (((p2q1.length : Nat) : Int)) x0q8 then
  (idx x0q8 x0q10.length).bind fun j3 =>
  (bif decide (j3 < x0q10.length) then
  L0 fuel n0 (t0 p0 p1q0 p1q1 p2q1 p2q0 ((IntKind.wrap .i64 (x0q8 + 1))) ((x0q10.set j3 (((q2v (operF p0))) [.i (p1q1.getD (x0q8.toNat / p2q1.length) 0), .i (p2q1.getD (x0q8.toNat % p2q1.length) 0)])))) (k0  fuel)
  else
  none)
  else
  none)
  else
  some ([.agg [((.ints .i64 (p1q0 ++ p2q0)), true), ((.ints .i64 x0q10), true)], .one ((.bool true), false)], [])) := by kernel_rfl
end impl_OuterProduct
theorem impl_OuterProduct.ok_of (hX : ∀ E ∈ impl_OuterProduct.X, CallSpec Try.prog E) (h : ∀ (op : Int) (sa : List Int) (da : List Int) (sb : List Int) (db : List Int), (decide (sa.length < 9223372036854775808) && decide (da.length < 9223372036854775808) && decide (sb.length < 9223372036854775808) && decide (db.length < 9223372036854775808)) = true → ∃ fuel, runF Try.prog impl_OuterProduct.X impl_OuterProduct.I 4 fuel 23 Try.f23 [.d (.int .i64 op), .d (.agg [(.ints .i64 sa), (.ints .i64 da)]), .d (.agg [(.ints .i64 sb), (.ints .i64 db)])] = some ([.agg [((.ints .i64 (otS op sa da sb db)), true), ((.ints .i64 (otD op sa da sb db)), true)], .one ((.bool (otB op sa da sb db)), false)], [])) : CallSpec Try.prog impl_OuterProduct.E :=
  callSpec_of (d := 4) hX (by kernel_rfl) impl_OuterProduct.I_ok (by kernel_rfl) (by kernel_rfl) (by kernel_rfl) (fun _ _ _ _ h => by dsimp only [impl_OuterProduct.E] at h; cases h) (fun xs hp => by
    dsimp only [impl_OuterProduct.E] at hp ⊢
    split at hp
    · exact h _ _ _ _ _ hp
    · cases hp)
theorem impl_OuterProduct.loop (fuel : Nat) (op : Int) (sa da sb db : List Int) (hvol : (volW (sa ++ sb)).toNat = da.length * db.length) (h60 : da.length * db.length ≤ 60) (hf : 60 < fuel) :
    impl_OuterProduct.L0 fuel fuel (impl_OuterProduct.t0 op sa da db sb 0 (List.replicate (volW (sa ++ sb)).toNat 0)) (impl_OuterProduct.k0 fuel) = some ([.agg [((.ints .i64 (sa ++ sb)), true), ((.ints .i64 (otN op da db)), true)], .one ((.bool true), false)], []) := by
  have hA : (otN op da db).length = da.length * db.length := by simp only [otN, tab_length]
  rw [hvol]
  refine run_loop (N := da.length * db.length) (fun n j out => impl_OuterProduct.L0 fuel n (impl_OuterProduct.t0 op sa da db sb (j : Int) out) (impl_OuterProduct.k0 fuel)) (fun j out => out = part (otN op da db) j) ?_ ?_ fuel 0 _ (by omega) (by omega) (by rw [part_zero, hA])
  · intro n out ho
    have hall := part_all (otN op da db)
    rw [hA] at hall
    rw [hall] at ho
    rw [impl_OuterProduct.s0]
    simp only [hvol, List.length_replicate]
    rw [dge (by omega), cond_false, ho]
  · intro n j out hj ho
    have hol : out.length = da.length * db.length := by rw [ho, part_length (by omega), hA]
    have hq : otP q2 da db ((db.length : Nat) : Int) (j : Int) = true := by
      simp only [otP, q2, Bool.and_eq_true, decide_eq_true_eq]
      refine ⟨⟨⟨⟨trivial, by omega⟩, by omega⟩, h60⟩, trivial⟩
    rw [impl_OuterProduct.s0]
    simp only [hvol, List.length_replicate]
    rw [dlt hj, cond_true, hq, idx_nat (by omega), w1 (by omega)]
    simp only [cond_true, Option.bind_some, Int.toNat_natCast]
    rw [decide_eq_true (by omega), cond_true]
    refine ⟨_, ?_, rfl⟩
    rw [ho, part_set (by omega)]
    simp only [otN]
    rw [tab_getD hj]
    rfl
theorem impl_OuterProduct.ok : CallSpec Try.prog impl_OuterProduct.E := impl_OuterProduct.ok_of (by simp [impl_OuterProduct.X, impl_functionOfTwo_f.ok, impl_ValidArray.ok, slices_Concat_int_int.ok, impl_layoutOf_j.ok, impl_OuterProduct_1.ok]) fun op sa da sb db h => by
  obtain ⟨F, hF⟩ : ∃ F : Nat, 60 < F := ⟨61, by omega⟩
  refine ⟨F, ?_⟩
  simp only [Bool.and_eq_true] at h
  rw [impl_OuterProduct.e, h.1.1.1, h.1.1.2, h.1.2, h.2]
  unfold otS otD
  cases hb : otB op sa da sb db with
  | true =>
    obtain ⟨h1, h2, h3, h4, h5, h6⟩ := otB_inv hb
    have l1 := validA_len h2
    have l2 := validA_len h3
    have hvb := vol_bd h4
    rw [h1, h2, h3, szB_of (by omega), szB_of (by omega), lt_of (by simp; omega), h4, mkOk hvb.1 (by omega)]
    simp only [Bool.and_self, cond_true, cond_false, Bool.not_true]
    exact impl_OuterProduct.loop F op sa da sb db (by rw [h5]; rfl) h6 hF
  | false =>
    cases h1 : opOk op with
    | false => rfl
    | true =>
      cases h2 : validA sa da with
      | false => rfl
      | true =>
        cases h3 : validA sb db with
        | false => rfl
        | true =>
          have l1 := validA_len h2
          have l2 := validA_len h3
          cases h4 : validS (sa ++ sb) with
          | true => simp only [otB, h1, h2, h3, h4, Bool.and_self] at hb; cases hb
          | false =>
            rw [szB_of (by omega), szB_of (by omega), lt_of (by simp; omega)]
            rfl

namespace spec_outer
noncomputable def E : Entry := ⟨60, false, false, fun | [.d (.int .i64 op), .d (.agg [(.ints .i64 sa), (.ints .i64 da)]), .d (.agg [(.ints .i64 sb), (.ints .i64 db)])] => otB op sa da sb db | _ => false, fun | [.d (.int .i64 op), .d (.agg [(.ints .i64 sa), (.ints .i64 da)]), .d (.agg [(.ints .i64 sb), (.ints .i64 db)])] => ([.agg [((.ints .i64 (sa ++ sb)), true), ((.ints .i64 (otN op da db)), true)]], []) | _ => ([], []), fun _ => [], true, fun _ => none⟩
end spec_outer
namespace spec_outer
noncomputable def X : List Entry := [spec_operate.E, spec_make1.E]
noncomputable def I : List Inl := [⟨60, Try.f60, ⟨[48], [(1000003, [1, 2, 3, 9, 10, 11, 12, 13, 14, 15, 16, 17, 18, 19, 20, 21, 22, 23, 24, 25, 26, 27, 28, 29, 30, 31, 32, 33, 34, 35, 36, 37, 38, 39, 40, 41, 42, 43, 44, 45, 46, 47, 48]), (1000006, [1, 2, 3, 10, 11, 12, 13, 14, 15, 16, 17, 18, 19, 20, 21, 22, 23, 24, 25, 26, 27, 28, 29, 30, 31, 32, 33, 34, 35, 36, 37, 38, 39, 40, 41, 42, 43, 44, 45, 46, 47, 48])], [(9, [5])], [(8, [0, 1, 2, 4, 7, 9, 3, 5, 6, 8, 10, 11, 12, 13, 14, 15]), (9, [1, 4, 5, 7, 2, 0, 3, 6, 8, 9])], [45], []⟩⟩]
theorem I_ok : ∀ i ∈ I, Try.prog.funcs[i.f]? = some i.fn ∧ (i.fn.name == "runtime.NumGoroutine") = false := by
  intro i hi
  simp only [I, List.mem_cons, List.not_mem_nil, or_false] at hi
  subst hi
  exact ⟨by kernel_rfl, by kernel_rfl⟩
noncomputable abbrev L0 (fuel n : Nat) (s : St) (k : Kont) := lAt Try.prog X I fuel true 0 false 60 (bodyOf Try.f60) [1, 1, 0, 1, 0] n s k
noncomputable abbrev k0  (fuel : Nat) : Kont := (kAt Try.prog X I fuel true 0 false 60 (bodyOf Try.f60) [1, 1, 0, 1, 0] [] (endK Try.prog Try.f60))
noncomputable def t0 (p0 : Int) (p1q0 : List Int) (p1q1 : List Int) (p2q0 : List Int) (p2q1 : List Int) (x0q1 : Int) (x0q6 : List Int) : St := ⟨[(.imm (.int .i64 p0)), .dead, .dead, .dead, (.ptr 1000000000 0 0), (.ptr 1000000001 0 0), (.ptr 1000000002 0 0), (.all 1000000003 1), (.imm (.int .i64 x0q1)), .dead, .dead, .dead, .dead, .dead, .dead, .dead, .dead, .dead, .dead, .dead, .dead, .dead, .dead, .dead, .dead, .dead, .dead, .dead, .dead, .dead, .dead, .dead, .dead, .dead, .dead, .dead, .dead, .dead, .dead, .dead, .dead, .dead, .dead, .dead, .dead, .dead, .dead, .dead, .dead], hOf [(1000000000, (.box [(.imm (.ints .i64 p1q0)), (.imm (.ints .i64 p1q1))])), (1000000001, (.box [(.imm (.ints .i64 p2q0)), (.imm (.ints .i64 p2q1))])), (1000000002, (.box [(.imm .nils), (.imm .nils)])), (1000000003, (.ints .i64 x0q6))], [], []⟩
noncomputable abbrev L1 (fuel n : Nat) (s : St) (k : Kont) := lAt Try.prog X I fuel true 0 false 60 (bodyOf Try.f60) [1, 1, 0, 1, 0, 0, 1, 0, 0, 1, 0] n s k
noncomputable abbrev k1 (n0 : Nat) (fuel : Nat) : Kont := (kAt Try.prog X I fuel true 0 false 60 (bodyOf Try.f60) [1, 1, 0, 1, 0, 0, 1, 0, 0, 1, 0] [n0] (endK Try.prog Try.f60))
noncomputable def t1 (p0 : Int) (x0q1 : Int) (p1q0 : List Int) (p1q1 : List Int) (p2q0 : List Int) (p2q1 : List Int) (x1q2 : Int) (x1q7 : List Int) : St := ⟨[(.imm (.int .i64 p0)), .dead, .dead, .dead, (.ptr 1000000000 0 0), (.ptr 1000000001 0 0), (.ptr 1000000002 0 0), (.all 1000000003 1), (.imm (.int .i64 x0q1)), (.imm (.int .i64 x1q2)), .dead, .dead, .dead, .dead, .dead, .dead, .dead, .dead, .dead, .dead, .dead, .dead, .dead, .dead, .dead, .dead, .dead, .dead, .dead, .dead, .dead, .dead, .dead, .dead, .dead, .dead, .dead, .dead, .dead, .dead, .dead, .dead, .dead, .dead, .dead, .dead, .dead, .dead, .dead], hOf [(1000000000, (.box [(.imm (.ints .i64 p1q0)), (.imm (.ints .i64 p1q1))])), (1000000001, (.box [(.imm (.ints .i64 p2q0)), (.imm (.ints .i64 p2q1))])), (1000000002, (.box [(.imm .nils), (.imm .nils)])), (1000000003, (.ints .i64 x1q7))], [], []⟩
theorem e (fuel : Nat) (p0 : Int) (p1q0 : List Int) (p1q1 : List Int) (p2q0 : List Int) (p2q1 : List Int) : runF Try.prog X I 0 fuel 60 Try.f60 [.d (.int .i64 p0), .d (.agg [(.ints .i64 p1q0), (.ints .i64 p1q1)]), .d (.agg [(.ints .i64 p2q0), (.ints .i64 p2q1)])] =
  L0 fuel fuel (t0 p0 p1q0 p1q1 p2q0 p2q1 0 ([])) (k0  fuel) := by kernel_rfl
theorem s0 (fuel n0 : Nat) (p0 : Int) (p1q0 : List Int) (p1q1 : List Int) (p2q0 : List Int) (p2q1 : List Int) (x0q1 : Int) (x0q6 : List Int) : L0 fuel (n0 + 1) (t0 p0 p1q0 p1q1 p2q0 p2q1 x0q1 x0q6) (k0  fuel) =
  (bif (decide ((x0q1 : Int) < ((p1q1.length : Nat) : Int))) then
  L1 fuel fuel (t1 p0 x0q1 p1q0 p1q1 p2q0 p2q1 0 x0q6) (k1 n0 fuel)
  else
  (bif fits (([] : List Int).length + p1q0.length) 8 then
  (bif fits ((([] : List Int) ++ p1q0).length + p2q0.length) 8 then
  (bif szB (((([] : List Int) ++ p1q0) ++ p2q0)) && szB x0q6 then
  some ([.agg [((.ints .i64 (((([] : List Int) ++ p1q0) ++ p2q0))), true), ((.ints .i64 x0q6), true)]], [])
  else
  none)
  else
  none)
  else
  none)) := by kernel_rfl
theorem s1 (fuel n0 n1 : Nat) (p0 : Int) (x0q1 : Int) (p1q0 : List Int) (p1q1 : List Int) (p2q0 : List Int) (p2q1 : List Int) (x1q2 : Int) (x1q7 : List Int) : L1 fuel (n1 + 1) (t1 p0 x0q1 p1q0 p1q1 p2q0 p2q1 x1q2 x1q7) (k1 n0 fuel) =
  (bif (decide ((x1q2 : Int) < ((p2q1.length : Nat) : Int))) then
  (idx x0q1 p1q1.length).bind fun j21 =>
  (p1q1[j21]?).bind fun v22 =>
  (idx x1q2 p2q1.length).bind fun j23 =>
  (p2q1[j23]?).bind fun v24 =>
  (bif fits (x1q7.length + ([(operF p0 v22 v24)] : List Int).length) 8 then
  L1 fuel n1 (t1 p0 x0q1 p1q0 p1q1 p2q0 p2q1 ((IntKind.wrap .i64 (x1q2 + 1))) ((x1q7 ++ [(operF p0 v22 v24)]))) (k1 n0 fuel)
  else
  none)
  else
  L0 fuel n0 (t0 p0 p1q0 p1q1 p2q0 p2q1 ((IntKind.wrap .i64 (x0q1 + 1))) x1q7) (k0  fuel)) := by kernel_rfl
end spec_outer
theorem spec_outer.ok_of (hX : ∀ E ∈ spec_outer.X, CallSpec Try.prog E) (h : ∀ (op : Int) (sa : List Int) (da : List Int) (sb : List Int) (db : List Int), (otB op sa da sb db) = true → ∃ fuel, runF Try.prog spec_outer.X spec_outer.I 0 fuel 60 Try.f60 [.d (.int .i64 op), .d (.agg [(.ints .i64 sa), (.ints .i64 da)]), .d (.agg [(.ints .i64 sb), (.ints .i64 db)])] = some ([.agg [((.ints .i64 (sa ++ sb)), true), ((.ints .i64 (otN op da db)), true)]], [])) : CallSpec Try.prog spec_outer.E :=
  callSpec_of (d := 0) hX (by kernel_rfl) spec_outer.I_ok (by kernel_rfl) (by kernel_rfl) (by kernel_rfl) (fun _ _ _ _ h => by dsimp only [spec_outer.E] at h; cases h) (fun xs hp => by
    dsimp only [spec_outer.E] at hp ⊢
    split at hp
    · exact h _ _ _ _ _ hp
    · cases hp)
theorem spec_outer.inner (fuel n0 : Nat) (op : Int) (sa da sb db : List Int) (i : Nat) (hi : i < da.length) (h60 : da.length * db.length ≤ 60) (hf : 60 < fuel) (hl : db.length ≤ 60) :
    spec_outer.L1 fuel fuel (spec_outer.t1 op (i : Int) sa da sb db 0 ((otN op da db).take (i * db.length))) (spec_outer.k1 n0 fuel) = spec_outer.L0 fuel n0 (spec_outer.t0 op sa da sb db ((IntKind.wrap .i64 ((i : Int) + 1))) ((otN op da db).take ((i + 1) * db.length))) (spec_outer.k0 fuel) := by
  have hA : (otN op da db).length = da.length * db.length := by simp only [otN, tab_length]
  refine run_loop (N := db.length) (fun n k out => spec_outer.L1 fuel n (spec_outer.t1 op (i : Int) sa da sb db (k : Int) out) (spec_outer.k1 n0 fuel)) (fun k out => out = (otN op da db).take (i * db.length + k)) ?_ ?_ fuel 0 _ (by omega) (by omega) rfl
  · intro n out ho
    rw [spec_outer.s1, dge (by omega), cond_false, ho, Nat.add_mul, Nat.one_mul]
  · intro n k out hk ho
    obtain ⟨e1, e2, e3⟩ := enc2 hi hk
    have hol : out.length = i * db.length + k := by rw [ho, take_len (by omega)]
    rw [spec_outer.s1, dlt hk, cond_true, idx_nat hi, idx_nat hk, w1 (by omega)]
    simp only [Option.bind_some, getD_get hi, getD_get hk]
    rw [fitsOk (by simp only [List.length_cons, List.length_nil]; omega), cond_true]
    refine ⟨_, ?_, rfl⟩
    rw [ho]
    refine take_push (by omega) ?_
    simp only [otN]
    rw [tab_getD e1, e2, e3]
theorem spec_outer.ok : CallSpec Try.prog spec_outer.E := spec_outer.ok_of (by simp [spec_outer.X, spec_operate.ok, spec_make1.ok]) fun op sa da sb db h => by
  obtain ⟨F, hF⟩ : ∃ F : Nat, 60 < F := ⟨61, by omega⟩
  refine ⟨F, ?_⟩
  obtain ⟨h1, h2, h3, h4, h5, h6⟩ := otB_inv h
  have l1 := validA_len h2
  have l2 := validA_len h3
  have hA : (otN op da db).length = da.length * db.length := by simp only [otN, tab_length]
  rw [spec_outer.e]
  refine run_loop (N := da.length) (fun n i out => spec_outer.L0 F n (spec_outer.t0 op sa da sb db (i : Int) out) (spec_outer.k0 F)) (fun i out => out = (otN op da db).take (i * db.length)) ?_ ?_ F 0 _ (by omega) (by omega) (by simp)
  · intro n out ho
    rw [← hA, List.take_length] at ho
    rw [spec_outer.s0, dge (by omega), cond_false, fitsOk (by simp only [List.length_nil]; omega), fitsOk (by simp only [List.length_append, List.length_nil]; omega), List.nil_append, szB_of (by simp; omega), szB_of (by rw [ho]; omega), ho]
    rfl
  · intro n i out hi ho
    rw [spec_outer.s0, dlt hi, cond_true, ho, spec_outer.inner F n op sa da sb db i hi h6 hF l2.2, w1 (by omega)]
    exact ⟨_, rfl, rfl⟩

namespace spec_OuterProduct
noncomputable def E : Entry := ⟨24, false, false, fun | [.d (.int .i64 op), .d (.agg [(.ints .i64 sa), (.ints .i64 da)]), .d (.agg [(.ints .i64 sb), (.ints .i64 db)])] => decide (sa.length < 9223372036854775808) && decide (da.length < 9223372036854775808) && decide (sb.length < 9223372036854775808) && decide (db.length < 9223372036854775808) | _ => false, fun | [.d (.int .i64 op), .d (.agg [(.ints .i64 sa), (.ints .i64 da)]), .d (.agg [(.ints .i64 sb), (.ints .i64 db)])] => ([.agg [((.ints .i64 (otS op sa da sb db)), true), ((.ints .i64 (otD op sa da sb db)), true)], .one ((.bool (otB op sa da sb db)), false)], []) | _ => ([], []), fun _ => [], true, fun _ => none⟩
end spec_OuterProduct
namespace spec_OuterProduct
noncomputable def X : List Entry := [spec_validOp.E, spec_valid.E, spec_validShape.E, spec_outer.E]
noncomputable def I : List Inl := [⟨24, Try.f24, ⟨[36], [], [(1, [5])], [(1, [0, 1, 2, 3, 4, 5, 6, 7, 8, 9, 10, 11, 12, 13, 15, 18, 19, 16, 14, 17, 20, 21, 22, 23])], [27], []⟩⟩]
theorem I_ok : ∀ i ∈ I, Try.prog.funcs[i.f]? = some i.fn ∧ (i.fn.name == "runtime.NumGoroutine") = false := by
  intro i hi
  simp only [I, List.mem_cons, List.not_mem_nil, or_false] at hi
  subst hi
  exact ⟨by kernel_rfl, by kernel_rfl⟩
theorem e (fuel : Nat) (p0 : Int) (p1q0 : List Int) (p1q1 : List Int) (p2q0 : List Int) (p2q1 : List Int) : runF Try.prog X I 0 fuel 24 Try.f24 [.d (.int .i64 p0), .d (.agg [(.ints .i64 p1q0), (.ints .i64 p1q1)]), .d (.agg [(.ints .i64 p2q0), (.ints .i64 p2q1)])] =
  (bif (!(opOk p0)) then
  some ([.agg [((.ints .i64 []), true), ((.ints .i64 []), true)], .one ((.bool false), false)], [])
  else
  (bif decide (p1q0.length < 9223372036854775808) && decide (p1q1.length < 9223372036854775808) then
  (bif (!(validA p1q0 p1q1)) then
  some ([.agg [((.ints .i64 []), true), ((.ints .i64 []), true)], .one ((.bool false), false)], [])
  else
  (bif decide (p2q0.length < 9223372036854775808) && decide (p2q1.length < 9223372036854775808) then
  (bif (!(validA p2q0 p2q1)) then
  some ([.agg [((.ints .i64 []), true), ((.ints .i64 []), true)], .one ((.bool false), false)], [])
  else
  (bif fits (([] : List Int).length + p1q0.length) 8 then
  (bif fits ((([] : List Int) ++ p1q0).length + p2q0.length) 8 then
  (bif decide ((((([] : List Int) ++ p1q0) ++ p2q0)).length < 9223372036854775808) then
  (bif (!(validS (((([] : List Int) ++ p1q0) ++ p2q0)))) then
  some ([.agg [((.ints .i64 []), true), ((.ints .i64 []), true)], .one ((.bool false), false)], [])
  else
  (bif otB p0 p1q0 p1q1 p2q0 p2q1 then
  some ([.agg [((.ints .i64 (p1q0 ++ p2q0)), true), ((.ints .i64 (otN p0 p1q1 p2q1)), true)], .one ((.bool true), false)], [])
  else
  none))
  else
  none)
  else
  none)
  else
  none))
  else
  none))
  else
  none)) := by kernel_rfl
end spec_OuterProduct
theorem spec_OuterProduct.ok_of (hX : ∀ E ∈ spec_OuterProduct.X, CallSpec Try.prog E) (h : ∀ (op : Int) (sa : List Int) (da : List Int) (sb : List Int) (db : List Int), (decide (sa.length < 9223372036854775808) && decide (da.length < 9223372036854775808) && decide (sb.length < 9223372036854775808) && decide (db.length < 9223372036854775808)) = true → ∃ fuel, runF Try.prog spec_OuterProduct.X spec_OuterProduct.I 0 fuel 24 Try.f24 [.d (.int .i64 op), .d (.agg [(.ints .i64 sa), (.ints .i64 da)]), .d (.agg [(.ints .i64 sb), (.ints .i64 db)])] = some ([.agg [((.ints .i64 (otS op sa da sb db)), true), ((.ints .i64 (otD op sa da sb db)), true)], .one ((.bool (otB op sa da sb db)), false)], [])) : CallSpec Try.prog spec_OuterProduct.E :=
  callSpec_of (d := 0) hX (by kernel_rfl) spec_OuterProduct.I_ok (by kernel_rfl) (by kernel_rfl) (by kernel_rfl) (fun _ _ _ _ h => by dsimp only [spec_OuterProduct.E] at h; cases h) (fun xs hp => by
    dsimp only [spec_OuterProduct.E] at hp ⊢
    split at hp
    · exact h _ _ _ _ _ hp
    · cases hp)
theorem spec_OuterProduct.ok : CallSpec Try.prog spec_OuterProduct.E := spec_OuterProduct.ok_of (by simp [spec_OuterProduct.X, spec_validOp.ok, spec_valid.ok, spec_validShape.ok, spec_outer.ok]) fun op sa da sb db h => ⟨0, by
  simp only [Bool.and_eq_true] at h
  rw [spec_OuterProduct.e, h.1.1.1, h.1.1.2, h.1.2, h.2]
  unfold otS otD
  cases h1 : opOk op with
  | false => simp only [otB, h1]; rfl
  | true =>
    cases h2 : validA sa da with
    | false => simp only [otB, h1, h2]; rfl
    | true =>
      cases h3 : validA sb db with
      | false => simp only [otB, h1, h2, h3]; rfl
      | true =>
        have l1 := validA_len h2
        have l2 := validA_len h3
        rw [fitsOk (by simp only [List.length_nil]; omega), fitsOk (by simp only [List.length_append, List.length_nil]; omega), List.nil_append, lt_of (by simp; omega)]
        cases h4 : validS (sa ++ sb) with
        | false => simp only [otB, h1, h2, h3, h4]; rfl
        | true => simp only [otB, h1, h2, h3, h4]; rfl⟩

namespace impl_Operate
noncomputable def E : Entry := ⟨25, true, false, fun | [.d (.int .i64 op), .d (.int .i64 a), .d (.int .i64 b)] => true | _ => false, fun | [.d (.int .i64 op), .d (.int .i64 a), .d (.int .i64 b)] => ([.one ((.int .i64 (operV op a b)), false)], []) | _ => ([], []), fun _ => [], false, fun _ => none⟩
end impl_Operate
namespace impl_Operate
noncomputable def X : List Entry := [impl_functionOfTwo.E, impl_isNumber.E, impl_restOf.E, impl_functionOfTwo_7.E, impl_functionOfTwo_6.E, impl_functionOfTwo_5.E, impl_functionOfTwo_4.E, impl_functionOfTwo_3.E, impl_functionOfTwo_2.E, impl_functionOfTwo_1.E]
noncomputable def I : List Inl := [⟨25, Try.f25, ⟨[], [], [], [], [], []⟩⟩]
theorem I_ok : ∀ i ∈ I, Try.prog.funcs[i.f]? = some i.fn ∧ (i.fn.name == "runtime.NumGoroutine") = false := by
  intro i hi
  simp only [I, List.mem_cons, List.not_mem_nil, or_false] at hi
  subst hi
  exact ⟨by kernel_rfl, by kernel_rfl⟩
theorem e (fuel : Nat) (p0 : Int) (p1 : Int) (p2 : Int) : runF Try.prog X I 0 fuel 25 Try.f25 [.d (.int .i64 p0), .d (.int .i64 p1), .d (.int .i64 p2)] =
  (bif decide (p0 = 1) then
  (bif (!(numB p1)) then
  some ([.one ((.int .i64 0), false)], [])
  else
  (bif (!(numB p2)) then
  some ([.one ((.int .i64 0), false)], [])
  else
  some ([.one ((.int .i64 (limV (IntKind.wrap .i64 (p1 + p2)))), false)], [])))
  else
  (bif decide (p0 = 2) then
  (bif (!(numB p1)) then
  some ([.one ((.int .i64 0), false)], [])
  else
  (bif (!(numB p2)) then
  some ([.one ((.int .i64 0), false)], [])
  else
  some ([.one ((.int .i64 (limV (IntKind.wrap .i64 (p1 - p2)))), false)], [])))
  else
  (bif decide (p0 = 3) then
  (bif (!(numB p1)) then
  some ([.one ((.int .i64 0), false)], [])
  else
  (bif (!(numB p2)) then
  some ([.one ((.int .i64 0), false)], [])
  else
  some ([.one ((.int .i64 (limV (IntKind.wrap .i64 (p1 * p2)))), false)], [])))
  else
  (bif decide (p0 = 4) then
  (bif (!(numB p1)) then
  some ([.one ((.int .i64 0), false)], [])
  else
  (bif (!(numB p2)) then
  some ([.one ((.int .i64 0), false)], [])
  else
  some ([.one ((.int .i64 (minI p1 p2)), false)], [])))
  else
  (bif decide (p0 = 5) then
  (bif (!(numB p1)) then
  some ([.one ((.int .i64 0), false)], [])
  else
  (bif (!(numB p2)) then
  some ([.one ((.int .i64 0), false)], [])
  else
  some ([.one ((.int .i64 (maxI p1 p2)), false)], [])))
  else
  (bif decide (p0 = 6) then
  (bif (!(numB p1)) then
  some ([.one ((.int .i64 0), false)], [])
  else
  (bif (!(numB p2)) then
  some ([.one ((.int .i64 0), false)], [])
  else
  some ([.one ((.int .i64 (tInt (p1 == p2))), false)], [])))
  else
  (bif decide (p0 = 7) then
  (bif (!(numB p1)) then
  some ([.one ((.int .i64 0), false)], [])
  else
  (bif (!(numB p2)) then
  some ([.one ((.int .i64 0), false)], [])
  else
  some ([.one ((.int .i64 (tInt (decide (p1 < p2)))), false)], [])))
  else
  (bif decide (p0 = 8) then
  (bif (!(numB p1)) then
  some ([.one ((.int .i64 0), false)], [])
  else
  (bif (!(numB p2)) then
  some ([.one ((.int .i64 0), false)], [])
  else
  some ([.one ((.int .i64 (restV p1 p2)), false)], [])))
  else
  some ([.one ((.int .i64 0), false)], []))))))))) := by kernel_rfl
end impl_Operate
theorem impl_Operate.ok_of (hX : ∀ E ∈ impl_Operate.X, CallSpec Try.prog E) (h : ∀ (op : Int) (a : Int) (b : Int), (true) = true → ∃ fuel, runF Try.prog impl_Operate.X impl_Operate.I 0 fuel 25 Try.f25 [.d (.int .i64 op), .d (.int .i64 a), .d (.int .i64 b)] = some ([.one ((.int .i64 (operV op a b)), false)], [])) : CallSpec Try.prog impl_Operate.E :=
  callSpec_of (d := 0) hX (by kernel_rfl) impl_Operate.I_ok (by kernel_rfl) (by kernel_rfl) (by kernel_rfl) (fun _ _ _ _ h => by dsimp only [impl_Operate.E] at h; cases h) (fun xs hp => by
    dsimp only [impl_Operate.E] at hp ⊢
    split at hp
    · exact h _ _ _ hp
    · cases hp)
theorem impl_Operate.ok : CallSpec Try.prog impl_Operate.E := impl_Operate.ok_of (by simp [impl_Operate.X, impl_functionOfTwo.ok, impl_isNumber.ok, impl_restOf.ok, impl_functionOfTwo_1.ok, impl_functionOfTwo_2.ok, impl_functionOfTwo_3.ok, impl_functionOfTwo_4.ok, impl_functionOfTwo_5.ok, impl_functionOfTwo_6.ok, impl_functionOfTwo_7.ok]) fun op a b _ => ⟨0, by
  rw [impl_Operate.e]
  unfold operV
  cases ho : opOk op with
  | true =>
    rcases opOk_cases ho with rfl | rfl | rfl | rfl | rfl | rfl | rfl | rfl <;> cases numB a <;> cases numB b <;> rfl
  | false =>
    have h := opOk_no ho
    rw [decide_eq_false (p := op = 1) (by omega), decide_eq_false (p := op = 2) (by omega), decide_eq_false (p := op = 3) (by omega), decide_eq_false (p := op = 4) (by omega),
      decide_eq_false (p := op = 5) (by omega), decide_eq_false (p := op = 6) (by omega), decide_eq_false (p := op = 7) (by omega), decide_eq_false (p := op = 8) (by omega)]
    rfl⟩

namespace impl_RankOf
noncomputable def E : Entry := ⟨26, true, false, fun | [.d (.agg [(.ints .i64 sh), (.ints .i64 da)])] => decide (sh.length < 9223372036854775808) && decide (da.length < 9223372036854775808) | _ => false, fun | [.d (.agg [(.ints .i64 sh), (.ints .i64 da)])] => ([.one ((.int .i64 (rankV sh da)), false)], []) | _ => ([], []), fun _ => [], false, fun _ => none⟩
end impl_RankOf
namespace impl_RankOf
noncomputable def X : List Entry := [impl_ValidArray.E]
noncomputable def I : List Inl := [⟨26, Try.f26, ⟨[], [], [], [], [], []⟩⟩]
theorem I_ok : ∀ i ∈ I, Try.prog.funcs[i.f]? = some i.fn ∧ (i.fn.name == "runtime.NumGoroutine") = false := by
  intro i hi
  simp only [I, List.mem_cons, List.not_mem_nil, or_false] at hi
  subst hi
  exact ⟨by kernel_rfl, by kernel_rfl⟩
theorem e (fuel : Nat) (p0q0 : List Int) (p0q1 : List Int) : runF Try.prog X I 0 fuel 26 Try.f26 [.d (.agg [(.ints .i64 p0q0), (.ints .i64 p0q1)])] =
  (bif decide (p0q0.length < 9223372036854775808) && decide (p0q1.length < 9223372036854775808) then
  (bif (!(validA p0q0 p0q1)) then
  some ([.one ((.int .i64 (-1)), false)], [])
  else
  some ([.one ((.int .i64 ((p0q0.length : Nat) : Int)), false)], []))
  else
  none) := by kernel_rfl
end impl_RankOf
theorem impl_RankOf.ok_of (hX : ∀ E ∈ impl_RankOf.X, CallSpec Try.prog E) (h : ∀ (sh : List Int) (da : List Int), (decide (sh.length < 9223372036854775808) && decide (da.length < 9223372036854775808)) = true → ∃ fuel, runF Try.prog impl_RankOf.X impl_RankOf.I 0 fuel 26 Try.f26 [.d (.agg [(.ints .i64 sh), (.ints .i64 da)])] = some ([.one ((.int .i64 (rankV sh da)), false)], [])) : CallSpec Try.prog impl_RankOf.E :=
  callSpec_of (d := 0) hX (by kernel_rfl) impl_RankOf.I_ok (by kernel_rfl) (by kernel_rfl) (by kernel_rfl) (fun _ _ _ _ h => by dsimp only [impl_RankOf.E] at h; cases h) (fun xs hp => by
    dsimp only [impl_RankOf.E] at hp ⊢
    split at hp
    · exact h _ _ hp
    · cases hp)
theorem impl_RankOf.ok : CallSpec Try.prog impl_RankOf.E := impl_RankOf.ok_of (by simp [impl_RankOf.X, impl_ValidArray.ok]) fun sh da h => ⟨0, by
  rw [impl_RankOf.e, h]
  unfold rankV
  cases validA sh da <;> rfl⟩

namespace laws_FnOuterProduct
noncomputable def E : Entry := ⟨5, true, false, fun | [.d (.ints .u8 bs)] => bytesB bs | _ => false, fun | [.d (.ints .u8 bs)] => ([.one ((.bool true), false)], []) | _ => ([], []), fun _ => [], false, fun _ => none⟩
end laws_FnOuterProduct
namespace laws_FnOuterProduct
noncomputable def X : List Entry := [spec_DrawOuterProduct.E, impl_OuterProduct.E, spec_OuterProduct.E, laws_equalArray.E, impl_Operate.E, impl_RankOf.E]
noncomputable def I : List Inl := [⟨5, Try.f5, ⟨[16, 24, 31], [(1000009, [0, 1, 2, 7, 8, 9, 11, 12, 13, 14, 15, 16, 17, 18, 19, 20, 21, 22, 23, 24, 25, 26, 27, 28, 29, 30, 31, 32, 33, 34, 35, 36, 37, 38, 39, 40, 41, 42, 43, 44, 45, 46, 47, 48, 49, 50, 51, 52, 53, 54, 55, 56, 57, 58, 59, 60, 61, 62, 63, 64, 65, 66, 67, 68, 69, 70, 71, 72, 73, 74, 75, 76, 77, 78, 79, 80, 81, 82, 83, 84, 85, 86, 87, 88, 89, 90, 91, 92, 93, 94, 95, 96, 97, 98, 99, 100, 101, 102, 103, 104, 105, 106, 107, 108])], [], [(11, [0, 2, 5, 6, 8, 9, 15, 17, 18, 1, 3, 4, 7, 10, 11, 12, 13, 14, 16, 19, 20, 21, 22, 23, 24, 25]), (13, [0, 3, 6, 1, 2, 4, 5, 7, 8, 9, 10, 11, 12, 13, 14, 15, 16, 17, 18, 19, 20, 21])], [], []⟩⟩]
theorem I_ok : ∀ i ∈ I, Try.prog.funcs[i.f]? = some i.fn ∧ (i.fn.name == "runtime.NumGoroutine") = false := by
  intro i hi
  simp only [I, List.mem_cons, List.not_mem_nil, or_false] at hi
  subst hi
  exact ⟨by kernel_rfl, by kernel_rfl⟩
noncomputable abbrev L0 (fuel n : Nat) (s : St) (k : Kont) := lAt Try.prog X I fuel true 0 false 5 (bodyOf Try.f5) [1, 1, 1, 1, 1, 1, 0, 1, 0] n s k
noncomputable abbrev k0  (fuel : Nat) : Kont := (kAt Try.prog X I fuel true 0 false 5 (bodyOf Try.f5) [1, 1, 1, 1, 1, 1, 0, 1, 0] [] (endK Try.prog Try.f5))
noncomputable def t0 (p0 : List Int) (x0q1 : Int) : St := ⟨[.dead, .dead, .dead, (.imm (.int .i64 (anyOpV (cutC p0) 0))), (.ptr 1000000000 0 0), (.ptr 1000000001 0 0), (.ptr 1000000002 0 0), .dead, .dead, .dead, (.imm (.int .i64 x0q1)), .dead, .dead, .dead, .dead, .dead, .dead, .dead, .dead, .dead, .dead, .dead, .dead, .dead, .dead, .dead, .dead, .dead, .dead, .dead, .dead, .dead, .dead, .dead, .dead, .dead, .dead, .dead, .dead, .dead, .dead, .dead, .dead, .dead, .dead, .dead, .dead, .dead, .dead, .dead, .dead, .dead, .dead, .dead, .dead, .dead, .dead, .dead, .dead, .dead, .dead, .dead, .dead, .dead, .dead, .dead, .dead, .dead, .dead, .dead, .dead, .dead, .dead, .dead, .dead, .dead, .dead, .dead, .dead, .dead, .dead, .dead, .dead, .dead, .dead, .dead, .dead, .dead, .dead, .dead, .dead, .dead, .dead, .dead, .dead, .dead, .dead, .dead, .dead, .dead, .dead, .dead, .dead, .dead, .dead, .dead, .dead, .dead, .dead], hOf [(1000000000, (.box [(.imm (.ints .i64 (avS (cutC p0) 2))), (.imm (.ints .i64 (avD (cutC p0) 2)))])), (1000000001, (.box [(.imm (.ints .i64 (avS (cutC p0) (avP (cutC p0) 2)))), (.imm (.ints .i64 (avD (cutC p0) (avP (cutC p0) 2))))])), (1000000002, (.box [(.all 1000000003 1), (.all 1000000004 1)])), (1000000003, (.ints .i64 (otS ((anyOpV (cutC p0) 0)) ((avS (cutC p0) 2)) ((avD (cutC p0) 2)) ((avS (cutC p0) (avP (cutC p0) 2))) ((avD (cutC p0) (avP (cutC p0) 2)))))), (1000000004, (.ints .i64 (otD ((anyOpV (cutC p0) 0)) ((avS (cutC p0) 2)) ((avD (cutC p0) 2)) ((avS (cutC p0) (avP (cutC p0) 2))) ((avD (cutC p0) (avP (cutC p0) 2))))))], [], []⟩
theorem e (fuel : Nat) (p0 : List Int) : runF Try.prog X I 0 fuel 5 Try.f5 [.d (.ints .u8 p0)] =
  (bif (decide ((((p0.length : Nat) : Int) : Int) > 1048576)) then
  some ([.one ((.bool true), false)], [])
  else
  (bif bytesB p0 then
  (bif decide (((avS (cutC p0) 2)).length < 9223372036854775808) && decide (((avD (cutC p0) 2)).length < 9223372036854775808) && decide (((avS (cutC p0) (avP (cutC p0) 2))).length < 9223372036854775808) && decide (((avD (cutC p0) (avP (cutC p0) 2))).length < 9223372036854775808) then
  (bif decide (((avS (cutC p0) 2)).length < 9223372036854775808) && decide (((avD (cutC p0) 2)).length < 9223372036854775808) && decide (((avS (cutC p0) (avP (cutC p0) 2))).length < 9223372036854775808) && decide (((avD (cutC p0) (avP (cutC p0) 2))).length < 9223372036854775808) then
  (bif decide (((otS ((anyOpV (cutC p0) 0)) ((avS (cutC p0) 2)) ((avD (cutC p0) 2)) ((avS (cutC p0) (avP (cutC p0) 2))) ((avD (cutC p0) (avP (cutC p0) 2))))).length < 9223372036854775808) && decide (((otD ((anyOpV (cutC p0) 0)) ((avS (cutC p0) 2)) ((avD (cutC p0) 2)) ((avS (cutC p0) (avP (cutC p0) 2))) ((avD (cutC p0) (avP (cutC p0) 2))))).length < 9223372036854775808) && decide (((otS ((anyOpV (cutC p0) 0)) ((avS (cutC p0) 2)) ((avD (cutC p0) 2)) ((avS (cutC p0) (avP (cutC p0) 2))) ((avD (cutC p0) (avP (cutC p0) 2))))).length < 9223372036854775808) && decide (((otD ((anyOpV (cutC p0) 0)) ((avS (cutC p0) 2)) ((avD (cutC p0) 2)) ((avS (cutC p0) (avP (cutC p0) 2))) ((avD (cutC p0) (avP (cutC p0) 2))))).length < 9223372036854775808) then
  (bif (!(decide (((otS ((anyOpV (cutC p0) 0)) ((avS (cutC p0) 2)) ((avD (cutC p0) 2)) ((avS (cutC p0) (avP (cutC p0) 2))) ((avD (cutC p0) (avP (cutC p0) 2))))) = ((otS ((anyOpV (cutC p0) 0)) ((avS (cutC p0) 2)) ((avD (cutC p0) 2)) ((avS (cutC p0) (avP (cutC p0) 2))) ((avD (cutC p0) (avP (cutC p0) 2)))))) && decide (((otD ((anyOpV (cutC p0) 0)) ((avS (cutC p0) 2)) ((avD (cutC p0) 2)) ((avS (cutC p0) (avP (cutC p0) 2))) ((avD (cutC p0) (avP (cutC p0) 2))))) = ((otD ((anyOpV (cutC p0) 0)) ((avS (cutC p0) 2)) ((avD (cutC p0) 2)) ((avS (cutC p0) (avP (cutC p0) 2))) ((avD (cutC p0) (avP (cutC p0) 2)))))))) then
  (bif decide (((otS ((anyOpV (cutC p0) 0)) ((avS (cutC p0) 2)) ((avD (cutC p0) 2)) ((avS (cutC p0) (avP (cutC p0) 2))) ((avD (cutC p0) (avP (cutC p0) 2))))).length < 9223372036854775808) && decide (((otD ((anyOpV (cutC p0) 0)) ((avS (cutC p0) 2)) ((avD (cutC p0) 2)) ((avS (cutC p0) (avP (cutC p0) 2))) ((avD (cutC p0) (avP (cutC p0) 2))))).length < 9223372036854775808) && decide (((otS ((anyOpV (cutC p0) 0)) ((avS (cutC p0) 2)) ((avD (cutC p0) 2)) ((avS (cutC p0) (avP (cutC p0) 2))) ((avD (cutC p0) (avP (cutC p0) 2))))).length < 9223372036854775808) && decide (((otD ((anyOpV (cutC p0) 0)) ((avS (cutC p0) 2)) ((avD (cutC p0) 2)) ((avS (cutC p0) (avP (cutC p0) 2))) ((avD (cutC p0) (avP (cutC p0) 2))))).length < 9223372036854775808) then
  (bif (decide (((otS ((anyOpV (cutC p0) 0)) ((avS (cutC p0) 2)) ((avD (cutC p0) 2)) ((avS (cutC p0) (avP (cutC p0) 2))) ((avD (cutC p0) (avP (cutC p0) 2))))) = ((otS ((anyOpV (cutC p0) 0)) ((avS (cutC p0) 2)) ((avD (cutC p0) 2)) ((avS (cutC p0) (avP (cutC p0) 2))) ((avD (cutC p0) (avP (cutC p0) 2)))))) && decide (((otD ((anyOpV (cutC p0) 0)) ((avS (cutC p0) 2)) ((avD (cutC p0) 2)) ((avS (cutC p0) (avP (cutC p0) 2))) ((avD (cutC p0) (avP (cutC p0) 2))))) = ((otD ((anyOpV (cutC p0) 0)) ((avS (cutC p0) 2)) ((avD (cutC p0) 2)) ((avS (cutC p0) (avP (cutC p0) 2))) ((avD (cutC p0) (avP (cutC p0) 2))))))) then
  some ([.one ((.bool ((otB ((anyOpV (cutC p0) 0)) ((avS (cutC p0) 2)) ((avD (cutC p0) 2)) ((avS (cutC p0) (avP (cutC p0) 2))) ((avD (cutC p0) (avP (cutC p0) 2)))) == (otB ((anyOpV (cutC p0) 0)) ((avS (cutC p0) 2)) ((avD (cutC p0) 2)) ((avS (cutC p0) (avP (cutC p0) 2))) ((avD (cutC p0) (avP (cutC p0) 2)))))), false)], [])
  else
  some ([.one ((.bool false), false)], []))
  else
  none)
  else
  (bif (!((otB ((anyOpV (cutC p0) 0)) ((avS (cutC p0) 2)) ((avD (cutC p0) 2)) ((avS (cutC p0) (avP (cutC p0) 2))) ((avD (cutC p0) (avP (cutC p0) 2)))) == (otB ((anyOpV (cutC p0) 0)) ((avS (cutC p0) 2)) ((avD (cutC p0) 2)) ((avS (cutC p0) (avP (cutC p0) 2))) ((avD (cutC p0) (avP (cutC p0) 2)))))) then
  (bif decide (((otS ((anyOpV (cutC p0) 0)) ((avS (cutC p0) 2)) ((avD (cutC p0) 2)) ((avS (cutC p0) (avP (cutC p0) 2))) ((avD (cutC p0) (avP (cutC p0) 2))))).length < 9223372036854775808) && decide (((otD ((anyOpV (cutC p0) 0)) ((avS (cutC p0) 2)) ((avD (cutC p0) 2)) ((avS (cutC p0) (avP (cutC p0) 2))) ((avD (cutC p0) (avP (cutC p0) 2))))).length < 9223372036854775808) && decide (((otS ((anyOpV (cutC p0) 0)) ((avS (cutC p0) 2)) ((avD (cutC p0) 2)) ((avS (cutC p0) (avP (cutC p0) 2))) ((avD (cutC p0) (avP (cutC p0) 2))))).length < 9223372036854775808) && decide (((otD ((anyOpV (cutC p0) 0)) ((avS (cutC p0) 2)) ((avD (cutC p0) 2)) ((avS (cutC p0) (avP (cutC p0) 2))) ((avD (cutC p0) (avP (cutC p0) 2))))).length < 9223372036854775808) then
  (bif (decide (((otS ((anyOpV (cutC p0) 0)) ((avS (cutC p0) 2)) ((avD (cutC p0) 2)) ((avS (cutC p0) (avP (cutC p0) 2))) ((avD (cutC p0) (avP (cutC p0) 2))))) = ((otS ((anyOpV (cutC p0) 0)) ((avS (cutC p0) 2)) ((avD (cutC p0) 2)) ((avS (cutC p0) (avP (cutC p0) 2))) ((avD (cutC p0) (avP (cutC p0) 2)))))) && decide (((otD ((anyOpV (cutC p0) 0)) ((avS (cutC p0) 2)) ((avD (cutC p0) 2)) ((avS (cutC p0) (avP (cutC p0) 2))) ((avD (cutC p0) (avP (cutC p0) 2))))) = ((otD ((anyOpV (cutC p0) 0)) ((avS (cutC p0) 2)) ((avD (cutC p0) 2)) ((avS (cutC p0) (avP (cutC p0) 2))) ((avD (cutC p0) (avP (cutC p0) 2))))))) then
  some ([.one ((.bool ((otB ((anyOpV (cutC p0) 0)) ((avS (cutC p0) 2)) ((avD (cutC p0) 2)) ((avS (cutC p0) (avP (cutC p0) 2))) ((avD (cutC p0) (avP (cutC p0) 2)))) == (otB ((anyOpV (cutC p0) 0)) ((avS (cutC p0) 2)) ((avD (cutC p0) 2)) ((avS (cutC p0) (avP (cutC p0) 2))) ((avD (cutC p0) (avP (cutC p0) 2)))))), false)], [])
  else
  some ([.one ((.bool false), false)], []))
  else
  none)
  else
  (bif (!(otB ((anyOpV (cutC p0) 0)) ((avS (cutC p0) 2)) ((avD (cutC p0) 2)) ((avS (cutC p0) (avP (cutC p0) 2))) ((avD (cutC p0) (avP (cutC p0) 2))))) then
  (bif decide (((otS ((anyOpV (cutC p0) 0)) ((avS (cutC p0) 2)) ((avD (cutC p0) 2)) ((avS (cutC p0) (avP (cutC p0) 2))) ((avD (cutC p0) (avP (cutC p0) 2))))).length < 9223372036854775808) && decide (((otD ((anyOpV (cutC p0) 0)) ((avS (cutC p0) 2)) ((avD (cutC p0) 2)) ((avS (cutC p0) (avP (cutC p0) 2))) ((avD (cutC p0) (avP (cutC p0) 2))))).length < 9223372036854775808) && decide (((otS ((anyOpV (cutC p0) 0)) ((avS (cutC p0) 2)) ((avD (cutC p0) 2)) ((avS (cutC p0) (avP (cutC p0) 2))) ((avD (cutC p0) (avP (cutC p0) 2))))).length < 9223372036854775808) && decide (((otD ((anyOpV (cutC p0) 0)) ((avS (cutC p0) 2)) ((avD (cutC p0) 2)) ((avS (cutC p0) (avP (cutC p0) 2))) ((avD (cutC p0) (avP (cutC p0) 2))))).length < 9223372036854775808) then
  (bif (decide (((otS ((anyOpV (cutC p0) 0)) ((avS (cutC p0) 2)) ((avD (cutC p0) 2)) ((avS (cutC p0) (avP (cutC p0) 2))) ((avD (cutC p0) (avP (cutC p0) 2))))) = ((otS ((anyOpV (cutC p0) 0)) ((avS (cutC p0) 2)) ((avD (cutC p0) 2)) ((avS (cutC p0) (avP (cutC p0) 2))) ((avD (cutC p0) (avP (cutC p0) 2)))))) && decide (((otD ((anyOpV (cutC p0) 0)) ((avS (cutC p0) 2)) ((avD (cutC p0) 2)) ((avS (cutC p0) (avP (cutC p0) 2))) ((avD (cutC p0) (avP (cutC p0) 2))))) = ((otD ((anyOpV (cutC p0) 0)) ((avS (cutC p0) 2)) ((avD (cutC p0) 2)) ((avS (cutC p0) (avP (cutC p0) 2))) ((avD (cutC p0) (avP (cutC p0) 2))))))) then
  some ([.one ((.bool ((otB ((anyOpV (cutC p0) 0)) ((avS (cutC p0) 2)) ((avD (cutC p0) 2)) ((avS (cutC p0) (avP (cutC p0) 2))) ((avD (cutC p0) (avP (cutC p0) 2)))) == (otB ((anyOpV (cutC p0) 0)) ((avS (cutC p0) 2)) ((avD (cutC p0) 2)) ((avS (cutC p0) (avP (cutC p0) 2))) ((avD (cutC p0) (avP (cutC p0) 2)))))), false)], [])
  else
  some ([.one ((.bool false), false)], []))
  else
  none)
  else
  L0 fuel fuel (t0 p0 0) (k0  fuel))))
  else
  none)
  else
  none)
  else
  none)
  else
  none)) := by kernel_rfl
theorem s0 (fuel n0 : Nat) (p0 : List Int) (x0q1 : Int) : L0 fuel (n0 + 1) (t0 p0 x0q1) (k0  fuel) =
  (bif (decide ((x0q1 : Int) < (((otD ((anyOpV (cutC p0) 0)) ((avS (cutC p0) 2)) ((avD (cutC p0) 2)) ((avS (cutC p0) (avP (cutC p0) 2))) ((avD (cutC p0) (avP (cutC p0) 2)))).length : Nat) : Int))) then
  (idx x0q1 (otD ((anyOpV (cutC p0) 0)) ((avS (cutC p0) 2)) ((avD (cutC p0) 2)) ((avS (cutC p0) (avP (cutC p0) 2))) ((avD (cutC p0) (avP (cutC p0) 2)))).length).bind fun j13 =>
  ((otD ((anyOpV (cutC p0) 0)) ((avS (cutC p0) 2)) ((avD (cutC p0) 2)) ((avS (cutC p0) (avP (cutC p0) 2))) ((avD (cutC p0) (avP (cutC p0) 2))))[j13]?).bind fun v14 =>
  (bif decide (((((avD (cutC p0) (avP (cutC p0) 2)).length : Nat) : Int) : Int) = 0) then
  none
  else
  (idx (IntKind.wrap .i64 (Int.tdiv x0q1 (((avD (cutC p0) (avP (cutC p0) 2)).length : Nat) : Int))) (avD (cutC p0) 2).length).bind fun j15 =>
  ((avD (cutC p0) 2)[j15]?).bind fun v16 =>
  (bif decide (((((avD (cutC p0) (avP (cutC p0) 2)).length : Nat) : Int) : Int) = 0) then
  none
  else
  (idx (Int.tmod x0q1 (((avD (cutC p0) (avP (cutC p0) 2)).length : Nat) : Int)) (avD (cutC p0) (avP (cutC p0) 2)).length).bind fun j17 =>
  ((avD (cutC p0) (avP (cutC p0) 2))[j17]?).bind fun v18 =>
  (bif ((v14 : Int) != (operV ((anyOpV (cutC p0) 0)) v16 v18)) then
  some ([.one ((.bool false), false)], [])
  else
  L0 fuel n0 (t0 p0 ((IntKind.wrap .i64 (x0q1 + 1)))) (k0  fuel))))
  else
  (bif (((((otD ((anyOpV (cutC p0) 0)) ((avS (cutC p0) 2)) ((avD (cutC p0) 2)) ((avS (cutC p0) (avP (cutC p0) 2))) ((avD (cutC p0) (avP (cutC p0) 2)))).length : Nat) : Int) : Int) == (IntKind.wrap .i64 ((((avD (cutC p0) 2).length : Nat) : Int) * (((avD (cutC p0) (avP (cutC p0) 2)).length : Nat) : Int)))) then
  (bif decide (((otS ((anyOpV (cutC p0) 0)) ((avS (cutC p0) 2)) ((avD (cutC p0) 2)) ((avS (cutC p0) (avP (cutC p0) 2))) ((avD (cutC p0) (avP (cutC p0) 2))))).length < 9223372036854775808) && decide (((otD ((anyOpV (cutC p0) 0)) ((avS (cutC p0) 2)) ((avD (cutC p0) 2)) ((avS (cutC p0) (avP (cutC p0) 2))) ((avD (cutC p0) (avP (cutC p0) 2))))).length < 9223372036854775808) then
  (bif decide (((avS (cutC p0) 2)).length < 9223372036854775808) && decide (((avD (cutC p0) 2)).length < 9223372036854775808) then
  (bif decide (((avS (cutC p0) (avP (cutC p0) 2))).length < 9223372036854775808) && decide (((avD (cutC p0) (avP (cutC p0) 2))).length < 9223372036854775808) then
  some ([.one ((.bool (((rankV ((otS ((anyOpV (cutC p0) 0)) ((avS (cutC p0) 2)) ((avD (cutC p0) 2)) ((avS (cutC p0) (avP (cutC p0) 2))) ((avD (cutC p0) (avP (cutC p0) 2))))) ((otD ((anyOpV (cutC p0) 0)) ((avS (cutC p0) 2)) ((avD (cutC p0) 2)) ((avS (cutC p0) (avP (cutC p0) 2))) ((avD (cutC p0) (avP (cutC p0) 2)))))) : Int) == (IntKind.wrap .i64 ((rankV ((avS (cutC p0) 2)) ((avD (cutC p0) 2))) + (rankV ((avS (cutC p0) (avP (cutC p0) 2))) ((avD (cutC p0) (avP (cutC p0) 2)))))))), false)], [])
  else
  none)
  else
  none)
  else
  none)
  else
  some ([.one ((.bool false), false)], []))) := by kernel_rfl
end laws_FnOuterProduct
theorem laws_FnOuterProduct.ok_of (hX : ∀ E ∈ laws_FnOuterProduct.X, CallSpec Try.prog E) (h : ∀ (bs : List Int), (bytesB bs) = true → ∃ fuel, runF Try.prog laws_FnOuterProduct.X laws_FnOuterProduct.I 0 fuel 5 Try.f5 [.d (.ints .u8 bs)] = some ([.one ((.bool true), false)], [])) : CallSpec Try.prog laws_FnOuterProduct.E :=
  callSpec_of (d := 0) hX (by kernel_rfl) laws_FnOuterProduct.I_ok (by kernel_rfl) (by kernel_rfl) (by kernel_rfl) (fun _ _ _ _ h => by dsimp only [laws_FnOuterProduct.E] at h; cases h) (fun xs hp => by
    dsimp only [laws_FnOuterProduct.E] at hp ⊢
    split at hp
    · exact h _ hp
    · cases hp)
theorem laws_FnOuterProduct.ok : CallSpec Try.prog laws_FnOuterProduct.E := laws_FnOuterProduct.ok_of (by simp [laws_FnOuterProduct.X, spec_DrawOuterProduct.ok, impl_OuterProduct.ok, spec_OuterProduct.ok, laws_equalArray.ok, impl_Operate.ok, impl_RankOf.ok]) fun bs h => by
  obtain ⟨F, hF⟩ : ∃ F : Nat, 4000 < F := ⟨4001, by omega⟩
  refine ⟨F, ?_⟩
  rw [laws_FnOuterProduct.e]
  by_cases hl : ((bs.length : Nat) : Int) > 1048576
  · rw [decide_eq_true hl]; rfl
  rw [decide_eq_false hl, cond_false, h, cond_true]
  have r0 := cut_ok h (p := 0) (by omega) (by omega)
  obtain ⟨a1, a2, p1, p2⟩ := av_bd (rd_le (q := 2) r0 (by omega) (by omega)) (by omega)
  obtain ⟨a3, a4, _, _⟩ := av_bd (rd_le (q := avP (cutC bs) 2) r0 (by omega) (by omega)) (by omega)
  obtain ⟨op, hop⟩ : ∃ x, anyOpV (cutC bs) 0 = x := ⟨_, rfl⟩
  obtain ⟨s1, hs1⟩ : ∃ x, avS (cutC bs) 2 = x := ⟨_, rfl⟩
  obtain ⟨d1, hd1⟩ : ∃ x, avD (cutC bs) 2 = x := ⟨_, rfl⟩
  obtain ⟨s2, hs2⟩ : ∃ x, avS (cutC bs) (avP (cutC bs) 2) = x := ⟨_, rfl⟩
  obtain ⟨d2, hd2⟩ : ∃ x, avD (cutC bs) (avP (cutC bs) 2) = x := ⟨_, rfl⟩
  rw [hs1] at a1
  rw [hd1] at a2
  rw [hs2] at a3
  rw [hd2] at a4
  have g1 := lt_of (xs := s1) (by omega)
  have g2 := lt_of (xs := d1) (by omega)
  have g3 := lt_of (xs := s2) (by omega)
  have g4 := lt_of (xs := d2) (by omega)
  have ol := ot_len op s1 d1 s2 d2
  have g5 := lt_of (xs := otS op s1 d1 s2 d2) (by omega)
  have g6 := lt_of (xs := otD op s1 d1 s2 d2) (by omega)
  simp only [hop, hs1, hd1, hs2, hd2]
  cases hb : otB op s1 d1 s2 d2 with
  | false => simp only [Bool.and_self, Bool.and_true, Bool.true_and, cond_true, cond_false, Bool.not_true, Bool.not_false, bne_self_eq_false, beq_self_eq_true, decide_true, eq_self, g1, g2, g3, g4, g5, g6, hb]
  | true =>
    obtain ⟨h1, h2, h3, h4, h5, h6⟩ := otB_inv hb
    have oS : otS op s1 d1 s2 d2 = s1 ++ s2 := by simp only [otS, hb, cond_true]
    have oD : otD op s1 d1 s2 d2 = otN op d1 d2 := by simp only [otD, hb, cond_true]
    have hN : (otN op d1 d2).length = d1.length * d2.length := by simp only [otN, tab_length]
    have l1 := validA_len h2
    have l2 := validA_len h3
    have gt : ∀ j, j < d1.length * d2.length → j / d2.length < d1.length ∧ j % d2.length < d2.length ∧ (otN op d1 d2).getD j 0 = operF op (d1.getD (j / d2.length) 0) (d2.getD (j % d2.length) 0) := fun j hj => by
      obtain ⟨q1, q2, q3⟩ := dec2 hj
      refine ⟨q1, q2, ?_⟩
      simp only [otN]
      rw [tab_getD hj]
    have hvc : validA (s1 ++ s2) (otN op d1 d2) = true := by
      have hb2 : allB (otN op d1 d2) (-1000000) 1000000 = true := allB_iff.2 fun v hv => by
        obtain ⟨i, hi, rfl⟩ := List.getElem_of_mem hv
        obtain ⟨q1, q2, q3⟩ := gt i (by omega)
        have := operF_bd h1 (numB_get h2 q1) (numB_get h3 q2)
        rw [← q3, getD_el hi] at this
        exact this
      simp only [validA, h4, hb2, hN, h5, beq_self_eq_true, Bool.and_self]
    have g7 := lt_of (xs := s1 ++ s2) (by rw [List.length_append]; omega)
    have g8 := lt_of (xs := otN op d1 d2) (by omega)
    simp only [Bool.and_self, Bool.and_true, Bool.true_and, cond_true, cond_false, Bool.not_true, Bool.not_false, bne_self_eq_false, beq_self_eq_true, decide_true, eq_self, g1, g2, g3, g4, g5, g6, hb]
    refine run_loop (N := (otN op d1 d2).length) (fun n j (_ : Unit) => laws_FnOuterProduct.L0 F n (laws_FnOuterProduct.t0 bs (j : Int)) (laws_FnOuterProduct.k0 F)) (fun _ _ => True) ?_ ?_ F 0 () (by omega) (by omega) trivial
    · intro n _ _
      have hw : IntKind.wrap .i64 (((d1.length : Nat) : Int) * ((d2.length : Nat) : Int)) = ((d1.length * d2.length : Nat) : Int) := wMul (by omega)
      have hw2 : IntKind.wrap .i64 (((s1.length : Nat) : Int) + ((s2.length : Nat) : Int)) = (((s1 ++ s2).length : Nat) : Int) := by rw [wAdd (by omega), List.length_append]
      rw [laws_FnOuterProduct.s0]
      simp only [hop, hs1, hd1, hs2, hd2, oS, oD]
      rw [dge (by omega), cond_false]
      have g9 : decide (d1.length * d2.length < 9223372036854775808) = true := decide_eq_true (by omega)
      simp only [Bool.and_self, Bool.and_true, Bool.true_and, cond_true, cond_false, Bool.not_true, Bool.not_false, bne_self_eq_false, beq_self_eq_true, decide_true, eq_self, hN, hw, hw2, g1, g2, g3, g4, g7, g8, g9, rankV, h2, h3, hvc]
    · intro n j _ hj _
      have hj' : j < d1.length * d2.length := by omega
      obtain ⟨q1, q2, q3⟩ := gt j hj'
      have hle : j / d2.length ≤ j := Nat.div_le_self _ _
      have f1 := wN (n := j / d2.length) (by omega)
      have z : ¬ (((d2.length : Nat) : Int) = 0) := by omega
      have ev : operV op (d1.getD (j / d2.length) 0) (d2.getD (j % d2.length) 0) = operF op (d1.getD (j / d2.length) 0) (d2.getD (j % d2.length) 0) := by
        simp only [operV, h1, numB_get h2 q1, numB_get h3 q2, Bool.and_self, cond_true]
      rw [laws_FnOuterProduct.s0]
      simp only [hop, hs1, hd1, hs2, hd2, oS, oD]
      rw [dlt hj, cond_true, idx_nat hj, w1 (by omega)]
      simp only [Option.bind_some, getD_get hj, tdivN, tmodN, f1, idx_nat q1, idx_nat q2, getD_get q1, getD_get q2]
      rw [decide_eq_false z, cond_false, cond_false, q3, ev, bne_self_eq_false, cond_false]
      exact ⟨(), trivial, rfl⟩

namespace laws_FnOuterProductOne
noncomputable def E : Entry := ⟨7, true, false, fun | [.d (.ints .u8 bs)] => bytesB bs | _ => false, fun | [.d (.ints .u8 bs)] => ([.one ((.bool true), false)], []) | _ => ([], []), fun _ => [], false, fun _ => none⟩
end laws_FnOuterProductOne
namespace laws_FnOuterProductOne
noncomputable def X : List Entry := [spec_DrawOuterProduct.E, impl_OuterProduct.E, spec_OuterProduct.E, laws_equalArray.E, impl_ValidArray.E, impl_ScalarOf.E, impl_Combine.E]
noncomputable def I : List Inl := [⟨7, Try.f7, ⟨[19, 27, 34, 69, 71, 76, 78], [], [], [(8, [0, 2, 1, 3, 4, 5, 6, 7, 8, 9]), (9, [0, 2, 1, 3, 4, 5, 6, 7, 8, 9])], [], []⟩⟩]
theorem I_ok : ∀ i ∈ I, Try.prog.funcs[i.f]? = some i.fn ∧ (i.fn.name == "runtime.NumGoroutine") = false := by
  intro i hi
  simp only [I, List.mem_cons, List.not_mem_nil, or_false] at hi
  subst hi
  exact ⟨by kernel_rfl, by kernel_rfl⟩
theorem e (fuel : Nat) (p0 : List Int) : runF Try.prog X I 0 fuel 7 Try.f7 [.d (.ints .u8 p0)] =
  (bif (decide ((((p0.length : Nat) : Int) : Int) > 1048576)) then
  some ([.one ((.bool true), false)], [])
  else
  (bif bytesB p0 then
  (bif decide (((avS (cutC p0) 2)).length < 9223372036854775808) && decide (((avD (cutC p0) 2)).length < 9223372036854775808) && decide (((avS (cutC p0) (avP (cutC p0) 2))).length < 9223372036854775808) && decide (((avD (cutC p0) (avP (cutC p0) 2))).length < 9223372036854775808) then
  (bif decide (((avS (cutC p0) 2)).length < 9223372036854775808) && decide (((avD (cutC p0) 2)).length < 9223372036854775808) && decide (((avS (cutC p0) (avP (cutC p0) 2))).length < 9223372036854775808) && decide (((avD (cutC p0) (avP (cutC p0) 2))).length < 9223372036854775808) then
  (bif decide (((otS ((anyOpV (cutC p0) 0)) ((avS (cutC p0) 2)) ((avD (cutC p0) 2)) ((avS (cutC p0) (avP (cutC p0) 2))) ((avD (cutC p0) (avP (cutC p0) 2))))).length < 9223372036854775808) && decide (((otD ((anyOpV (cutC p0) 0)) ((avS (cutC p0) 2)) ((avD (cutC p0) 2)) ((avS (cutC p0) (avP (cutC p0) 2))) ((avD (cutC p0) (avP (cutC p0) 2))))).length < 9223372036854775808) && decide (((otS ((anyOpV (cutC p0) 0)) ((avS (cutC p0) 2)) ((avD (cutC p0) 2)) ((avS (cutC p0) (avP (cutC p0) 2))) ((avD (cutC p0) (avP (cutC p0) 2))))).length < 9223372036854775808) && decide (((otD ((anyOpV (cutC p0) 0)) ((avS (cutC p0) 2)) ((avD (cutC p0) 2)) ((avS (cutC p0) (avP (cutC p0) 2))) ((avD (cutC p0) (avP (cutC p0) 2))))).length < 9223372036854775808) then
  (bif (!(decide (((otS ((anyOpV (cutC p0) 0)) ((avS (cutC p0) 2)) ((avD (cutC p0) 2)) ((avS (cutC p0) (avP (cutC p0) 2))) ((avD (cutC p0) (avP (cutC p0) 2))))) = ((otS ((anyOpV (cutC p0) 0)) ((avS (cutC p0) 2)) ((avD (cutC p0) 2)) ((avS (cutC p0) (avP (cutC p0) 2))) ((avD (cutC p0) (avP (cutC p0) 2)))))) && decide (((otD ((anyOpV (cutC p0) 0)) ((avS (cutC p0) 2)) ((avD (cutC p0) 2)) ((avS (cutC p0) (avP (cutC p0) 2))) ((avD (cutC p0) (avP (cutC p0) 2))))) = ((otD ((anyOpV (cutC p0) 0)) ((avS (cutC p0) 2)) ((avD (cutC p0) 2)) ((avS (cutC p0) (avP (cutC p0) 2))) ((avD (cutC p0) (avP (cutC p0) 2)))))))) then
  (bif decide (((otS ((anyOpV (cutC p0) 0)) ((avS (cutC p0) 2)) ((avD (cutC p0) 2)) ((avS (cutC p0) (avP (cutC p0) 2))) ((avD (cutC p0) (avP (cutC p0) 2))))).length < 9223372036854775808) && decide (((otD ((anyOpV (cutC p0) 0)) ((avS (cutC p0) 2)) ((avD (cutC p0) 2)) ((avS (cutC p0) (avP (cutC p0) 2))) ((avD (cutC p0) (avP (cutC p0) 2))))).length < 9223372036854775808) && decide (((otS ((anyOpV (cutC p0) 0)) ((avS (cutC p0) 2)) ((avD (cutC p0) 2)) ((avS (cutC p0) (avP (cutC p0) 2))) ((avD (cutC p0) (avP (cutC p0) 2))))).length < 9223372036854775808) && decide (((otD ((anyOpV (cutC p0) 0)) ((avS (cutC p0) 2)) ((avD (cutC p0) 2)) ((avS (cutC p0) (avP (cutC p0) 2))) ((avD (cutC p0) (avP (cutC p0) 2))))).length < 9223372036854775808) then
  (bif (decide (((otS ((anyOpV (cutC p0) 0)) ((avS (cutC p0) 2)) ((avD (cutC p0) 2)) ((avS (cutC p0) (avP (cutC p0) 2))) ((avD (cutC p0) (avP (cutC p0) 2))))) = ((otS ((anyOpV (cutC p0) 0)) ((avS (cutC p0) 2)) ((avD (cutC p0) 2)) ((avS (cutC p0) (avP (cutC p0) 2))) ((avD (cutC p0) (avP (cutC p0) 2)))))) && decide (((otD ((anyOpV (cutC p0) 0)) ((avS (cutC p0) 2)) ((avD (cutC p0) 2)) ((avS (cutC p0) (avP (cutC p0) 2))) ((avD (cutC p0) (avP (cutC p0) 2))))) = ((otD ((anyOpV (cutC p0) 0)) ((avS (cutC p0) 2)) ((avD (cutC p0) 2)) ((avS (cutC p0) (avP (cutC p0) 2))) ((avD (cutC p0) (avP (cutC p0) 2))))))) then
  some ([.one ((.bool ((otB ((anyOpV (cutC p0) 0)) ((avS (cutC p0) 2)) ((avD (cutC p0) 2)) ((avS (cutC p0) (avP (cutC p0) 2))) ((avD (cutC p0) (avP (cutC p0) 2)))) == (otB ((anyOpV (cutC p0) 0)) ((avS (cutC p0) 2)) ((avD (cutC p0) 2)) ((avS (cutC p0) (avP (cutC p0) 2))) ((avD (cutC p0) (avP (cutC p0) 2)))))), false)], [])
  else
  some ([.one ((.bool false), false)], []))
  else
  none)
  else
  (bif (!((otB ((anyOpV (cutC p0) 0)) ((avS (cutC p0) 2)) ((avD (cutC p0) 2)) ((avS (cutC p0) (avP (cutC p0) 2))) ((avD (cutC p0) (avP (cutC p0) 2)))) == (otB ((anyOpV (cutC p0) 0)) ((avS (cutC p0) 2)) ((avD (cutC p0) 2)) ((avS (cutC p0) (avP (cutC p0) 2))) ((avD (cutC p0) (avP (cutC p0) 2)))))) then
  (bif decide (((otS ((anyOpV (cutC p0) 0)) ((avS (cutC p0) 2)) ((avD (cutC p0) 2)) ((avS (cutC p0) (avP (cutC p0) 2))) ((avD (cutC p0) (avP (cutC p0) 2))))).length < 9223372036854775808) && decide (((otD ((anyOpV (cutC p0) 0)) ((avS (cutC p0) 2)) ((avD (cutC p0) 2)) ((avS (cutC p0) (avP (cutC p0) 2))) ((avD (cutC p0) (avP (cutC p0) 2))))).length < 9223372036854775808) && decide (((otS ((anyOpV (cutC p0) 0)) ((avS (cutC p0) 2)) ((avD (cutC p0) 2)) ((avS (cutC p0) (avP (cutC p0) 2))) ((avD (cutC p0) (avP (cutC p0) 2))))).length < 9223372036854775808) && decide (((otD ((anyOpV (cutC p0) 0)) ((avS (cutC p0) 2)) ((avD (cutC p0) 2)) ((avS (cutC p0) (avP (cutC p0) 2))) ((avD (cutC p0) (avP (cutC p0) 2))))).length < 9223372036854775808) then
  (bif (decide (((otS ((anyOpV (cutC p0) 0)) ((avS (cutC p0) 2)) ((avD (cutC p0) 2)) ((avS (cutC p0) (avP (cutC p0) 2))) ((avD (cutC p0) (avP (cutC p0) 2))))) = ((otS ((anyOpV (cutC p0) 0)) ((avS (cutC p0) 2)) ((avD (cutC p0) 2)) ((avS (cutC p0) (avP (cutC p0) 2))) ((avD (cutC p0) (avP (cutC p0) 2)))))) && decide (((otD ((anyOpV (cutC p0) 0)) ((avS (cutC p0) 2)) ((avD (cutC p0) 2)) ((avS (cutC p0) (avP (cutC p0) 2))) ((avD (cutC p0) (avP (cutC p0) 2))))) = ((otD ((anyOpV (cutC p0) 0)) ((avS (cutC p0) 2)) ((avD (cutC p0) 2)) ((avS (cutC p0) (avP (cutC p0) 2))) ((avD (cutC p0) (avP (cutC p0) 2))))))) then
  some ([.one ((.bool ((otB ((anyOpV (cutC p0) 0)) ((avS (cutC p0) 2)) ((avD (cutC p0) 2)) ((avS (cutC p0) (avP (cutC p0) 2))) ((avD (cutC p0) (avP (cutC p0) 2)))) == (otB ((anyOpV (cutC p0) 0)) ((avS (cutC p0) 2)) ((avD (cutC p0) 2)) ((avS (cutC p0) (avP (cutC p0) 2))) ((avD (cutC p0) (avP (cutC p0) 2)))))), false)], [])
  else
  some ([.one ((.bool false), false)], []))
  else
  none)
  else
  (bif (decide (((anyOpV (cutC p0) 0) : Int) < 1)) then
  (bif decide (((otS ((anyOpV (cutC p0) 0)) ((avS (cutC p0) 2)) ((avD (cutC p0) 2)) ((avS (cutC p0) (avP (cutC p0) 2))) ((avD (cutC p0) (avP (cutC p0) 2))))).length < 9223372036854775808) && decide (((otD ((anyOpV (cutC p0) 0)) ((avS (cutC p0) 2)) ((avD (cutC p0) 2)) ((avS (cutC p0) (avP (cutC p0) 2))) ((avD (cutC p0) (avP (cutC p0) 2))))).length < 9223372036854775808) && decide (((otS ((anyOpV (cutC p0) 0)) ((avS (cutC p0) 2)) ((avD (cutC p0) 2)) ((avS (cutC p0) (avP (cutC p0) 2))) ((avD (cutC p0) (avP (cutC p0) 2))))).length < 9223372036854775808) && decide (((otD ((anyOpV (cutC p0) 0)) ((avS (cutC p0) 2)) ((avD (cutC p0) 2)) ((avS (cutC p0) (avP (cutC p0) 2))) ((avD (cutC p0) (avP (cutC p0) 2))))).length < 9223372036854775808) then
  (bif (decide (((otS ((anyOpV (cutC p0) 0)) ((avS (cutC p0) 2)) ((avD (cutC p0) 2)) ((avS (cutC p0) (avP (cutC p0) 2))) ((avD (cutC p0) (avP (cutC p0) 2))))) = ((otS ((anyOpV (cutC p0) 0)) ((avS (cutC p0) 2)) ((avD (cutC p0) 2)) ((avS (cutC p0) (avP (cutC p0) 2))) ((avD (cutC p0) (avP (cutC p0) 2)))))) && decide (((otD ((anyOpV (cutC p0) 0)) ((avS (cutC p0) 2)) ((avD (cutC p0) 2)) ((avS (cutC p0) (avP (cutC p0) 2))) ((avD (cutC p0) (avP (cutC p0) 2))))) = ((otD ((anyOpV (cutC p0) 0)) ((avS (cutC p0) 2)) ((avD (cutC p0) 2)) ((avS (cutC p0) (avP (cutC p0) 2))) ((avD (cutC p0) (avP (cutC p0) 2))))))) then
  some ([.one ((.bool ((otB ((anyOpV (cutC p0) 0)) ((avS (cutC p0) 2)) ((avD (cutC p0) 2)) ((avS (cutC p0) (avP (cutC p0) 2))) ((avD (cutC p0) (avP (cutC p0) 2)))) == (otB ((anyOpV (cutC p0) 0)) ((avS (cutC p0) 2)) ((avD (cutC p0) 2)) ((avS (cutC p0) (avP (cutC p0) 2))) ((avD (cutC p0) (avP (cutC p0) 2)))))), false)], [])
  else
  some ([.one ((.bool false), false)], []))
  else
  none)
  else
  (bif (decide (((anyOpV (cutC p0) 0) : Int) > 8)) then
  (bif decide (((otS ((anyOpV (cutC p0) 0)) ((avS (cutC p0) 2)) ((avD (cutC p0) 2)) ((avS (cutC p0) (avP (cutC p0) 2))) ((avD (cutC p0) (avP (cutC p0) 2))))).length < 9223372036854775808) && decide (((otD ((anyOpV (cutC p0) 0)) ((avS (cutC p0) 2)) ((avD (cutC p0) 2)) ((avS (cutC p0) (avP (cutC p0) 2))) ((avD (cutC p0) (avP (cutC p0) 2))))).length < 9223372036854775808) && decide (((otS ((anyOpV (cutC p0) 0)) ((avS (cutC p0) 2)) ((avD (cutC p0) 2)) ((avS (cutC p0) (avP (cutC p0) 2))) ((avD (cutC p0) (avP (cutC p0) 2))))).length < 9223372036854775808) && decide (((otD ((anyOpV (cutC p0) 0)) ((avS (cutC p0) 2)) ((avD (cutC p0) 2)) ((avS (cutC p0) (avP (cutC p0) 2))) ((avD (cutC p0) (avP (cutC p0) 2))))).length < 9223372036854775808) then
  (bif (decide (((otS ((anyOpV (cutC p0) 0)) ((avS (cutC p0) 2)) ((avD (cutC p0) 2)) ((avS (cutC p0) (avP (cutC p0) 2))) ((avD (cutC p0) (avP (cutC p0) 2))))) = ((otS ((anyOpV (cutC p0) 0)) ((avS (cutC p0) 2)) ((avD (cutC p0) 2)) ((avS (cutC p0) (avP (cutC p0) 2))) ((avD (cutC p0) (avP (cutC p0) 2)))))) && decide (((otD ((anyOpV (cutC p0) 0)) ((avS (cutC p0) 2)) ((avD (cutC p0) 2)) ((avS (cutC p0) (avP (cutC p0) 2))) ((avD (cutC p0) (avP (cutC p0) 2))))) = ((otD ((anyOpV (cutC p0) 0)) ((avS (cutC p0) 2)) ((avD (cutC p0) 2)) ((avS (cutC p0) (avP (cutC p0) 2))) ((avD (cutC p0) (avP (cutC p0) 2))))))) then
  some ([.one ((.bool ((otB ((anyOpV (cutC p0) 0)) ((avS (cutC p0) 2)) ((avD (cutC p0) 2)) ((avS (cutC p0) (avP (cutC p0) 2))) ((avD (cutC p0) (avP (cutC p0) 2)))) == (otB ((anyOpV (cutC p0) 0)) ((avS (cutC p0) 2)) ((avD (cutC p0) 2)) ((avS (cutC p0) (avP (cutC p0) 2))) ((avD (cutC p0) (avP (cutC p0) 2)))))), false)], [])
  else
  some ([.one ((.bool false), false)], []))
  else
  none)
  else
  (bif decide (((avS (cutC p0) 2)).length < 9223372036854775808) && decide (((avD (cutC p0) 2)).length < 9223372036854775808) then
  (bif (!(validA ((avS (cutC p0) 2)) ((avD (cutC p0) 2)))) then
  (bif decide (((otS ((anyOpV (cutC p0) 0)) ((avS (cutC p0) 2)) ((avD (cutC p0) 2)) ((avS (cutC p0) (avP (cutC p0) 2))) ((avD (cutC p0) (avP (cutC p0) 2))))).length < 9223372036854775808) && decide (((otD ((anyOpV (cutC p0) 0)) ((avS (cutC p0) 2)) ((avD (cutC p0) 2)) ((avS (cutC p0) (avP (cutC p0) 2))) ((avD (cutC p0) (avP (cutC p0) 2))))).length < 9223372036854775808) && decide (((otS ((anyOpV (cutC p0) 0)) ((avS (cutC p0) 2)) ((avD (cutC p0) 2)) ((avS (cutC p0) (avP (cutC p0) 2))) ((avD (cutC p0) (avP (cutC p0) 2))))).length < 9223372036854775808) && decide (((otD ((anyOpV (cutC p0) 0)) ((avS (cutC p0) 2)) ((avD (cutC p0) 2)) ((avS (cutC p0) (avP (cutC p0) 2))) ((avD (cutC p0) (avP (cutC p0) 2))))).length < 9223372036854775808) then
  (bif (decide (((otS ((anyOpV (cutC p0) 0)) ((avS (cutC p0) 2)) ((avD (cutC p0) 2)) ((avS (cutC p0) (avP (cutC p0) 2))) ((avD (cutC p0) (avP (cutC p0) 2))))) = ((otS ((anyOpV (cutC p0) 0)) ((avS (cutC p0) 2)) ((avD (cutC p0) 2)) ((avS (cutC p0) (avP (cutC p0) 2))) ((avD (cutC p0) (avP (cutC p0) 2)))))) && decide (((otD ((anyOpV (cutC p0) 0)) ((avS (cutC p0) 2)) ((avD (cutC p0) 2)) ((avS (cutC p0) (avP (cutC p0) 2))) ((avD (cutC p0) (avP (cutC p0) 2))))) = ((otD ((anyOpV (cutC p0) 0)) ((avS (cutC p0) 2)) ((avD (cutC p0) 2)) ((avS (cutC p0) (avP (cutC p0) 2))) ((avD (cutC p0) (avP (cutC p0) 2))))))) then
  some ([.one ((.bool ((otB ((anyOpV (cutC p0) 0)) ((avS (cutC p0) 2)) ((avD (cutC p0) 2)) ((avS (cutC p0) (avP (cutC p0) 2))) ((avD (cutC p0) (avP (cutC p0) 2)))) == (otB ((anyOpV (cutC p0) 0)) ((avS (cutC p0) 2)) ((avD (cutC p0) 2)) ((avS (cutC p0) (avP (cutC p0) 2))) ((avD (cutC p0) (avP (cutC p0) 2)))))), false)], [])
  else
  some ([.one ((.bool false), false)], []))
  else
  none)
  else
  (bif decide (nilI.length < 9223372036854775808) && decide (((scalL 3)).length < 9223372036854775808) && decide (((avS (cutC p0) 2)).length < 9223372036854775808) && decide (((avD (cutC p0) 2)).length < 9223372036854775808) then
  (bif decide (nilI.length < 9223372036854775808) && decide (((scalL 3)).length < 9223372036854775808) && decide (((avS (cutC p0) 2)).length < 9223372036854775808) && decide (((avD (cutC p0) 2)).length < 9223372036854775808) then
  (bif (otB ((anyOpV (cutC p0) 0)) nilI ((scalL 3)) ((avS (cutC p0) 2)) ((avD (cutC p0) 2))) then
  (bif (comB ((anyOpV (cutC p0) 0)) nilI ((scalL 3)) ((avS (cutC p0) 2)) ((avD (cutC p0) 2))) then
  (bif decide (((otS ((anyOpV (cutC p0) 0)) nilI ((scalL 3)) ((avS (cutC p0) 2)) ((avD (cutC p0) 2)))).length < 9223372036854775808) && decide (((otD ((anyOpV (cutC p0) 0)) nilI ((scalL 3)) ((avS (cutC p0) 2)) ((avD (cutC p0) 2)))).length < 9223372036854775808) && decide (((comS ((anyOpV (cutC p0) 0)) nilI ((scalL 3)) ((avS (cutC p0) 2)) ((avD (cutC p0) 2)))).length < 9223372036854775808) && decide (((comD ((anyOpV (cutC p0) 0)) nilI ((scalL 3)) ((avS (cutC p0) 2)) ((avD (cutC p0) 2)))).length < 9223372036854775808) then
  some ([.one ((.bool (decide (((otS ((anyOpV (cutC p0) 0)) nilI ((scalL 3)) ((avS (cutC p0) 2)) ((avD (cutC p0) 2)))) = ((comS ((anyOpV (cutC p0) 0)) nilI ((scalL 3)) ((avS (cutC p0) 2)) ((avD (cutC p0) 2))))) && decide (((otD ((anyOpV (cutC p0) 0)) nilI ((scalL 3)) ((avS (cutC p0) 2)) ((avD (cutC p0) 2)))) = ((comD ((anyOpV (cutC p0) 0)) nilI ((scalL 3)) ((avS (cutC p0) 2)) ((avD (cutC p0) 2))))))), false)], [])
  else
  none)
  else
  some ([.one ((.bool false), false)], []))
  else
  some ([.one ((.bool false), false)], []))
  else
  none)
  else
  none))
  else
  none)))))
  else
  none)
  else
  none)
  else
  none)
  else
  none)) := by kernel_rfl
end laws_FnOuterProductOne
theorem laws_FnOuterProductOne.ok_of (hX : ∀ E ∈ laws_FnOuterProductOne.X, CallSpec Try.prog E) (h : ∀ (bs : List Int), (bytesB bs) = true → ∃ fuel, runF Try.prog laws_FnOuterProductOne.X laws_FnOuterProductOne.I 0 fuel 7 Try.f7 [.d (.ints .u8 bs)] = some ([.one ((.bool true), false)], [])) : CallSpec Try.prog laws_FnOuterProductOne.E :=
  callSpec_of (d := 0) hX (by kernel_rfl) laws_FnOuterProductOne.I_ok (by kernel_rfl) (by kernel_rfl) (by kernel_rfl) (fun _ _ _ _ h => by dsimp only [laws_FnOuterProductOne.E] at h; cases h) (fun xs hp => by
    dsimp only [laws_FnOuterProductOne.E] at hp ⊢
    split at hp
    · exact h _ hp
    · cases hp)
theorem laws_FnOuterProductOne.ok : CallSpec Try.prog laws_FnOuterProductOne.E := laws_FnOuterProductOne.ok_of (by simp [laws_FnOuterProductOne.X, spec_DrawOuterProduct.ok, impl_OuterProduct.ok, spec_OuterProduct.ok, laws_equalArray.ok, impl_ValidArray.ok, impl_ScalarOf.ok, impl_Combine.ok]) fun bs h => by
  obtain ⟨F, hF⟩ : ∃ F : Nat, 4000 < F := ⟨4001, by omega⟩
  refine ⟨F, ?_⟩
  rw [laws_FnOuterProductOne.e]
  by_cases hl : ((bs.length : Nat) : Int) > 1048576
  · rw [decide_eq_true hl]; rfl
  rw [decide_eq_false hl, cond_false, h, cond_true]
  have r0 := cut_ok h (p := 0) (by omega) (by omega)
  obtain ⟨a1, a2, p1, p2⟩ := av_bd (rd_le (q := 2) r0 (by omega) (by omega)) (by omega)
  obtain ⟨a3, a4, _, _⟩ := av_bd (rd_le (q := avP (cutC bs) 2) r0 (by omega) (by omega)) (by omega)
  obtain ⟨op, hop⟩ : ∃ x, anyOpV (cutC bs) 0 = x := ⟨_, rfl⟩
  obtain ⟨s1, hs1⟩ : ∃ x, avS (cutC bs) 2 = x := ⟨_, rfl⟩
  obtain ⟨d1, hd1⟩ : ∃ x, avD (cutC bs) 2 = x := ⟨_, rfl⟩
  obtain ⟨s2, hs2⟩ : ∃ x, avS (cutC bs) (avP (cutC bs) 2) = x := ⟨_, rfl⟩
  obtain ⟨d2, hd2⟩ : ∃ x, avD (cutC bs) (avP (cutC bs) 2) = x := ⟨_, rfl⟩
  rw [hs1] at a1
  rw [hd1] at a2
  rw [hs2] at a3
  rw [hd2] at a4
  have g1 := lt_of (xs := s1) (by omega)
  have g2 := lt_of (xs := d1) (by omega)
  have g3 := lt_of (xs := s2) (by omega)
  have g4 := lt_of (xs := d2) (by omega)
  have ol := ot_len op s1 d1 s2 d2
  have g5 := lt_of (xs := otS op s1 d1 s2 d2) (by omega)
  have g6 := lt_of (xs := otD op s1 d1 s2 d2) (by omega)
  simp only [hop, hs1, hd1, hs2, hd2]
  by_cases q1 : op < 1
  · have e1 := decide_eq_true q1
    simp only [Bool.and_self, Bool.and_true, Bool.true_and, cond_true, cond_false, Bool.not_true, Bool.not_false, bne_self_eq_false, beq_self_eq_true, decide_true, eq_self, g1, g2, g3, g4, g5, g6, e1]
  · by_cases q8 : op > 8
    · have e1 := decide_eq_false q1
      have e8 := decide_eq_true q8
      simp only [Bool.and_self, Bool.and_true, Bool.true_and, cond_true, cond_false, Bool.not_true, Bool.not_false, bne_self_eq_false, beq_self_eq_true, decide_true, eq_self, g1, g2, g3, g4, g5, g6, e1, e8]
    · have e1 := decide_eq_false q1
      have e8 := decide_eq_false q8
      cases hv : validA s1 d1 with
      | false => simp only [Bool.and_self, Bool.and_true, Bool.true_and, cond_true, cond_false, Bool.not_true, Bool.not_false, bne_self_eq_false, beq_self_eq_true, decide_true, eq_self, g1, g2, g3, g4, g5, g6, e1, e8, hv]
      | true =>
        have ho : opOk op = true := by simp only [opOk, Bool.and_eq_true, decide_eq_true_eq]; omega
        have hl := validA_len hv
        have h3 : validA [] [(3 : Int)] = true := rfl
        have sc : scalL 3 = [3] := rfl
        have ob : otB op [] [3] s1 d1 = true := by simp only [otB, ho, h3, hv, List.nil_append, (validA_inv hv).1, Bool.and_self]
        have cb : comB op [] [3] s1 d1 = true := by simp only [comB, ho, h3, hv, Bool.and_self, Bool.true_and]; rfl
        have eN : otN op [3] d1 = cD op [] [3] s1 d1 := by
          have hc : cS [] s1 = s1 := rfl
          have hd := (validA_inv hv).2.1
          unfold otN cD
          rw [hc, ← hd, Int.toNat_natCast, show ([3] : List Int).length * d1.length = d1.length by simp]
          refine tab_congr fun i hi => ?_
          rw [Nat.div_eq_of_lt hi, Nat.mod_eq_of_lt hi, show min i (([3] : List Int).length - 1) = 0 by simp, show min i (d1.length - 1) = i by omega]
        have hlc : (cD op [] [3] s1 d1).length = d1.length := by rw [← eN]; simp [otN, tab_length]
        have gn := lt_of (xs := nilI) (by simp)
        have g7 := lt_of (xs := [(3 : Int)]) (by simp)
        have g8 := lt_of (xs := cD op [] [3] s1 d1) (by omega)
        have hcs : cS [] s1 = s1 := rfl
        simp only [Bool.and_self, Bool.and_true, Bool.true_and, cond_true, cond_false, Bool.not_true, Bool.not_false, bne_self_eq_false, beq_self_eq_true, decide_true, eq_self, g1, g2, g3, g4, g5, g6, g7, g8, gn, e1, e8, hv, sc, ob, cb]
        simp only [Bool.and_self, Bool.and_true, Bool.true_and, cond_true, cond_false, Bool.not_true, Bool.not_false, bne_self_eq_false, beq_self_eq_true, decide_true, eq_self, otS, otD, comS, comD, ob, cb, g1, g8, List.nil_append, hcs, eN]

end Go.Ab
