import Derived.Test.YthccdpfoikdonaaEa1
import Derived.Test.YthccdpfoikdonaaProg
import Derived.Test.YthccdpfoikdonaaChecked
open Go Go.Ab Go.Proofs
set_option maxRecDepth 100000
set_option linter.unusedVariables false
set_option linter.unusedSimpArgs false
namespace Go.Ab
namespace impl_WhereItems
noncomputable def E : Entry := ⟨29, false, false, fun | [.d (.agg [(.ints .i64 sh), (.ints .i64 da)])] => decide (sh.length < 9223372036854775808) && decide (da.length < 9223372036854775808) | _ => false, fun | [.d (.agg [(.ints .i64 sh), (.ints .i64 da)])] => ([.agg [((.ints .i64 (whS sh da)), true), ((.ints .i64 (whD sh da)), true)]], []) | _ => ([], []), fun _ => [], true, fun _ => none⟩
end impl_WhereItems
namespace impl_WhereItems
noncomputable def X : List Entry := [impl_isVector.E, impl_VectorOf.E]
noncomputable def I : List Inl := [⟨29, Try.f29, ⟨[26], [(1000005, [0, 1, 4, 5, 6, 7, 8, 9, 10, 14, 15, 16, 17, 18, 19, 20, 21, 22, 23, 24, 25, 26])], [], [], [], []⟩⟩]
theorem I_ok : ∀ i ∈ I, Try.prog.funcs[i.f]? = some i.fn ∧ (i.fn.name == "runtime.NumGoroutine") = false := by
  intro i hi
  simp only [I, List.mem_cons, List.not_mem_nil, or_false] at hi
  subst hi
  exact ⟨by kernel_rfl, by kernel_rfl⟩
noncomputable abbrev L0 (fuel n : Nat) (s : St) (k : Kont) := lAt Try.prog X I fuel true 0 false 29 (bodyOf Try.f29) [1, 1, 1, 0, 1, 0] n s k
noncomputable abbrev k0  (fuel : Nat) : Kont := (kAt Try.prog X I fuel true 0 false 29 (bodyOf Try.f29) [1, 1, 1, 0, 1, 0] [] (endK Try.prog Try.f29))
noncomputable def t0 (p0q1 : List Int) (x0q2 : Int) : St := ⟨[.dead, .dead, (.ptr 1000000000 0 0), (.imm .nils), .dead, .dead, .dead, .dead, .dead, .dead, .dead, (.imm (.ints .i64 p0q1)), (.imm (.int .i64 ((p0q1.length : Nat) : Int))), (.imm (.int .i64 x0q2)), .dead, .dead, .dead, .dead, .dead, .dead, .dead, .dead, .dead, .dead, .dead, .dead, .dead], hOf [(1000000000, (.box [(.imm .nils), (.imm .nils)]))], [], []⟩
noncomputable abbrev L1 (fuel n : Nat) (s : St) (k : Kont) := lAt Try.prog X I fuel true 0 false 29 (bodyOf Try.f29) [1, 1, 1, 0, 1, 0] n s k
noncomputable abbrev k1  (fuel : Nat) : Kont := (kAt Try.prog X I fuel true 0 false 29 (bodyOf Try.f29) [1, 1, 1, 0, 1, 0] [] (endK Try.prog Try.f29))
noncomputable def t1 (p0q1 : List Int) (x1q2 : Int) (x1q3 : List Int) : St := ⟨[.dead, .dead, (.ptr 1000000000 0 0), (.all 1000000001 1), .dead, .dead, .dead, .dead, .dead, .dead, .dead, (.imm (.ints .i64 p0q1)), (.imm (.int .i64 ((p0q1.length : Nat) : Int))), (.imm (.int .i64 x1q2)), .dead, .dead, .dead, .dead, .dead, .dead, .dead, .dead, .dead, .dead, .dead, .dead, .dead], hOf [(1000000000, (.box [(.imm .nils), (.imm .nils)])), (1000000001, (.ints .i64 x1q3))], [], []⟩
theorem e (fuel : Nat) (p0q0 : List Int) (p0q1 : List Int) : runF Try.prog X I 0 fuel 29 Try.f29 [.d (.agg [(.ints .i64 p0q0), (.ints .i64 p0q1)])] =
  (bif decide (p0q0.length < 9223372036854775808) && decide (p0q1.length < 9223372036854775808) then
  (bif (!(vcB p0q0 p0q1)) then
  some ([.agg [((.ints .i64 []), true), ((.ints .i64 []), true)]], [])
  else
  L0 fuel fuel (t0 p0q1 0) (k0  fuel))
  else
  none) := by kernel_rfl
theorem s0 (fuel n0 : Nat) (p0q1 : List Int) (x0q2 : Int) : L0 fuel (n0 + 1) (t0 p0q1 x0q2) (k0  fuel) =
  (bif (decide ((x0q2 : Int) < ((p0q1.length : Nat) : Int))) then
  (idx x0q2 p0q1.length).bind fun j5 =>
  (p0q1[j5]?).bind fun v6 =>
  (bif ((v6 : Int) != 0) then
  (bif fits ([x0q2] : List Int).length 8 then
  L1 fuel n0 (t1 p0q1 ((IntKind.wrap .i64 (x0q2 + 1))) ([x0q2])) (k1  fuel)
  else
  none)
  else
  L0 fuel n0 (t0 p0q1 ((IntKind.wrap .i64 (x0q2 + 1)))) (k0  fuel))
  else
  (bif szB (([] : List Int)) then
  some ([.agg [((.ints .i64 (vecS (([] : List Int)))), true), ((.ints .i64 (vecD (([] : List Int)))), true)]], [])
  else
  none)) := by kernel_rfl
theorem s1 (fuel n1 : Nat) (p0q1 : List Int) (x1q2 : Int) (x1q3 : List Int) : L1 fuel (n1 + 1) (t1 p0q1 x1q2 x1q3) (k1  fuel) =
  (bif (decide ((x1q2 : Int) < ((p0q1.length : Nat) : Int))) then
  (idx x1q2 p0q1.length).bind fun j11 =>
  (p0q1[j11]?).bind fun v12 =>
  (bif ((v12 : Int) != 0) then
  (bif fits (x1q3.length + ([x1q2] : List Int).length) 8 then
  L1 fuel n1 (t1 p0q1 ((IntKind.wrap .i64 (x1q2 + 1))) ((x1q3 ++ [x1q2]))) (k1  fuel)
  else
  none)
  else
  L1 fuel n1 (t1 p0q1 ((IntKind.wrap .i64 (x1q2 + 1))) x1q3) (k1  fuel))
  else
  (bif szB x1q3 then
  some ([.agg [((.ints .i64 (vecS x1q3)), true), ((.ints .i64 (vecD x1q3)), true)]], [])
  else
  none)) := by kernel_rfl
end impl_WhereItems
theorem impl_WhereItems.ok_of (hX : ∀ E ∈ impl_WhereItems.X, CallSpec Try.prog E) (h : ∀ (sh : List Int) (da : List Int), (decide (sh.length < 9223372036854775808) && decide (da.length < 9223372036854775808)) = true → ∃ fuel, runF Try.prog impl_WhereItems.X impl_WhereItems.I 0 fuel 29 Try.f29 [.d (.agg [(.ints .i64 sh), (.ints .i64 da)])] = some ([.agg [((.ints .i64 (whS sh da)), true), ((.ints .i64 (whD sh da)), true)]], [])) : CallSpec Try.prog impl_WhereItems.E :=
  callSpec_of (d := 0) hX (by kernel_rfl) impl_WhereItems.I_ok (by kernel_rfl) (by kernel_rfl) (by kernel_rfl) (fun _ _ _ _ h => by dsimp only [impl_WhereItems.E] at h; cases h) (fun xs hp => by
    dsimp only [impl_WhereItems.E] at hp ⊢
    split at hp
    · exact h _ _ hp
    · cases hp)
theorem impl_WhereItems.fin {da : List Int} (hl : da.length ≤ 60) : szB (whC da da.length) = true ∧ vecS (whC da da.length) = [(((whC da da.length).length : Nat) : Int)] ∧ vecD (whC da da.length) = whC da da.length := by
  have hw := whC_len da da.length
  refine ⟨szB_of (by omega), vecOk_eq (vec_part (by omega) fun x hx => ?_)⟩
  have := whC_mem da da.length x hx
  omega
theorem impl_WhereItems.ok : CallSpec Try.prog impl_WhereItems.E := impl_WhereItems.ok_of (by simp [impl_WhereItems.X, impl_isVector.ok, impl_VectorOf.ok]) fun sh da h => ⟨da.length + 1, by
  rw [impl_WhereItems.e, h]
  unfold whS whD
  cases hb : vcB sh da with
  | false => rfl
  | true =>
    obtain ⟨_, _, hl, _⟩ := vcB_inv hb
    obtain ⟨q1, q2, q3⟩ := impl_WhereItems.fin hl
    have hw := whC_len da
    refine run_loop (N := da.length) (fun n j (out : List Int) => match out with
      | [] => impl_WhereItems.L0 (da.length + 1) n (impl_WhereItems.t0 da (j : Int)) (impl_WhereItems.k0 (da.length + 1))
      | _ => impl_WhereItems.L1 (da.length + 1) n (impl_WhereItems.t1 da (j : Int) out) (impl_WhereItems.k1 (da.length + 1))) (fun j out => out = whC da j) ?_ ?_ (da.length + 1) 0 [] (by omega) (by omega) rfl
    · rintro n out ho
      rw [← ho] at q1 q2 q3
      match out, ho with
      | [], ho =>
        simp only
        rw [impl_WhereItems.s0, dge (by omega), cond_false, q1, q2, q3, ← ho]
        rfl
      | v :: vs, ho =>
        simp only
        rw [impl_WhereItems.s1, dge (by omega), cond_false, q1, q2, q3, ← ho]
        rfl
    · rintro n j out hj ho
      have := hw j
      rw [← ho] at this
      refine ⟨whC da (j + 1), rfl, ?_⟩
      simp only [whC]
      rw [← ho]
      match out, ho, this with
      | [], ho, _ =>
        simp only
        rw [impl_WhereItems.s0, dlt hj, cond_true, idx_nat hj, w1 (by omega), fitsOk (by simp only [List.length_cons, List.length_nil]; omega)]
        simp only [Option.bind_some, getD_get hj, cond_true, bne]
        cases (da.getD j 0 == 0) <;> rfl
      | v :: vs, ho, this =>
        simp only
        rw [impl_WhereItems.s1, dlt hj, cond_true, idx_nat hj, w1 (by omega), fitsOk (by simp only [List.length_cons, List.length_nil] at this ⊢; omega)]
        simp only [Option.bind_some, getD_get hj, cond_true, bne]
        cases (da.getD j 0 == 0) <;> rfl⟩

namespace laws_FnExactWhereItems
noncomputable def E : Entry := ⟨8, true, false, fun | [.d (.agg [(.ints .i64 sh), (.ints .i64 da)])] => decide (sh.length < 9223372036854775808) && decide (da.length < 9223372036854775808) | _ => false, fun | [.d (.agg [(.ints .i64 sh), (.ints .i64 da)])] => ([.one ((.bool true), false)], []) | _ => ([], []), fun _ => [], false, fun _ => none⟩
end laws_FnExactWhereItems
namespace laws_FnExactWhereItems
noncomputable def X : List Entry := [laws_szArray.E, laws_toArray.E, spec_WhereItems.E, impl_WhereItems.E, laws_eqArray.E, laws_markArray.E, laws_heldArray.E]
noncomputable def I : List Inl := [⟨8, Try.f8, ⟨[17, 18, 20, 22, 29, 55, 56], [], [], [], [], []⟩⟩]
theorem I_ok : ∀ i ∈ I, Try.prog.funcs[i.f]? = some i.fn ∧ (i.fn.name == "runtime.NumGoroutine") = false := by
  intro i hi
  simp only [I, List.mem_cons, List.not_mem_nil, or_false] at hi
  subst hi
  exact ⟨by kernel_rfl, by kernel_rfl⟩
theorem e (fuel : Nat) (p0q0 : List Int) (p0q1 : List Int) : runF Try.prog X I 0 fuel 8 Try.f8 [.d (.agg [(.ints .i64 p0q0), (.ints .i64 p0q1)])] =
  (bif (decide (((szA p0q0 p0q1 1048576) : Int) < 0)) then
  some ([.one ((.bool true), false)], [])
  else
  (bif szB p0q0 && szB p0q1 then
  (bif decide (p0q0.length < 9223372036854775808) && decide (p0q1.length < 9223372036854775808) then
  (bif szB p0q0 && szB p0q1 then
  (bif decide (p0q0.length < 9223372036854775808) && decide (p0q1.length < 9223372036854775808) then
  (bif decide (((whS p0q0 p0q1)).length < 9223372036854775808) && decide (((whD p0q0 p0q1)).length < 9223372036854775808) && decide (((whS p0q0 p0q1)).length < 9223372036854775808) && decide (((whD p0q0 p0q1)).length < 9223372036854775808) then
  (bif (!(decide (((whS p0q0 p0q1)) = ((whS p0q0 p0q1))) && decide (((whD p0q0 p0q1)) = ((whD p0q0 p0q1))))) then
  some ([.one ((.bool false), false)], [])
  else
  (bif szB p0q0 && szB p0q1 then
  (bif decide (p0q0.length < 9223372036854775808) && decide (p0q1.length < 9223372036854775808) && decide (p0q0.length < 9223372036854775808) && decide (p0q1.length < 9223372036854775808) then
  (bif (!(decide (p0q0 = p0q0) && decide (p0q1 = p0q1))) then
  some ([.one ((.bool false), false)], [])
  else
  (bif decide (p0q0.length < 9223372036854775808) && decide (p0q1.length < 9223372036854775808) then
  (bif (decide (((markK p0q1 (markK p0q0 1)) : Int) < 0)) then
  some ([.one ((.bool false), false)], [])
  else
  (bif decide (((whS p0q0 p0q1)).length < 9223372036854775808) && decide (((whD p0q0 p0q1)).length < 9223372036854775808) && decide (((whS p0q0 p0q1)).length < 9223372036854775808) && decide (((whD p0q0 p0q1)).length < 9223372036854775808) then
  (bif (!(decide (((whS p0q0 p0q1)) = ((whS p0q0 p0q1))) && decide (((whD p0q0 p0q1)) = ((whD p0q0 p0q1))))) then
  some ([.one ((.bool false), false)], [])
  else
  (bif decide (((whS p0q0 p0q1)).length < 9223372036854775808) && decide (((whD p0q0 p0q1)).length < 9223372036854775808) then
  (bif decide (((markL ((whS p0q0 p0q1)) 1)).length < 9223372036854775808) && decide (((markL ((whD p0q0 p0q1)) (markK ((whS p0q0 p0q1)) 1))).length < 9223372036854775808) then
  (bif (decide (((heldA ((markL ((whS p0q0 p0q1)) 1)) ((markL ((whD p0q0 p0q1)) (markK ((whS p0q0 p0q1)) 1))) 1) : Int) < 0)) then
  some ([.one ((.bool false), false)], [])
  else
  (bif (((heldA ((markL ((whS p0q0 p0q1)) 1)) ((markL ((whD p0q0 p0q1)) (markK ((whS p0q0 p0q1)) 1))) 1) : Int) != (markK ((whD p0q0 p0q1)) (markK ((whS p0q0 p0q1)) 1))) then
  some ([.one ((.bool false), false)], [])
  else
  (bif szB p0q0 && szB p0q1 then
  (bif decide (p0q0.length < 9223372036854775808) && decide (p0q1.length < 9223372036854775808) then
  (bif decide (((whS p0q0 p0q1)).length < 9223372036854775808) && decide (((whD p0q0 p0q1)).length < 9223372036854775808) && decide (((whS p0q0 p0q1)).length < 9223372036854775808) && decide (((whD p0q0 p0q1)).length < 9223372036854775808) then
  (bif (!(decide (((whS p0q0 p0q1)) = ((whS p0q0 p0q1))) && decide (((whD p0q0 p0q1)) = ((whD p0q0 p0q1))))) then
  some ([.one ((.bool false), false)], [])
  else
  (bif decide (((markL ((whS p0q0 p0q1)) 1)).length < 9223372036854775808) && decide (((markL ((whD p0q0 p0q1)) (markK ((whS p0q0 p0q1)) 1))).length < 9223372036854775808) then
  (bif (decide (((heldA ((markL ((whS p0q0 p0q1)) 1)) ((markL ((whD p0q0 p0q1)) (markK ((whS p0q0 p0q1)) 1))) 1) : Int) < 0)) then
  some ([.one ((.bool false), false)], [])
  else
  (bif (((heldA ((markL ((whS p0q0 p0q1)) 1)) ((markL ((whD p0q0 p0q1)) (markK ((whS p0q0 p0q1)) 1))) 1) : Int) != (markK ((whD p0q0 p0q1)) (markK ((whS p0q0 p0q1)) 1))) then
  some ([.one ((.bool false), false)], [])
  else
  some ([.one ((.bool true), false)], [])))
  else
  none))
  else
  none)
  else
  none)
  else
  none)))
  else
  none)
  else
  none))
  else
  none))
  else
  none))
  else
  none)
  else
  none))
  else
  none)
  else
  none)
  else
  none)
  else
  none)
  else
  none)) := by kernel_rfl
end laws_FnExactWhereItems
theorem laws_FnExactWhereItems.ok_of (hX : ∀ E ∈ laws_FnExactWhereItems.X, CallSpec Try.prog E) (h : ∀ (sh : List Int) (da : List Int), (decide (sh.length < 9223372036854775808) && decide (da.length < 9223372036854775808)) = true → ∃ fuel, runF Try.prog laws_FnExactWhereItems.X laws_FnExactWhereItems.I 0 fuel 8 Try.f8 [.d (.agg [(.ints .i64 sh), (.ints .i64 da)])] = some ([.one ((.bool true), false)], [])) : CallSpec Try.prog laws_FnExactWhereItems.E :=
  callSpec_of (d := 0) hX (by kernel_rfl) laws_FnExactWhereItems.I_ok (by kernel_rfl) (by kernel_rfl) (by kernel_rfl) (fun _ _ _ _ h => by dsimp only [laws_FnExactWhereItems.E] at h; cases h) (fun xs hp => by
    dsimp only [laws_FnExactWhereItems.E] at hp ⊢
    split at hp
    · exact h _ _ hp
    · cases hp)
theorem laws_FnExactWhereItems.ok : CallSpec Try.prog laws_FnExactWhereItems.E := laws_FnExactWhereItems.ok_of (by simp [laws_FnExactWhereItems.X, laws_szArray.ok, laws_toArray.ok, spec_WhereItems.ok, impl_WhereItems.ok, laws_eqArray.ok, laws_markArray.ok, laws_heldArray.ok]) fun sh da h => ⟨0, by
  rw [laws_FnExactWhereItems.e]
  simp only [Bool.and_eq_true] at h
  obtain ⟨g0, g1⟩ := h
  by_cases a0 : szA sh da 1048576 < 0
  · rw [decide_eq_true a0]; rfl
  obtain ⟨q0, p0⟩ := szA_le (by omega) (by omega) (of_decide_eq_true g0) (of_decide_eq_true g1) a0
  have z0 := szB_of (xs := sh) (by omega)
  have z1 := szB_of (xs := da) (by omega)
  have hl := wh_len sh da
  obtain ⟨r0a, r0b, r0c, r0d, r0e, r0f⟩ := marks_ok (sh := (whS sh da)) (da := (whD sh da)) (by omega) (by omega)
  have mk := mark2_ok (xs := sh) (ys := da) (by omega) (by omega)
  simp only [decide_eq_false a0, g0, g1, z0, z1, r0a, r0b, r0c, r0d, r0e, r0f, mk, bne_self_eq_false, beq_self_eq_true, decide_true, Bool.and_self, Bool.not_true, cond_true, cond_false]⟩

end Go.Ab
