import Derived.Test.YthccdpfoikdonacEl1
import Derived.Test.YthccdpfoikdonacProg
import Derived.Test.YthccdpfoikdonacChecked
open Go Go.Ab Go.Proofs
set_option maxRecDepth 100000
set_option linter.unusedVariables false
set_option linter.unusedSimpArgs false
namespace Go.Ab
namespace laws_FnUniqueItems
noncomputable def E : Entry := ⟨7, true, false, fun | [.d (.ints .u8 bs)] => bytesB bs | _ => false, fun | [.d (.ints .u8 bs)] => ([.one ((.bool true), false)], []) | _ => ([], []), fun _ => [], false, fun _ => none⟩
end laws_FnUniqueItems
namespace laws_FnUniqueItems
noncomputable def X : List Entry := [spec_DrawUniqueItems.E, impl_UniqueItems.E, spec_UniqueItems.E, laws_equalArray.E, impl_ValidArray.E, laws_isIn.E]
noncomputable def I : List Inl := [⟨7, Try.f7, ⟨[11, 13, 16, 26, 73], [(1000008, [0, 1, 2, 6, 7, 8, 9, 10, 11, 12, 13, 14, 15, 16, 17, 18, 19, 20, 21, 22, 23, 24, 25, 26, 27, 28, 29, 30, 31, 32, 33, 34, 35, 36, 37, 38, 39, 40, 41, 42, 43, 44, 45, 46, 47, 48, 49, 50, 51, 52, 53, 54, 55, 56, 57, 58, 59, 60, 61, 62, 63, 64, 65, 66, 67, 68, 69, 70, 71, 72, 73, 74, 75]), (1000013, [0, 1, 2, 5, 7, 8, 9, 10, 11, 12, 13, 14, 15, 16, 17, 18, 19, 20, 21, 22, 23, 24, 25, 26, 27, 28, 29, 30, 31, 32, 33, 34, 35, 36, 37, 38, 39, 40, 41, 42, 43, 44, 45, 46, 47, 48, 49, 50, 51, 52, 53, 54, 55, 56, 57, 58, 59, 60, 61, 62, 63, 64, 65, 66, 67, 68, 69, 70, 71, 72, 73, 74, 75])], [], [(10, [0, 2, 4, 6, 1, 3, 5, 7, 8, 9, 10, 11, 13, 15, 12, 14, 16, 17, 18, 19, 20]), (15, [0, 2, 4, 1, 3, 5, 6, 7, 8]), (17, [0, 2, 1, 3, 4])], [], []⟩⟩]
theorem I_ok : ∀ i ∈ I, Try.prog.funcs[i.f]? = some i.fn ∧ (i.fn.name == "runtime.NumGoroutine") = false := by
  intro i hi
  simp only [I, List.mem_cons, List.not_mem_nil, or_false] at hi
  subst hi
  exact ⟨by kernel_rfl, by kernel_rfl⟩
noncomputable abbrev L0 (fuel n : Nat) (s : St) (k : Kont) := lAt Try.prog X I fuel true 0 false 7 (bodyOf Try.f7) [1, 1, 1, 1, 1, 0, 1, 0] n s k
noncomputable abbrev k0  (fuel : Nat) : Kont := (kAt Try.prog X I fuel true 0 false 7 (bodyOf Try.f7) [1, 1, 1, 1, 1, 0, 1, 0] [] (endK Try.prog Try.f7))
noncomputable def t0 (p0 : List Int) (x0q0 : Int) : St := ⟨[.dead, .dead, .dead, (.ptr 1000000000 0 0), (.ptr 1000000001 0 0), (.imm (.int .i64 x0q0)), .dead, .dead, .dead, .dead, .dead, .dead, .dead, .dead, .dead, .dead, .dead, .dead, .dead, .dead, .dead, .dead, .dead, .dead, .dead, .dead, .dead, .dead, .dead, .dead, .dead, .dead, .dead, .dead, .dead, .dead, .dead, .dead, .dead, .dead, .dead, .dead, .dead, .dead, .dead, .dead, .dead, .dead, .dead, .dead, .dead, .dead, .dead, .dead, .dead, .dead, .dead, .dead, .dead, .dead, .dead, .dead, .dead, .dead, .dead, .dead, .dead, .dead, .dead, .dead, .dead, .dead, .dead, .dead, .dead, .dead], hOf [(1000000000, (.box [(.imm (.ints .i64 (avS (cutC p0) 0))), (.imm (.ints .i64 (avD (cutC p0) 0)))])), (1000000001, (.box [(.all 1000000002 1), (.all 1000000003 1)])), (1000000002, (.ints .i64 (uqS ((avS (cutC p0) 0)) ((avD (cutC p0) 0))))), (1000000003, (.ints .i64 (uqD ((avS (cutC p0) 0)) ((avD (cutC p0) 0)))))], [], []⟩
noncomputable abbrev L1 (fuel n : Nat) (s : St) (k : Kont) := lAt Try.prog X I fuel true 0 false 7 (bodyOf Try.f7) [1, 1, 1, 1, 1, 1, 0, 1, 0] n s k
noncomputable abbrev k1  (fuel : Nat) : Kont := (kAt Try.prog X I fuel true 0 false 7 (bodyOf Try.f7) [1, 1, 1, 1, 1, 1, 0, 1, 0] [] (endK Try.prog Try.f7))
noncomputable def t1 (p0 : List Int) (x1q0 : Int) : St := ⟨[.dead, .dead, .dead, (.ptr 1000000000 0 0), (.ptr 1000000001 0 0), .dead, (.imm (.int .i64 x1q0)), .dead, .dead, .dead, .dead, .dead, .dead, .dead, .dead, .dead, .dead, .dead, .dead, .dead, .dead, .dead, .dead, .dead, .dead, .dead, .dead, .dead, .dead, .dead, .dead, .dead, .dead, .dead, .dead, .dead, .dead, .dead, .dead, .dead, .dead, .dead, .dead, .dead, .dead, .dead, .dead, .dead, .dead, .dead, .dead, .dead, .dead, .dead, .dead, .dead, .dead, .dead, .dead, .dead, .dead, .dead, .dead, .dead, .dead, .dead, .dead, .dead, .dead, .dead, .dead, .dead, .dead, .dead, .dead, .dead], hOf [(1000000000, (.box [(.imm (.ints .i64 (avS (cutC p0) 0))), (.imm (.ints .i64 (avD (cutC p0) 0)))])), (1000000001, (.box [(.all 1000000002 1), (.all 1000000003 1)])), (1000000002, (.ints .i64 (uqS ((avS (cutC p0) 0)) ((avD (cutC p0) 0))))), (1000000003, (.ints .i64 (uqD ((avS (cutC p0) 0)) ((avD (cutC p0) 0)))))], [], []⟩
theorem e (fuel : Nat) (p0 : List Int) : runF Try.prog X I 0 fuel 7 Try.f7 [.d (.ints .u8 p0)] =
  (bif (decide ((((p0.length : Nat) : Int) : Int) > 1048576)) then
  some ([.one ((.bool true), false)], [])
  else
  (bif bytesB p0 then
  (bif decide (((avS (cutC p0) 0)).length < 9223372036854775808) && decide (((avD (cutC p0) 0)).length < 9223372036854775808) then
  (bif decide (((avS (cutC p0) 0)).length < 9223372036854775808) && decide (((avD (cutC p0) 0)).length < 9223372036854775808) then
  (bif decide (((uqS ((avS (cutC p0) 0)) ((avD (cutC p0) 0)))).length < 9223372036854775808) && decide (((uqD ((avS (cutC p0) 0)) ((avD (cutC p0) 0)))).length < 9223372036854775808) && decide (((uqS ((avS (cutC p0) 0)) ((avD (cutC p0) 0)))).length < 9223372036854775808) && decide (((uqD ((avS (cutC p0) 0)) ((avD (cutC p0) 0)))).length < 9223372036854775808) then
  (bif (!(decide (((uqS ((avS (cutC p0) 0)) ((avD (cutC p0) 0)))) = ((uqS ((avS (cutC p0) 0)) ((avD (cutC p0) 0))))) && decide (((uqD ((avS (cutC p0) 0)) ((avD (cutC p0) 0)))) = ((uqD ((avS (cutC p0) 0)) ((avD (cutC p0) 0))))))) then
  (bif decide (((avS (cutC p0) 0)).length < 9223372036854775808) && decide (((avD (cutC p0) 0)).length < 9223372036854775808) then
  (bif decide (((uqS ((avS (cutC p0) 0)) ((avD (cutC p0) 0)))).length < 9223372036854775808) && decide (((uqD ((avS (cutC p0) 0)) ((avD (cutC p0) 0)))).length < 9223372036854775808) && decide (((uqS ((avS (cutC p0) 0)) ((avD (cutC p0) 0)))).length < 9223372036854775808) && decide (((uqD ((avS (cutC p0) 0)) ((avD (cutC p0) 0)))).length < 9223372036854775808) then
  some ([.one ((.bool (decide (((uqS ((avS (cutC p0) 0)) ((avD (cutC p0) 0)))) = ((uqS ((avS (cutC p0) 0)) ((avD (cutC p0) 0))))) && decide (((uqD ((avS (cutC p0) 0)) ((avD (cutC p0) 0)))) = ((uqD ((avS (cutC p0) 0)) ((avD (cutC p0) 0))))))), false)], [])
  else
  none)
  else
  none)
  else
  (bif decide (((uqS ((avS (cutC p0) 0)) ((avD (cutC p0) 0)))).length < 9223372036854775808) && decide (((uqD ((avS (cutC p0) 0)) ((avD (cutC p0) 0)))).length < 9223372036854775808) then
  (bif (!(validA ((uqS ((avS (cutC p0) 0)) ((avD (cutC p0) 0)))) ((uqD ((avS (cutC p0) 0)) ((avD (cutC p0) 0)))))) then
  (bif decide (((avS (cutC p0) 0)).length < 9223372036854775808) && decide (((avD (cutC p0) 0)).length < 9223372036854775808) then
  (bif decide (((uqS ((avS (cutC p0) 0)) ((avD (cutC p0) 0)))).length < 9223372036854775808) && decide (((uqD ((avS (cutC p0) 0)) ((avD (cutC p0) 0)))).length < 9223372036854775808) && decide (((uqS ((avS (cutC p0) 0)) ((avD (cutC p0) 0)))).length < 9223372036854775808) && decide (((uqD ((avS (cutC p0) 0)) ((avD (cutC p0) 0)))).length < 9223372036854775808) then
  some ([.one ((.bool (decide (((uqS ((avS (cutC p0) 0)) ((avD (cutC p0) 0)))) = ((uqS ((avS (cutC p0) 0)) ((avD (cutC p0) 0))))) && decide (((uqD ((avS (cutC p0) 0)) ((avD (cutC p0) 0)))) = ((uqD ((avS (cutC p0) 0)) ((avD (cutC p0) 0))))))), false)], [])
  else
  none)
  else
  none)
  else
  L0 fuel fuel (t0 p0 0) (k0  fuel))
  else
  none))
  else
  none)
  else
  none)
  else
  none)
  else
  none)) := by kernel_rfl
theorem s0 (fuel n0 : Nat) (p0 : List Int) (x0q0 : Int) : L0 fuel (n0 + 1) (t0 p0 x0q0) (k0  fuel) =
  (bif (decide ((x0q0 : Int) < (((uqD ((avS (cutC p0) 0)) ((avD (cutC p0) 0))).length : Nat) : Int))) then
  (cutEnds (uqD ((avS (cutC p0) 0)) ((avD (cutC p0) 0))).length (none) (some (.imm (.int .i64 x0q0)))).bind fun cq21 =>
  (idx x0q0 (uqD ((avS (cutC p0) 0)) ((avD (cutC p0) 0))).length).bind fun j22 =>
  ((uqD ((avS (cutC p0) 0)) ((avD (cutC p0) 0)))[j22]?).bind fun v23 =>
  (bif decide (cq21.1 + (cq21.2 - cq21.1) ≤ (uqD ((avS (cutC p0) 0)) ((avD (cutC p0) 0))).length) then
  (bif decide (((((uqD ((avS (cutC p0) 0)) ((avD (cutC p0) 0))).drop cq21.1).take (cq21.2 - cq21.1))).length < 9223372036854775808) then
  (bif (((((uqD ((avS (cutC p0) 0)) ((avD (cutC p0) 0))).drop cq21.1).take (cq21.2 - cq21.1))).contains v23) then
  some ([.one ((.bool false), false)], [])
  else
  (idx x0q0 (uqD ((avS (cutC p0) 0)) ((avD (cutC p0) 0))).length).bind fun j24 =>
  ((uqD ((avS (cutC p0) 0)) ((avD (cutC p0) 0)))[j24]?).bind fun v25 =>
  (bif decide (((avD (cutC p0) 0)).length < 9223372036854775808) then
  (bif (!(((avD (cutC p0) 0)).contains v25)) then
  some ([.one ((.bool false), false)], [])
  else
  L0 fuel n0 (t0 p0 ((IntKind.wrap .i64 (x0q0 + 1)))) (k0  fuel))
  else
  none))
  else
  none)
  else
  none)
  else
  L1 fuel fuel (t1 p0 0) (k1  fuel)) := by kernel_rfl
theorem s1 (fuel n1 : Nat) (p0 : List Int) (x1q0 : Int) : L1 fuel (n1 + 1) (t1 p0 x1q0) (k1  fuel) =
  (bif (decide ((x1q0 : Int) < (((avD (cutC p0) 0).length : Nat) : Int))) then
  (idx x1q0 (avD (cutC p0) 0).length).bind fun j28 =>
  ((avD (cutC p0) 0)[j28]?).bind fun v29 =>
  (bif decide (((uqD ((avS (cutC p0) 0)) ((avD (cutC p0) 0)))).length < 9223372036854775808) then
  (bif (!(((uqD ((avS (cutC p0) 0)) ((avD (cutC p0) 0)))).contains v29)) then
  some ([.one ((.bool false), false)], [])
  else
  L1 fuel n1 (t1 p0 ((IntKind.wrap .i64 (x1q0 + 1)))) (k1  fuel))
  else
  none)
  else
  (bif decide (((uqS ((avS (cutC p0) 0)) ((avD (cutC p0) 0)))).length < 9223372036854775808) && decide (((uqD ((avS (cutC p0) 0)) ((avD (cutC p0) 0)))).length < 9223372036854775808) then
  (bif decide (((uqS ((uqS ((avS (cutC p0) 0)) ((avD (cutC p0) 0)))) ((uqD ((avS (cutC p0) 0)) ((avD (cutC p0) 0)))))).length < 9223372036854775808) && decide (((uqD ((uqS ((avS (cutC p0) 0)) ((avD (cutC p0) 0)))) ((uqD ((avS (cutC p0) 0)) ((avD (cutC p0) 0)))))).length < 9223372036854775808) && decide (((uqS ((avS (cutC p0) 0)) ((avD (cutC p0) 0)))).length < 9223372036854775808) && decide (((uqD ((avS (cutC p0) 0)) ((avD (cutC p0) 0)))).length < 9223372036854775808) then
  some ([.one ((.bool (decide (((uqS ((uqS ((avS (cutC p0) 0)) ((avD (cutC p0) 0)))) ((uqD ((avS (cutC p0) 0)) ((avD (cutC p0) 0)))))) = ((uqS ((avS (cutC p0) 0)) ((avD (cutC p0) 0))))) && decide (((uqD ((uqS ((avS (cutC p0) 0)) ((avD (cutC p0) 0)))) ((uqD ((avS (cutC p0) 0)) ((avD (cutC p0) 0)))))) = ((uqD ((avS (cutC p0) 0)) ((avD (cutC p0) 0))))))), false)], [])
  else
  none)
  else
  none)) := by kernel_rfl
end laws_FnUniqueItems
theorem laws_FnUniqueItems.ok_of (hX : ∀ E ∈ laws_FnUniqueItems.X, CallSpec Try.prog E) (h : ∀ (bs : List Int), (bytesB bs) = true → ∃ fuel, runF Try.prog laws_FnUniqueItems.X laws_FnUniqueItems.I 0 fuel 7 Try.f7 [.d (.ints .u8 bs)] = some ([.one ((.bool true), false)], [])) : CallSpec Try.prog laws_FnUniqueItems.E :=
  callSpec_of (d := 0) hX (by kernel_rfl) laws_FnUniqueItems.I_ok (by kernel_rfl) (by kernel_rfl) (by kernel_rfl) (fun _ _ _ _ h => by dsimp only [laws_FnUniqueItems.E] at h; cases h) (fun xs hp => by
    dsimp only [laws_FnUniqueItems.E] at hp ⊢
    split at hp
    · exact h _ hp
    · cases hp)
theorem laws_FnUniqueItems.ok : CallSpec Try.prog laws_FnUniqueItems.E := laws_FnUniqueItems.ok_of (by simp [laws_FnUniqueItems.X, spec_DrawUniqueItems.ok, impl_UniqueItems.ok, spec_UniqueItems.ok, laws_equalArray.ok, impl_ValidArray.ok, laws_isIn.ok]) fun bs h => by
  obtain ⟨F, hF⟩ : ∃ F : Nat, 4000 < F := ⟨4001, by omega⟩
  refine ⟨F, ?_⟩
  rw [laws_FnUniqueItems.e]
  by_cases hl : ((bs.length : Nat) : Int) > 1048576
  · rw [decide_eq_true hl]; rfl
  rw [decide_eq_false hl, cond_false, h, cond_true]
  have r0 := cut_ok h (p := 0) (by omega) (by omega)
  obtain ⟨a1, a2, _, _⟩ := av_bd r0 (by omega)
  obtain ⟨sh, hsh⟩ : ∃ x, avS (cutC bs) 0 = x := ⟨_, rfl⟩
  obtain ⟨da, hda⟩ : ∃ x, avD (cutC bs) 0 = x := ⟨_, rfl⟩
  rw [hsh] at a1
  rw [hda] at a2
  have g1 := lt_of (xs := sh) (by omega)
  have g2 := lt_of (xs := da) (by omega)
  have q1 : ∀ n : Nat, decide (([(n : Int)] : List Int).length < 9223372036854775808) = true := fun n => rfl
  simp only [hsh, hda]
  cases hb : vcB sh da with
  | false =>
    have e0 : uqS sh da = [] := by simp only [uqS, hb, cond_false]
    have e1 : uqD sh da = [] := by simp only [uqD, hb, cond_false]
    have g0 : decide (([] : List Int).length < 9223372036854775808) = true := rfl
    have hv0 : validA [] [] = false := rfl
    simp only [Bool.and_self, Bool.and_true, Bool.true_and, cond_true, cond_false, Bool.not_true, Bool.not_false, bne_self_eq_false, beq_self_eq_true, decide_true, eq_self, g1, g2, e0, e1, g0, hv0]
  | true =>
    obtain ⟨hv, hs, hl60, hal⟩ := vcB_inv hb
    obtain ⟨e0, e1, hvo, hul⟩ := uq_facts hb
    have hvu := validA_vec hvo
    have g3 := lt_of (xs := uqC da da.length) (by omega)
    simp only [Bool.and_self, Bool.and_true, Bool.true_and, cond_true, cond_false, Bool.not_true, Bool.not_false, bne_self_eq_false, beq_self_eq_true, decide_true, eq_self, g1, g2, g3, q1, e0, e1, hvu]
    have hfr := uq_fresh da da.length
    have hmem := uqC_mem da da.length (Nat.le_refl _)
    rw [List.take_length] at hmem
    refine run_loop (N := (uqC da da.length).length) (fun m i (_ : Unit) => laws_FnUniqueItems.L0 F m (laws_FnUniqueItems.t0 bs (i : Int)) (laws_FnUniqueItems.k0 F)) (fun _ _ => True) ?_ ?_ F 0 () (by omega) (by omega) trivial
    · intro m _ _
      rw [laws_FnUniqueItems.s0]
      simp only [hsh, hda, e0, e1]
      rw [dge (by omega), cond_false]
      refine run_loop (N := da.length) (fun m i (_ : Unit) => laws_FnUniqueItems.L1 F m (laws_FnUniqueItems.t1 bs (i : Int)) (laws_FnUniqueItems.k1 F)) (fun _ _ => True) ?_ ?_ F 0 () (by omega) (by omega) trivial
      · intro m _ _
        have hb2 := vcB_of hvo
        obtain ⟨u0, u1, _, _⟩ := uq_facts hb2
        have u2 := uq_self hfr (uqC da da.length).length (Nat.le_refl _)
        rw [List.take_length] at u2
        rw [u2] at u0 u1
        rw [laws_FnUniqueItems.s1]
        simp only [hsh, hda, e0, e1]
        rw [dge (by omega)]
        simp only [Bool.and_self, Bool.and_true, Bool.true_and, cond_true, cond_false, Bool.not_true, Bool.not_false, bne_self_eq_false, beq_self_eq_true, decide_true, eq_self, g3, q1, u0, u1]
      · intro m i _ hi _
        refine ⟨(), trivial, ?_⟩
        have hc : (uqC da da.length).contains (da.getD i 0) = true := contains_iff.2 ((hmem _).2 (mem_getD hi))
        rw [laws_FnUniqueItems.s1]
        simp only [hsh, hda, e0, e1]
        rw [dlt hi, cond_true, idx_nat hi, w1 (by omega), g3]
        simp only [Option.bind_some, getD_get hi, hc]
        rfl
    · intro m i _ hi _
      refine ⟨(), trivial, ?_⟩
      have h1 := hfr i hi
      have h2 : da.contains ((uqC da da.length).getD i 0) = true := contains_iff.2 ((hmem _).1 (mem_getD hi))
      rw [laws_FnUniqueItems.s0]
      simp only [hsh, hda, e0, e1]
      rw [dlt hi, cond_true, cut_hi (by omega), idx_nat hi, w1 (by omega)]
      simp only [Option.bind_some, getD_get hi, List.drop_zero, Nat.sub_zero, h1, h2]
      rw [decide_eq_true (p := 0 + i ≤ (uqC da da.length).length) (by omega), lt_of (by rw [List.length_take]; omega), g2]
      rfl

end Go.Ab
