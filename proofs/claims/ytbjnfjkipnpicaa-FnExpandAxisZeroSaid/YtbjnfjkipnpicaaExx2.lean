import Derived.Test.YtbjnfjkipnpicaaExx1
import Derived.Test.YtbjnfjkipnpicaaProg
import Derived.Test.YtbjnfjkipnpicaaChecked
open Go Go.Ab Go.Proofs
set_option maxRecDepth 100000
set_option linter.unusedVariables false
set_option linter.unusedSimpArgs false
namespace Go.Ab
namespace laws_FnExpandAxisZero
noncomputable def E : Entry := ⟨4, true, false, fun | [.d (.ints .u8 bs)] => bytesB bs | _ => false, fun | [.d (.ints .u8 bs)] => ([.one ((.bool true), false)], []) | _ => ([], []), fun _ => [], false, fun _ => none⟩
end laws_FnExpandAxisZero
namespace laws_FnExpandAxisZero
noncomputable def X : List Entry := [spec_DrawExpandAxis.E, impl_ExpandAxis.E, spec_ExpandAxis.E, laws_equalArray.E, impl_RepeatAxis.E]
noncomputable def I : List Inl := [⟨4, Try.f4, ⟨[20, 28, 35, 78], [(1000010, [0, 1, 2, 3, 7, 8, 9, 12, 13, 14, 15, 16, 17, 18, 19, 20, 21, 22, 23, 24, 25, 26, 27, 28, 29, 30, 31, 32, 33, 34, 35, 36, 37, 38, 39, 40, 41, 42, 43, 44, 45, 46, 47, 48, 49, 50, 51, 52, 53, 54, 55, 56, 57, 58, 59, 60, 61, 62, 63, 64, 65, 66, 67, 68, 69, 70, 71, 72, 73, 74, 75, 76, 77, 78, 79, 80, 81, 82, 83, 84, 85, 86, 87, 88, 89, 90, 91, 92, 93, 94]), (1000015, [0, 1, 2, 3, 4, 5, 6, 7, 8, 9, 10, 11, 15, 16, 17, 18, 19, 20, 21, 22, 23, 24, 25, 26, 27, 28, 29, 30, 31, 32, 33, 34, 35, 36, 37, 38, 39, 40, 41, 42, 43, 44, 45, 46, 47, 48, 49, 50, 51, 52, 53, 54, 55, 56, 57, 58, 59, 60, 61, 62, 63, 64, 65, 66, 67, 68, 69, 70, 71, 72, 73, 74, 75, 76, 77, 78, 79, 80, 81, 82, 83, 84, 85, 86, 87, 88, 89, 90, 91, 92, 93, 94])], [], [], [], []⟩⟩]
theorem I_ok : ∀ i ∈ I, Try.prog.funcs[i.f]? = some i.fn ∧ (i.fn.name == "runtime.NumGoroutine") = false := by
  intro i hi
  simp only [I, List.mem_cons, List.not_mem_nil, or_false] at hi
  subst hi
  exact ⟨by kernel_rfl, by kernel_rfl⟩
noncomputable abbrev L0 (fuel n : Nat) (s : St) (k : Kont) := lAt Try.prog X I fuel true 0 false 4 (bodyOf Try.f4) [1, 1, 1, 1, 1, 1, 1, 0, 1, 0] n s k
noncomputable abbrev k0  (fuel : Nat) : Kont := (kAt Try.prog X I fuel true 0 false 4 (bodyOf Try.f4) [1, 1, 1, 1, 1, 1, 1, 0, 1, 0] [] (endK Try.prog Try.f4))
noncomputable def t0 (p0 : List Int) (x0q2 : Int) (x0q3 : List Int) : St := ⟨[.dead, .dead, .dead, .dead, (.imm (.int .i64 (dAx (cutC p0)))), (.imm (.ints .i64 (deT (cutC p0)))), (.ptr 1000000000 0 0), .dead, .dead, .dead, (.all 1000000001 1), (.imm (.int .i64 x0q2)), .dead, .dead, .dead, .dead, .dead, .dead, .dead, .dead, .dead, .dead, .dead, .dead, .dead, .dead, .dead, .dead, .dead, .dead, .dead, .dead, .dead, .dead, .dead, .dead, .dead, .dead, .dead, .dead, .dead, .dead, .dead, .dead, .dead, .dead, .dead, .dead, .dead, .dead, .dead, .dead, .dead, .dead, .dead, .dead, .dead, .dead, .dead, .dead, .dead, .dead, .dead, .dead, .dead, .dead, .dead, .dead, .dead, .dead, .dead, .dead, .dead, .dead, .dead, .dead, .dead, .dead, .dead, .dead, .dead, .dead, .dead, .dead, .dead, .dead, .dead, .dead, .dead, .dead, .dead, .dead, .dead, .dead, .dead], hOf [(1000000000, (.box [(.all 1000000002 1), (.all 1000000003 1)])), (1000000001, (.ints .i64 x0q3)), (1000000002, (.ints .i64 (exS ((aArS (cutC p0) 0)) ((aArD (cutC p0) 0)) ((dAx (cutC p0))) ((deT (cutC p0)))))), (1000000003, (.ints .i64 (exD ((aArS (cutC p0) 0)) ((aArD (cutC p0) 0)) ((dAx (cutC p0))) ((deT (cutC p0))))))], [], []⟩
noncomputable abbrev L1 (fuel n : Nat) (s : St) (k : Kont) := lAt Try.prog X I fuel true 0 false 4 (bodyOf Try.f4) [1, 1, 1, 1, 1, 1, 1, 1, 1, 0, 1, 0] n s k
noncomputable abbrev k1  (fuel : Nat) : Kont := (kAt Try.prog X I fuel true 0 false 4 (bodyOf Try.f4) [1, 1, 1, 1, 1, 1, 1, 1, 1, 0, 1, 0] [] (endK Try.prog Try.f4))
noncomputable def t1 (p0 : List Int) (x0q3 : List Int) (x1q1 : Int) : St := ⟨[.dead, .dead, .dead, .dead, .dead, .dead, .dead, .dead, .dead, .dead, .dead, .dead, (.ptr 1000000000 0 0), (.imm (.bool (rpB ((exS ((aArS (cutC p0) 0)) ((aArD (cutC p0) 0)) ((dAx (cutC p0))) ((deT (cutC p0))))) ((exD ((aArS (cutC p0) 0)) ((aArD (cutC p0) 0)) ((dAx (cutC p0))) ((deT (cutC p0))))) ((dAx (cutC p0))) x0q3))), (.imm (.int .i64 x1q1)), .dead, .dead, .dead, .dead, .dead, .dead, .dead, .dead, .dead, .dead, .dead, .dead, .dead, .dead, .dead, .dead, .dead, .dead, .dead, .dead, .dead, .dead, .dead, .dead, .dead, .dead, .dead, .dead, .dead, .dead, .dead, .dead, .dead, .dead, .dead, .dead, .dead, .dead, .dead, .dead, .dead, .dead, .dead, .dead, .dead, .dead, .dead, .dead, .dead, .dead, .dead, .dead, .dead, .dead, .dead, .dead, .dead, .dead, .dead, .dead, .dead, .dead, .dead, .dead, .dead, .dead, .dead, .dead, .dead, .dead, .dead, .dead, .dead, .dead, .dead, .dead, .dead, .dead, .dead, .dead], hOf [(1000000000, (.box [(.all 1000000001 1), (.all 1000000002 1)])), (1000000001, (.ints .i64 (rpS ((exS ((aArS (cutC p0) 0)) ((aArD (cutC p0) 0)) ((dAx (cutC p0))) ((deT (cutC p0))))) ((exD ((aArS (cutC p0) 0)) ((aArD (cutC p0) 0)) ((dAx (cutC p0))) ((deT (cutC p0))))) ((dAx (cutC p0))) x0q3))), (1000000002, (.ints .i64 (rpD ((exS ((aArS (cutC p0) 0)) ((aArD (cutC p0) 0)) ((dAx (cutC p0))) ((deT (cutC p0))))) ((exD ((aArS (cutC p0) 0)) ((aArD (cutC p0) 0)) ((dAx (cutC p0))) ((deT (cutC p0))))) ((dAx (cutC p0))) x0q3)))], [], []⟩
theorem e (fuel : Nat) (p0 : List Int) : runF Try.prog X I 0 fuel 4 Try.f4 [.d (.ints .u8 p0)] =
  (bif (decide ((((p0.length : Nat) : Int) : Int) > 1048576)) then
  some ([.one ((.bool true), false)], [])
  else
  (bif bytesB p0 then
  (bif decide (((aArS (cutC p0) 0)).length < 9223372036854775808) && decide (((aArD (cutC p0) 0)).length < 9223372036854775808) && szB ((deT (cutC p0))) then
  (bif decide (((aArS (cutC p0) 0)).length < 9223372036854775808) && decide (((aArD (cutC p0) 0)).length < 9223372036854775808) && szB ((deT (cutC p0))) then
  (bif decide (((exS ((aArS (cutC p0) 0)) ((aArD (cutC p0) 0)) ((dAx (cutC p0))) ((deT (cutC p0))))).length < 9223372036854775808) && decide (((exD ((aArS (cutC p0) 0)) ((aArD (cutC p0) 0)) ((dAx (cutC p0))) ((deT (cutC p0))))).length < 9223372036854775808) && decide (((exS ((aArS (cutC p0) 0)) ((aArD (cutC p0) 0)) ((dAx (cutC p0))) ((deT (cutC p0))))).length < 9223372036854775808) && decide (((exD ((aArS (cutC p0) 0)) ((aArD (cutC p0) 0)) ((dAx (cutC p0))) ((deT (cutC p0))))).length < 9223372036854775808) then
  (bif (!(decide (((exS ((aArS (cutC p0) 0)) ((aArD (cutC p0) 0)) ((dAx (cutC p0))) ((deT (cutC p0))))) = ((exS ((aArS (cutC p0) 0)) ((aArD (cutC p0) 0)) ((dAx (cutC p0))) ((deT (cutC p0)))))) && decide (((exD ((aArS (cutC p0) 0)) ((aArD (cutC p0) 0)) ((dAx (cutC p0))) ((deT (cutC p0))))) = ((exD ((aArS (cutC p0) 0)) ((aArD (cutC p0) 0)) ((dAx (cutC p0))) ((deT (cutC p0)))))))) then
  (bif decide (((exS ((aArS (cutC p0) 0)) ((aArD (cutC p0) 0)) ((dAx (cutC p0))) ((deT (cutC p0))))).length < 9223372036854775808) && decide (((exD ((aArS (cutC p0) 0)) ((aArD (cutC p0) 0)) ((dAx (cutC p0))) ((deT (cutC p0))))).length < 9223372036854775808) && decide (((exS ((aArS (cutC p0) 0)) ((aArD (cutC p0) 0)) ((dAx (cutC p0))) ((deT (cutC p0))))).length < 9223372036854775808) && decide (((exD ((aArS (cutC p0) 0)) ((aArD (cutC p0) 0)) ((dAx (cutC p0))) ((deT (cutC p0))))).length < 9223372036854775808) then
  (bif (decide (((exS ((aArS (cutC p0) 0)) ((aArD (cutC p0) 0)) ((dAx (cutC p0))) ((deT (cutC p0))))) = ((exS ((aArS (cutC p0) 0)) ((aArD (cutC p0) 0)) ((dAx (cutC p0))) ((deT (cutC p0)))))) && decide (((exD ((aArS (cutC p0) 0)) ((aArD (cutC p0) 0)) ((dAx (cutC p0))) ((deT (cutC p0))))) = ((exD ((aArS (cutC p0) 0)) ((aArD (cutC p0) 0)) ((dAx (cutC p0))) ((deT (cutC p0))))))) then
  some ([.one ((.bool ((exB ((aArS (cutC p0) 0)) ((aArD (cutC p0) 0)) ((dAx (cutC p0))) ((deT (cutC p0)))) == (exB ((aArS (cutC p0) 0)) ((aArD (cutC p0) 0)) ((dAx (cutC p0))) ((deT (cutC p0)))))), false)], [])
  else
  some ([.one ((.bool false), false)], []))
  else
  none)
  else
  (bif (!((exB ((aArS (cutC p0) 0)) ((aArD (cutC p0) 0)) ((dAx (cutC p0))) ((deT (cutC p0)))) == (exB ((aArS (cutC p0) 0)) ((aArD (cutC p0) 0)) ((dAx (cutC p0))) ((deT (cutC p0)))))) then
  (bif decide (((exS ((aArS (cutC p0) 0)) ((aArD (cutC p0) 0)) ((dAx (cutC p0))) ((deT (cutC p0))))).length < 9223372036854775808) && decide (((exD ((aArS (cutC p0) 0)) ((aArD (cutC p0) 0)) ((dAx (cutC p0))) ((deT (cutC p0))))).length < 9223372036854775808) && decide (((exS ((aArS (cutC p0) 0)) ((aArD (cutC p0) 0)) ((dAx (cutC p0))) ((deT (cutC p0))))).length < 9223372036854775808) && decide (((exD ((aArS (cutC p0) 0)) ((aArD (cutC p0) 0)) ((dAx (cutC p0))) ((deT (cutC p0))))).length < 9223372036854775808) then
  (bif (decide (((exS ((aArS (cutC p0) 0)) ((aArD (cutC p0) 0)) ((dAx (cutC p0))) ((deT (cutC p0))))) = ((exS ((aArS (cutC p0) 0)) ((aArD (cutC p0) 0)) ((dAx (cutC p0))) ((deT (cutC p0)))))) && decide (((exD ((aArS (cutC p0) 0)) ((aArD (cutC p0) 0)) ((dAx (cutC p0))) ((deT (cutC p0))))) = ((exD ((aArS (cutC p0) 0)) ((aArD (cutC p0) 0)) ((dAx (cutC p0))) ((deT (cutC p0))))))) then
  some ([.one ((.bool ((exB ((aArS (cutC p0) 0)) ((aArD (cutC p0) 0)) ((dAx (cutC p0))) ((deT (cutC p0)))) == (exB ((aArS (cutC p0) 0)) ((aArD (cutC p0) 0)) ((dAx (cutC p0))) ((deT (cutC p0)))))), false)], [])
  else
  some ([.one ((.bool false), false)], []))
  else
  none)
  else
  (bif (!(exB ((aArS (cutC p0) 0)) ((aArD (cutC p0) 0)) ((dAx (cutC p0))) ((deT (cutC p0))))) then
  (bif decide (((exS ((aArS (cutC p0) 0)) ((aArD (cutC p0) 0)) ((dAx (cutC p0))) ((deT (cutC p0))))).length < 9223372036854775808) && decide (((exD ((aArS (cutC p0) 0)) ((aArD (cutC p0) 0)) ((dAx (cutC p0))) ((deT (cutC p0))))).length < 9223372036854775808) && decide (((exS ((aArS (cutC p0) 0)) ((aArD (cutC p0) 0)) ((dAx (cutC p0))) ((deT (cutC p0))))).length < 9223372036854775808) && decide (((exD ((aArS (cutC p0) 0)) ((aArD (cutC p0) 0)) ((dAx (cutC p0))) ((deT (cutC p0))))).length < 9223372036854775808) then
  (bif (decide (((exS ((aArS (cutC p0) 0)) ((aArD (cutC p0) 0)) ((dAx (cutC p0))) ((deT (cutC p0))))) = ((exS ((aArS (cutC p0) 0)) ((aArD (cutC p0) 0)) ((dAx (cutC p0))) ((deT (cutC p0)))))) && decide (((exD ((aArS (cutC p0) 0)) ((aArD (cutC p0) 0)) ((dAx (cutC p0))) ((deT (cutC p0))))) = ((exD ((aArS (cutC p0) 0)) ((aArD (cutC p0) 0)) ((dAx (cutC p0))) ((deT (cutC p0))))))) then
  some ([.one ((.bool ((exB ((aArS (cutC p0) 0)) ((aArD (cutC p0) 0)) ((dAx (cutC p0))) ((deT (cutC p0)))) == (exB ((aArS (cutC p0) 0)) ((aArD (cutC p0) 0)) ((dAx (cutC p0))) ((deT (cutC p0)))))), false)], [])
  else
  some ([.one ((.bool false), false)], []))
  else
  none)
  else
  L0 fuel fuel (t0 p0 0 ([])) (k0  fuel))))
  else
  none)
  else
  none)
  else
  none)
  else
  none)) := by kernel_rfl
theorem s0 (fuel n0 : Nat) (p0 : List Int) (x0q2 : Int) (x0q3 : List Int) : L0 fuel (n0 + 1) (t0 p0 x0q2 x0q3) (k0  fuel) =
  (bif (decide ((x0q2 : Int) < (((deT (cutC p0)).length : Nat) : Int))) then
  (idx x0q2 (deT (cutC p0)).length).bind fun j15 =>
  ((deT (cutC p0))[j15]?).bind fun v16 =>
  (bif fits (x0q3.length + ([(IntKind.wrap .i64 (1 - v16))] : List Int).length) 8 then
  L0 fuel n0 (t0 p0 ((IntKind.wrap .i64 (x0q2 + 1))) ((x0q3 ++ [(IntKind.wrap .i64 (1 - v16))]))) (k0  fuel)
  else
  none)
  else
  (bif decide (((exS ((aArS (cutC p0) 0)) ((aArD (cutC p0) 0)) ((dAx (cutC p0))) ((deT (cutC p0))))).length < 9223372036854775808) && decide (((exD ((aArS (cutC p0) 0)) ((aArD (cutC p0) 0)) ((dAx (cutC p0))) ((deT (cutC p0))))).length < 9223372036854775808) && decide (x0q3.length < 9223372036854775808) then
  L1 fuel fuel (t1 p0 x0q3 0) (k1  fuel)
  else
  none)) := by kernel_rfl
theorem s1 (fuel n1 : Nat) (p0 : List Int) (x0q3 : List Int) (x1q1 : Int) : L1 fuel (n1 + 1) (t1 p0 x0q3 x1q1) (k1  fuel) =
  (bif (decide ((x1q1 : Int) < (((rpD ((exS ((aArS (cutC p0) 0)) ((aArD (cutC p0) 0)) ((dAx (cutC p0))) ((deT (cutC p0))))) ((exD ((aArS (cutC p0) 0)) ((aArD (cutC p0) 0)) ((dAx (cutC p0))) ((deT (cutC p0))))) ((dAx (cutC p0))) x0q3).length : Nat) : Int))) then
  (idx x1q1 (rpD ((exS ((aArS (cutC p0) 0)) ((aArD (cutC p0) 0)) ((dAx (cutC p0))) ((deT (cutC p0))))) ((exD ((aArS (cutC p0) 0)) ((aArD (cutC p0) 0)) ((dAx (cutC p0))) ((deT (cutC p0))))) ((dAx (cutC p0))) x0q3).length).bind fun j19 =>
  ((rpD ((exS ((aArS (cutC p0) 0)) ((aArD (cutC p0) 0)) ((dAx (cutC p0))) ((deT (cutC p0))))) ((exD ((aArS (cutC p0) 0)) ((aArD (cutC p0) 0)) ((dAx (cutC p0))) ((deT (cutC p0))))) ((dAx (cutC p0))) x0q3)[j19]?).bind fun v20 =>
  (bif ((v20 : Int) != 0) then
  some ([.one ((.bool false), false)], [])
  else
  L1 fuel n1 (t1 p0 x0q3 ((IntKind.wrap .i64 (x1q1 + 1)))) (k1  fuel))
  else
  some ([.one ((.bool (rpB ((exS ((aArS (cutC p0) 0)) ((aArD (cutC p0) 0)) ((dAx (cutC p0))) ((deT (cutC p0))))) ((exD ((aArS (cutC p0) 0)) ((aArD (cutC p0) 0)) ((dAx (cutC p0))) ((deT (cutC p0))))) ((dAx (cutC p0))) x0q3)), false)], [])) := by kernel_rfl
end laws_FnExpandAxisZero
theorem laws_FnExpandAxisZero.ok_of (hX : ∀ E ∈ laws_FnExpandAxisZero.X, CallSpec Try.prog E) (h : ∀ (bs : List Int), (bytesB bs) = true → ∃ fuel, runF Try.prog laws_FnExpandAxisZero.X laws_FnExpandAxisZero.I 0 fuel 4 Try.f4 [.d (.ints .u8 bs)] = some ([.one ((.bool true), false)], [])) : CallSpec Try.prog laws_FnExpandAxisZero.E :=
  callSpec_of (d := 0) hX (by kernel_rfl) laws_FnExpandAxisZero.I_ok (by kernel_rfl) (by kernel_rfl) (by kernel_rfl) (fun _ _ _ _ h => by dsimp only [laws_FnExpandAxisZero.E] at h; cases h) (fun xs hp => by
    dsimp only [laws_FnExpandAxisZero.E] at hp ⊢
    split at hp
    · exact h _ hp
    · cases hp)
theorem laws_FnExpandAxisZero.ok : CallSpec Try.prog laws_FnExpandAxisZero.E := laws_FnExpandAxisZero.ok_of (by simp [laws_FnExpandAxisZero.X, spec_DrawExpandAxis.ok, impl_ExpandAxis.ok, spec_ExpandAxis.ok, laws_equalArray.ok, impl_RepeatAxis.ok]) fun bs h => by
  obtain ⟨F, hF⟩ : ∃ F : Nat, 4000 < F := ⟨4001, by omega⟩
  refine ⟨F, ?_⟩
  rw [laws_FnExpandAxisZero.e]
  by_cases hl : ((bs.length : Nat) : Int) > 1048576
  · rw [decide_eq_true hl]; rfl
  rw [decide_eq_false hl, cond_false, h, cond_true]
  have r0 := cut_ok h (p := 0) (by omega) (by omega)
  obtain ⟨_, _, a1, a2, _, _⟩ := dj_bd r0
  have tl := deT_len (cutC bs)
  obtain ⟨sh, hsh⟩ : ∃ x, aArS (cutC bs) 0 = x := ⟨_, rfl⟩
  obtain ⟨da, hda⟩ : ∃ x, aArD (cutC bs) 0 = x := ⟨_, rfl⟩
  obtain ⟨k, hk⟩ : ∃ x, dAx (cutC bs) = x := ⟨_, rfl⟩
  obtain ⟨mk, hmk⟩ : ∃ x, deT (cutC bs) = x := ⟨_, rfl⟩
  rw [hsh] at a1
  rw [hda] at a2
  rw [hmk] at tl
  have g1 := lt_of (xs := sh) (by omega)
  have g2 := lt_of (xs := da) (by omega)
  have g3 := szB_of (xs := mk) (by omega)
  have g4 := lt_of (xs := mk) (by omega)
  simp only [hsh, hda, hk, hmk]
  have xl := ex_len sh da k mk
  have h1 := lt_of (xs := exS sh da k mk) (by omega)
  have h2 := lt_of (xs := exD sh da k mk) (by omega)
  cases hb : exB sh da k mk with
  | false => simp only [Bool.and_self, Bool.and_true, Bool.true_and, cond_true, cond_false, Bool.not_true, Bool.not_false, bne_self_eq_false, beq_self_eq_true, decide_true, eq_self, g1, g2, g3, g4, h1, h2]
  | true =>
    obtain ⟨f1, f2, f3, ⟨j, hj, hj2, hj3⟩, f4, f5, hal⟩ := ex_facts hb
    simp only [Bool.and_self, Bool.and_true, Bool.true_and, cond_true, cond_false, Bool.not_true, Bool.not_false, bne_self_eq_false, beq_self_eq_true, decide_true, eq_self, g1, g2, g3, g4, h1, h2]
    refine run_loop (N := mk.length) (fun m i (out : List Int) => laws_FnExpandAxisZero.L0 F m (laws_FnExpandAxisZero.t0 bs (i : Int) out) (laws_FnExpandAxisZero.k0 F)) (fun i out => out = tab i fun i => 1 - mk.getD i 0) ?_ ?_ F 0 [] (by omega) (by omega) rfl
    · rintro m out rfl
      have rl := rp_len (exS sh da k mk) (exD sh da k mk) k (tab mk.length fun i => 1 - mk.getD i 0)
      have g5 := lt_of (xs := tab mk.length fun i => 1 - mk.getD i 0) (by rw [tab_length]; omega)
      rw [laws_FnExpandAxisZero.s0]
      simp only [hsh, hda, hk, hmk]
      rw [dge (by omega)]
      simp only [Bool.and_self, Bool.and_true, Bool.true_and, cond_true, cond_false, Bool.not_true, Bool.not_false, bne_self_eq_false, beq_self_eq_true, decide_true, eq_self, h1, h2, g5]
      refine run_loop (N := (rpD (exS sh da k mk) (exD sh da k mk) k (tab mk.length fun i => 1 - mk.getD i 0)).length) (fun m i (_ : Unit) => laws_FnExpandAxisZero.L1 F m (laws_FnExpandAxisZero.t1 bs (tab mk.length fun i => 1 - mk.getD i 0) (i : Int)) (laws_FnExpandAxisZero.k1 F)) (fun _ _ => True) ?_ ?_ F 0 () (by omega) (by omega) trivial
      · intro m _ _
        rw [laws_FnExpandAxisZero.s1]
        simp only [hsh, hda, hk, hmk]
        rw [dge (by omega), f4]
        rfl
      · intro m i _ hi _
        refine ⟨(), trivial, ?_⟩
        rw [laws_FnExpandAxisZero.s1]
        simp only [hsh, hda, hk, hmk]
        rw [dlt hi, cond_true, idx_nat hi, w1 (by omega)]
        simp only [Option.bind_some, getD_get hi, f5 i hi]
        rfl
    · rintro m i out hi rfl
      have hm := mk01 hal hi
      refine ⟨tab (i + 1) fun i => 1 - mk.getD i 0, rfl, ?_⟩
      rw [laws_FnExpandAxisZero.s0]
      simp only [hsh, hda, hk, hmk]
      rw [dlt hi, cond_true, idx_nat hi, w1 (by omega)]
      simp only [Option.bind_some, getD_get hi]
      rw [fitsOk (by simp only [tab_length, List.length_cons, List.length_nil]; omega), wS (by omega) (by omega), tab_succ]
      rfl

end Go.Ab
