import Derived.Test.YtlakgkkkeihdpaaEr1
import Derived.Test.YtlakgkkkeihdpaaProg
import Derived.Test.YtlakgkkkeihdpaaChecked
open Go Go.Ab Go.Proofs
set_option maxRecDepth 100000
set_option linter.unusedVariables false
set_option linter.unusedSimpArgs false
namespace Go.Ab
namespace impl_ReverseAxis
noncomputable def E : Entry := ⟨19, false, false, fun | [.d (.agg [(.ints .i64 sh), (.ints .i64 da)]), .d (.int .i64 k)] => decide (sh.length < 9223372036854775808) && decide (da.length < 9223372036854775808) | _ => false, fun | [.d (.agg [(.ints .i64 sh), (.ints .i64 da)]), .d (.int .i64 k)] => ([.agg [((.ints .i64 (revS sh da k)), true), ((.ints .i64 (revD sh da k)), true)]], []) | _ => ([], []), fun _ => [], true, fun _ => none⟩
end impl_ReverseAxis
namespace impl_ReverseAxis
noncomputable def X : List Entry := [impl_axisLength.E, impl_ReverseAxis_1.E, impl_view_copied.E]
noncomputable def I : List Inl := [⟨19, Try.f19, ⟨[26], [], [(4, [5])], [], [], []⟩⟩]
theorem I_ok : ∀ i ∈ I, Try.prog.funcs[i.f]? = some i.fn ∧ (i.fn.name == "runtime.NumGoroutine") = false := by
  intro i hi
  simp only [I, List.mem_cons, List.not_mem_nil, or_false] at hi
  subst hi
  exact ⟨by kernel_rfl, by kernel_rfl⟩
theorem e (fuel : Nat) (p0q0 : List Int) (p0q1 : List Int) (p1 : Int) : runF Try.prog X I 0 fuel 19 Try.f19 [.d (.agg [(.ints .i64 p0q0), (.ints .i64 p0q1)]), .d (.int .i64 p1)] =
  (bif decide (p0q0.length < 9223372036854775808) && decide (p0q1.length < 9223372036854775808) then
  (bif (!(axB p0q0 p0q1 p1)) then
  some ([.agg [((.ints .i64 []), true), ((.ints .i64 []), true)]], [])
  else
  (bif axB p0q0 p0q1 p1 && domB ((axL p0q0 p0q1 p1)) q1 then
  some ([.agg [((.ints .i64 (cpS p0q0 p1 ((axL p0q0 p0q1 p1)))), true), ((.ints .i64 (cpD p0q0 p0q1 p1 ((axL p0q0 p0q1 p1)) ((q1v (revI ((axL p0q0 p0q1 p1))))))), true)]], [])
  else
  none))
  else
  none) := by kernel_rfl
end impl_ReverseAxis
theorem impl_ReverseAxis.ok_of (hX : ∀ E ∈ impl_ReverseAxis.X, CallSpec Try.prog E) (h : ∀ (sh : List Int) (da : List Int) (k : Int), (decide (sh.length < 9223372036854775808) && decide (da.length < 9223372036854775808)) = true → ∃ fuel, runF Try.prog impl_ReverseAxis.X impl_ReverseAxis.I 0 fuel 19 Try.f19 [.d (.agg [(.ints .i64 sh), (.ints .i64 da)]), .d (.int .i64 k)] = some ([.agg [((.ints .i64 (revS sh da k)), true), ((.ints .i64 (revD sh da k)), true)]], [])) : CallSpec Try.prog impl_ReverseAxis.E :=
  callSpec_of (d := 0) hX (by kernel_rfl) impl_ReverseAxis.I_ok (by kernel_rfl) (by kernel_rfl) (by kernel_rfl) (fun _ _ _ _ h => by dsimp only [impl_ReverseAxis.E] at h; cases h) (fun xs hp => by
    dsimp only [impl_ReverseAxis.E] at hp ⊢
    split at hp
    · exact h _ _ _ hp
    · cases hp)
theorem impl_ReverseAxis.ok : CallSpec Try.prog impl_ReverseAxis.E := impl_ReverseAxis.ok_of (by simp [impl_ReverseAxis.X, impl_axisLength.ok, impl_ReverseAxis_1.ok, impl_view_copied.ok]) fun sh da k h => ⟨0, by
  rw [impl_ReverseAxis.e, h]
  unfold revS revD
  cases hb : axB sh da k with
  | false => rfl
  | true =>
    obtain ⟨j, rfl, hj, hv, ax, hd, hl⟩ := axB_inv hb
    have hB := validA_inv hv
    rw [hl, domB_q1]
    simp only [cond_true, Bool.not_true, cond_false, Bool.and_self, cpS, cpD, cpB, lenK, Int.toNat_natCast]
    rw [set_len ax, hB.1, cpL_congr (l := lenN sh j) (f := fun i => ((lenN sh j - 1 - i : Nat) : Int)) rfl (fun i hi => by rw [Int.toNat_natCast]; exact cp_rev ax.len_le hi)]
    rfl⟩

namespace laws_FnSortArray
noncomputable def E : Entry := ⟨5, true, false, fun | [.d (.ints .u8 bs)] => bytesB bs | _ => false, fun | [.d (.ints .u8 bs)] => ([.one ((.bool true), false)], []) | _ => ([], []), fun _ => [], false, fun _ => none⟩
end laws_FnSortArray
namespace laws_FnSortArray
noncomputable def X : List Entry := [spec_DrawSortArray.E, impl_SortArray.E, spec_SortArray.E, laws_equalArray.E, impl_ValidArray.E, impl_ReverseAxis.E]
noncomputable def I : List Inl := [⟨5, Try.f5, ⟨[10, 12, 15, 25, 47, 52, 53], [(1000008, [0, 1, 2, 6, 7, 8, 9, 10, 11, 12, 13, 14, 15, 16, 17, 18, 19, 20, 21, 22, 23, 24, 25, 26, 27, 28, 29, 30, 31, 32, 33, 34, 35, 36, 37, 38, 39, 40, 41, 42, 43, 44, 45, 46, 47, 48, 49, 50, 51, 52, 53, 54, 55, 56, 57, 58, 59, 60, 61, 62, 63, 64, 65])], [], [(10, [0, 2, 5, 7, 8, 1, 3, 4, 6, 9, 10, 11]), (12, [0, 2, 1, 3, 4, 5, 8, 6, 7, 9, 10, 11, 12, 15, 13, 14, 16, 17, 18, 19, 20])], [], []⟩⟩]
theorem I_ok : ∀ i ∈ I, Try.prog.funcs[i.f]? = some i.fn ∧ (i.fn.name == "runtime.NumGoroutine") = false := by
  intro i hi
  simp only [I, List.mem_cons, List.not_mem_nil, or_false] at hi
  subst hi
  exact ⟨by kernel_rfl, by kernel_rfl⟩
noncomputable abbrev L0 (fuel n : Nat) (s : St) (k : Kont) := lAt Try.prog X I fuel true 0 false 5 (bodyOf Try.f5) [1, 1, 1, 1, 1, 0, 1, 0] n s k
noncomputable abbrev k0  (fuel : Nat) : Kont := (kAt Try.prog X I fuel true 0 false 5 (bodyOf Try.f5) [1, 1, 1, 1, 1, 0, 1, 0] [] (endK Try.prog Try.f5))
noncomputable def t0 (p0 : List Int) (x0q0 : Int) : St := ⟨[.dead, .dead, .dead, (.ptr 1000000000 0 0), (.ptr 1000000001 0 0), (.imm (.int .i64 x0q0)), .dead, .dead, .dead, .dead, .dead, .dead, .dead, .dead, .dead, .dead, .dead, .dead, .dead, .dead, .dead, .dead, .dead, .dead, .dead, .dead, .dead, .dead, .dead, .dead, .dead, .dead, .dead, .dead, .dead, .dead, .dead, .dead, .dead, .dead, .dead, .dead, .dead, .dead, .dead, .dead, .dead, .dead, .dead, .dead, .dead, .dead, .dead, .dead, .dead, .dead, .dead, .dead, .dead, .dead, .dead, .dead, .dead, .dead, .dead, .dead], hOf [(1000000000, (.box [(.imm (.ints .i64 (avS (cutC p0) 0))), (.imm (.ints .i64 (avD (cutC p0) 0)))])), (1000000001, (.box [(.all 1000000002 1), (.all 1000000003 1)])), (1000000002, (.ints .i64 (soS ((avS (cutC p0) 0)) ((avD (cutC p0) 0))))), (1000000003, (.ints .i64 (soD ((avS (cutC p0) 0)) ((avD (cutC p0) 0)))))], [], []⟩
theorem e (fuel : Nat) (p0 : List Int) : runF Try.prog X I 0 fuel 5 Try.f5 [.d (.ints .u8 p0)] =
  (bif (decide ((((p0.length : Nat) : Int) : Int) > 1048576)) then
  some ([.one ((.bool true), false)], [])
  else
  (bif bytesB p0 then
  (bif decide (((avS (cutC p0) 0)).length < 9223372036854775808) && decide (((avD (cutC p0) 0)).length < 9223372036854775808) && (!vcB ((avS (cutC p0) 0)) ((avD (cutC p0) 0)) || decide ((((avD (cutC p0) 0)) : List Int).length ≤ 20)) then
  (bif decide (((avS (cutC p0) 0)).length < 9223372036854775808) && decide (((avD (cutC p0) 0)).length < 9223372036854775808) then
  (bif decide (((soS ((avS (cutC p0) 0)) ((avD (cutC p0) 0)))).length < 9223372036854775808) && decide (((soD ((avS (cutC p0) 0)) ((avD (cutC p0) 0)))).length < 9223372036854775808) && decide (((soS ((avS (cutC p0) 0)) ((avD (cutC p0) 0)))).length < 9223372036854775808) && decide (((soD ((avS (cutC p0) 0)) ((avD (cutC p0) 0)))).length < 9223372036854775808) then
  (bif (!(decide (((soS ((avS (cutC p0) 0)) ((avD (cutC p0) 0)))) = ((soS ((avS (cutC p0) 0)) ((avD (cutC p0) 0))))) && decide (((soD ((avS (cutC p0) 0)) ((avD (cutC p0) 0)))) = ((soD ((avS (cutC p0) 0)) ((avD (cutC p0) 0))))))) then
  (bif decide (((avS (cutC p0) 0)).length < 9223372036854775808) && decide (((avD (cutC p0) 0)).length < 9223372036854775808) then
  (bif decide (((soS ((avS (cutC p0) 0)) ((avD (cutC p0) 0)))).length < 9223372036854775808) && decide (((soD ((avS (cutC p0) 0)) ((avD (cutC p0) 0)))).length < 9223372036854775808) && decide (((soS ((avS (cutC p0) 0)) ((avD (cutC p0) 0)))).length < 9223372036854775808) && decide (((soD ((avS (cutC p0) 0)) ((avD (cutC p0) 0)))).length < 9223372036854775808) then
  some ([.one ((.bool (decide (((soS ((avS (cutC p0) 0)) ((avD (cutC p0) 0)))) = ((soS ((avS (cutC p0) 0)) ((avD (cutC p0) 0))))) && decide (((soD ((avS (cutC p0) 0)) ((avD (cutC p0) 0)))) = ((soD ((avS (cutC p0) 0)) ((avD (cutC p0) 0))))))), false)], [])
  else
  none)
  else
  none)
  else
  (bif decide (((soS ((avS (cutC p0) 0)) ((avD (cutC p0) 0)))).length < 9223372036854775808) && decide (((soD ((avS (cutC p0) 0)) ((avD (cutC p0) 0)))).length < 9223372036854775808) then
  (bif (!(validA ((soS ((avS (cutC p0) 0)) ((avD (cutC p0) 0)))) ((soD ((avS (cutC p0) 0)) ((avD (cutC p0) 0)))))) then
  (bif decide (((avS (cutC p0) 0)).length < 9223372036854775808) && decide (((avD (cutC p0) 0)).length < 9223372036854775808) then
  (bif decide (((soS ((avS (cutC p0) 0)) ((avD (cutC p0) 0)))).length < 9223372036854775808) && decide (((soD ((avS (cutC p0) 0)) ((avD (cutC p0) 0)))).length < 9223372036854775808) && decide (((soS ((avS (cutC p0) 0)) ((avD (cutC p0) 0)))).length < 9223372036854775808) && decide (((soD ((avS (cutC p0) 0)) ((avD (cutC p0) 0)))).length < 9223372036854775808) then
  some ([.one ((.bool (decide (((soS ((avS (cutC p0) 0)) ((avD (cutC p0) 0)))) = ((soS ((avS (cutC p0) 0)) ((avD (cutC p0) 0))))) && decide (((soD ((avS (cutC p0) 0)) ((avD (cutC p0) 0)))) = ((soD ((avS (cutC p0) 0)) ((avD (cutC p0) 0))))))), false)], [])
  else
  none)
  else
  none)
  else
  L0 fuel fuel (t0 p0 1) (k0  fuel))
  else
  none))
  else
  none)
  else
  none)
  else
  none)
  else
  none)) := by kernel_rfl
theorem s0 (fuel n0 : Nat) (p0 : List Int) (x0q0 : Int) : L0 fuel (n0 + 1) (t0 p0 x0q0) (k0  fuel) =
  (bif (decide ((x0q0 : Int) < (((soD ((avS (cutC p0) 0)) ((avD (cutC p0) 0))).length : Nat) : Int))) then
  (idx x0q0 (soD ((avS (cutC p0) 0)) ((avD (cutC p0) 0))).length).bind fun j9 =>
  ((soD ((avS (cutC p0) 0)) ((avD (cutC p0) 0)))[j9]?).bind fun v10 =>
  (idx (IntKind.wrap .i64 (x0q0 - 1)) (soD ((avS (cutC p0) 0)) ((avD (cutC p0) 0))).length).bind fun j11 =>
  ((soD ((avS (cutC p0) 0)) ((avD (cutC p0) 0)))[j11]?).bind fun v12 =>
  (bif (decide ((v10 : Int) < v12)) then
  some ([.one ((.bool false), false)], [])
  else
  L0 fuel n0 (t0 p0 ((IntKind.wrap .i64 (x0q0 + 1)))) (k0  fuel))
  else
  (bif decide (((soS ((avS (cutC p0) 0)) ((avD (cutC p0) 0)))).length < 9223372036854775808) && decide (((soD ((avS (cutC p0) 0)) ((avD (cutC p0) 0)))).length < 9223372036854775808) && (!vcB ((soS ((avS (cutC p0) 0)) ((avD (cutC p0) 0)))) ((soD ((avS (cutC p0) 0)) ((avD (cutC p0) 0)))) || decide ((((soD ((avS (cutC p0) 0)) ((avD (cutC p0) 0)))) : List Int).length ≤ 20)) then
  (bif decide (((soS ((soS ((avS (cutC p0) 0)) ((avD (cutC p0) 0)))) ((soD ((avS (cutC p0) 0)) ((avD (cutC p0) 0)))))).length < 9223372036854775808) && decide (((soD ((soS ((avS (cutC p0) 0)) ((avD (cutC p0) 0)))) ((soD ((avS (cutC p0) 0)) ((avD (cutC p0) 0)))))).length < 9223372036854775808) && decide (((soS ((avS (cutC p0) 0)) ((avD (cutC p0) 0)))).length < 9223372036854775808) && decide (((soD ((avS (cutC p0) 0)) ((avD (cutC p0) 0)))).length < 9223372036854775808) then
  (bif (decide (((soS ((soS ((avS (cutC p0) 0)) ((avD (cutC p0) 0)))) ((soD ((avS (cutC p0) 0)) ((avD (cutC p0) 0)))))) = ((soS ((avS (cutC p0) 0)) ((avD (cutC p0) 0))))) && decide (((soD ((soS ((avS (cutC p0) 0)) ((avD (cutC p0) 0)))) ((soD ((avS (cutC p0) 0)) ((avD (cutC p0) 0)))))) = ((soD ((avS (cutC p0) 0)) ((avD (cutC p0) 0)))))) then
  (bif decide (((avS (cutC p0) 0)).length < 9223372036854775808) && decide (((avD (cutC p0) 0)).length < 9223372036854775808) then
  (bif decide (((revS ((avS (cutC p0) 0)) ((avD (cutC p0) 0)) 0)).length < 9223372036854775808) && decide (((revD ((avS (cutC p0) 0)) ((avD (cutC p0) 0)) 0)).length < 9223372036854775808) && (!vcB ((revS ((avS (cutC p0) 0)) ((avD (cutC p0) 0)) 0)) ((revD ((avS (cutC p0) 0)) ((avD (cutC p0) 0)) 0)) || decide ((((revD ((avS (cutC p0) 0)) ((avD (cutC p0) 0)) 0)) : List Int).length ≤ 20)) then
  (bif decide (((soS ((revS ((avS (cutC p0) 0)) ((avD (cutC p0) 0)) 0)) ((revD ((avS (cutC p0) 0)) ((avD (cutC p0) 0)) 0)))).length < 9223372036854775808) && decide (((soD ((revS ((avS (cutC p0) 0)) ((avD (cutC p0) 0)) 0)) ((revD ((avS (cutC p0) 0)) ((avD (cutC p0) 0)) 0)))).length < 9223372036854775808) && decide (((soS ((avS (cutC p0) 0)) ((avD (cutC p0) 0)))).length < 9223372036854775808) && decide (((soD ((avS (cutC p0) 0)) ((avD (cutC p0) 0)))).length < 9223372036854775808) then
  (bif (decide (((soS ((revS ((avS (cutC p0) 0)) ((avD (cutC p0) 0)) 0)) ((revD ((avS (cutC p0) 0)) ((avD (cutC p0) 0)) 0)))) = ((soS ((avS (cutC p0) 0)) ((avD (cutC p0) 0))))) && decide (((soD ((revS ((avS (cutC p0) 0)) ((avD (cutC p0) 0)) 0)) ((revD ((avS (cutC p0) 0)) ((avD (cutC p0) 0)) 0)))) = ((soD ((avS (cutC p0) 0)) ((avD (cutC p0) 0)))))) then
  some ([.one ((.bool (((((soD ((avS (cutC p0) 0)) ((avD (cutC p0) 0))).length : Nat) : Int) : Int) == (((avD (cutC p0) 0).length : Nat) : Int))), false)], [])
  else
  some ([.one ((.bool false), false)], []))
  else
  none)
  else
  none)
  else
  none)
  else
  some ([.one ((.bool false), false)], []))
  else
  none)
  else
  none)) := by kernel_rfl
end laws_FnSortArray
theorem laws_FnSortArray.ok_of (hX : ∀ E ∈ laws_FnSortArray.X, CallSpec Try.prog E) (h : ∀ (bs : List Int), (bytesB bs) = true → ∃ fuel, runF Try.prog laws_FnSortArray.X laws_FnSortArray.I 0 fuel 5 Try.f5 [.d (.ints .u8 bs)] = some ([.one ((.bool true), false)], [])) : CallSpec Try.prog laws_FnSortArray.E :=
  callSpec_of (d := 0) hX (by kernel_rfl) laws_FnSortArray.I_ok (by kernel_rfl) (by kernel_rfl) (by kernel_rfl) (fun _ _ _ _ h => by dsimp only [laws_FnSortArray.E] at h; cases h) (fun xs hp => by
    dsimp only [laws_FnSortArray.E] at hp ⊢
    split at hp
    · exact h _ hp
    · cases hp)
theorem laws_FnSortArray.ok : CallSpec Try.prog laws_FnSortArray.E := laws_FnSortArray.ok_of (by simp [laws_FnSortArray.X, spec_DrawSortArray.ok, impl_SortArray.ok, spec_SortArray.ok, laws_equalArray.ok, impl_ValidArray.ok, impl_ReverseAxis.ok]) fun bs h => by
  obtain ⟨F, hF⟩ : ∃ F : Nat, 4000 < F := ⟨4001, by omega⟩
  refine ⟨F, ?_⟩
  rw [laws_FnSortArray.e]
  by_cases hl : ((bs.length : Nat) : Int) > 1048576
  · rw [decide_eq_true hl]; rfl
  rw [decide_eq_false hl, cond_false, h, cond_true]
  have r0 := cut_ok h (p := 0) (by omega) (by omega)
  obtain ⟨a1, a2, _, _⟩ := av_bd r0 (by omega)
  have h20 : vcB (avS (cutC bs) 0) (avD (cutC bs) 0) = true → (avD (cutC bs) 0).length ≤ 20 := fun hb => av_small r0 hb
  obtain ⟨sh, hsh⟩ : ∃ x, avS (cutC bs) 0 = x := ⟨_, rfl⟩
  obtain ⟨da, hda⟩ : ∃ x, avD (cutC bs) 0 = x := ⟨_, rfl⟩
  rw [hsh] at a1
  rw [hda] at a2
  rw [hsh, hda] at h20
  have g1 := lt_of (xs := sh) (by omega)
  have g2 := lt_of (xs := da) (by omega)
  have q1 : ∀ n : Nat, decide (([(n : Int)] : List Int).length < 9223372036854775808) = true := fun n => rfl
  simp only [hsh, hda]
  cases hb : vcB sh da with
  | false =>
    have e0 : soS sh da = [] := by simp only [soS, hb, cond_false]
    have e1 : soD sh da = [] := by simp only [soD, hb, cond_false]
    have g0 : decide (([] : List Int).length < 9223372036854775808) = true := rfl
    have hv0 : validA [] [] = false := rfl
    have hv1 : vcB [] [] = false := rfl
    simp only [Bool.and_self, Bool.and_true, Bool.true_and, cond_true, cond_false, Bool.not_true, Bool.not_false, bne_self_eq_false, beq_self_eq_true, decide_true, eq_self, Bool.true_or, Bool.false_or, g1, g2, e0, e1, g0, hv0, hv1]
  | true =>
    have h2 := decide_eq_true (h20 hb)
    obtain ⟨hv, hs, hl60, hal⟩ := vcB_inv hb
    obtain ⟨e0, e1, hvo⟩ := so_facts hb
    have hvc := vcB_vec hb
    have hlu : (soL' da).length = da.length := so_len _
    have hvu := validA_vec hvo
    rw [hlu] at hvu
    have g3 := lt_of (xs := soL' da) (by omega)
    have h3 : decide ((soL' da).length ≤ 20) = true := by rw [hlu]; exact h2
    simp only [Bool.and_self, Bool.and_true, Bool.true_and, cond_true, cond_false, Bool.not_true, Bool.not_false, bne_self_eq_false, beq_self_eq_true, decide_true, eq_self, Bool.true_or, Bool.false_or, h2, h3, g1, g2, g3, q1, e0, e1, hvu]
    have hup := so_up da
    have u1 := so_two hvc
    have hfin : ∀ m i : Nat, da.length ≤ i → laws_FnSortArray.L0 F (m + 1) (laws_FnSortArray.t0 bs (i : Int)) (laws_FnSortArray.k0 F) = some ([.one ((.bool true), false)], []) := by
      intro m i hi
      have hr : validA [((da.length : Nat) : Int)] da = true := validA_vec hvc
      obtain ⟨r1, r2⟩ := rev_one hr
      rw [← hs] at r1 r2
      have hrp : da.reverse.Perm da := List.reverse_perm da
      have hvr : vecOk da.reverse = true := vec_part (by rw [List.length_reverse]; exact hl60) fun x hx => by
        have := allB_iff.1 hal x (List.mem_reverse.1 hx)
        omega
      have u2 := vcB_of hvr
      rw [List.length_reverse] at u2
      obtain ⟨w0, w1', _⟩ := so_facts u1
      obtain ⟨z0, z1, _⟩ := so_facts u2
      rw [so_self hup] at w1'
      rw [so_len] at w0
      rw [so_of hrp] at z1
      rw [List.length_reverse] at z0
      have g4 := lt_of (xs := da.reverse) (by rw [List.length_reverse]; omega)
      have h4 : decide (da.reverse.length ≤ 20) = true := by rw [List.length_reverse]; exact h2
      rw [laws_FnSortArray.s0]
      simp only [hsh, hda, e0, e1, hlu]
      rw [dge (by omega)]
      rw [r1, r2, hs]
      simp only [Bool.and_self, Bool.and_true, Bool.true_and, cond_true, cond_false, Bool.not_true, Bool.not_false, bne_self_eq_false, beq_self_eq_true, decide_true, eq_self, Bool.true_or, Bool.false_or, h2, h3, h4, g2, g3, g4, q1, hlu, u1, u2, w0, w1', z0, z1]
    by_cases hz : da.length = 0
    · obtain ⟨f, rfl⟩ : ∃ f, F = f + 1 := ⟨F - 1, by omega⟩
      exact hfin f 1 (by omega)
    · refine run_loop (N := da.length) (fun m i (_ : Unit) => laws_FnSortArray.L0 F m (laws_FnSortArray.t0 bs (i : Int)) (laws_FnSortArray.k0 F)) (fun i _ => 1 ≤ i) ?_ ?_ F 1 () (by omega) (by omega) (by omega)
      · intro m _ _
        exact hfin m _ (by omega)
      · intro m i _ hi h1
        refine ⟨(), by omega, ?_⟩
        have hp := pair_get hup (i := i - 1) (j := i) (by omega) (by omega)
        have q2 : (soL' da)[i]? = some ((soL' da).getD i 0) := getD_get (by omega)
        have q3 : (soL' da)[i - 1]? = some ((soL' da).getD (i - 1) 0) := getD_get (by omega)
        rw [laws_FnSortArray.s0]
        simp only [hsh, hda, e0, e1, hlu]
        rw [dlt hi, cond_true, idx_nat hi, w1 (by omega), wS (x := (i : Int) - 1) (by omega) (by omega), show (i : Int) - 1 = ((i - 1 : Nat) : Int) by omega, idx_nat (show i - 1 < da.length by omega)]
        simp only [Option.bind_some, q2, q3]
        rw [decide_eq_false (by omega), cond_false]

namespace laws_FnGradeUpRank
noncomputable def E : Entry := ⟨6, true, false, fun | [.d (.ints .u8 bs)] => bytesB bs | _ => false, fun | [.d (.ints .u8 bs)] => ([.one ((.bool true), false)], []) | _ => ([], []), fun _ => [], false, fun _ => none⟩
end laws_FnGradeUpRank
namespace laws_FnGradeUpRank
noncomputable def X : List Entry := [spec_DrawGradeUp.E, impl_GradeUp.E, spec_GradeUp.E, laws_equalArray.E, impl_ValidArray.E, impl_SortArray.E, impl_PickItems.E]
noncomputable def I : List Inl := [⟨6, Try.f6, ⟨[11, 13, 16, 26, 30, 32, 33], [], [], [(7, [0, 2, 1, 3, 4, 5, 6, 7, 8, 9, 10])], [], []⟩⟩]
theorem I_ok : ∀ i ∈ I, Try.prog.funcs[i.f]? = some i.fn ∧ (i.fn.name == "runtime.NumGoroutine") = false := by
  intro i hi
  simp only [I, List.mem_cons, List.not_mem_nil, or_false] at hi
  subst hi
  exact ⟨by kernel_rfl, by kernel_rfl⟩
theorem e (fuel : Nat) (p0 : List Int) : runF Try.prog X I 0 fuel 6 Try.f6 [.d (.ints .u8 p0)] =
  (bif (decide ((((p0.length : Nat) : Int) : Int) > 1048576)) then
  some ([.one ((.bool true), false)], [])
  else
  (bif bytesB p0 then
  (bif decide (((avS (cutC p0) 0)).length < 9223372036854775808) && decide (((avD (cutC p0) 0)).length < 9223372036854775808) && (!vcB ((avS (cutC p0) 0)) ((avD (cutC p0) 0)) || decide ((((avD (cutC p0) 0)) : List Int).length ≤ 20)) then
  (bif decide (((avS (cutC p0) 0)).length < 9223372036854775808) && decide (((avD (cutC p0) 0)).length < 9223372036854775808) then
  (bif decide (((guS ((avS (cutC p0) 0)) ((avD (cutC p0) 0)))).length < 9223372036854775808) && decide (((guD ((avS (cutC p0) 0)) ((avD (cutC p0) 0)))).length < 9223372036854775808) && decide (((guS ((avS (cutC p0) 0)) ((avD (cutC p0) 0)))).length < 9223372036854775808) && decide (((guD ((avS (cutC p0) 0)) ((avD (cutC p0) 0)))).length < 9223372036854775808) then
  (bif (!(decide (((guS ((avS (cutC p0) 0)) ((avD (cutC p0) 0)))) = ((guS ((avS (cutC p0) 0)) ((avD (cutC p0) 0))))) && decide (((guD ((avS (cutC p0) 0)) ((avD (cutC p0) 0)))) = ((guD ((avS (cutC p0) 0)) ((avD (cutC p0) 0))))))) then
  (bif decide (((avS (cutC p0) 0)).length < 9223372036854775808) && decide (((avD (cutC p0) 0)).length < 9223372036854775808) then
  (bif decide (((guS ((avS (cutC p0) 0)) ((avD (cutC p0) 0)))).length < 9223372036854775808) && decide (((guD ((avS (cutC p0) 0)) ((avD (cutC p0) 0)))).length < 9223372036854775808) && decide (((guS ((avS (cutC p0) 0)) ((avD (cutC p0) 0)))).length < 9223372036854775808) && decide (((guD ((avS (cutC p0) 0)) ((avD (cutC p0) 0)))).length < 9223372036854775808) then
  some ([.one ((.bool (decide (((guS ((avS (cutC p0) 0)) ((avD (cutC p0) 0)))) = ((guS ((avS (cutC p0) 0)) ((avD (cutC p0) 0))))) && decide (((guD ((avS (cutC p0) 0)) ((avD (cutC p0) 0)))) = ((guD ((avS (cutC p0) 0)) ((avD (cutC p0) 0))))))), false)], [])
  else
  none)
  else
  none)
  else
  (bif decide (((guS ((avS (cutC p0) 0)) ((avD (cutC p0) 0)))).length < 9223372036854775808) && decide (((guD ((avS (cutC p0) 0)) ((avD (cutC p0) 0)))).length < 9223372036854775808) then
  (bif (!(validA ((guS ((avS (cutC p0) 0)) ((avD (cutC p0) 0)))) ((guD ((avS (cutC p0) 0)) ((avD (cutC p0) 0)))))) then
  (bif decide (((avS (cutC p0) 0)).length < 9223372036854775808) && decide (((avD (cutC p0) 0)).length < 9223372036854775808) then
  (bif decide (((guS ((avS (cutC p0) 0)) ((avD (cutC p0) 0)))).length < 9223372036854775808) && decide (((guD ((avS (cutC p0) 0)) ((avD (cutC p0) 0)))).length < 9223372036854775808) && decide (((guS ((avS (cutC p0) 0)) ((avD (cutC p0) 0)))).length < 9223372036854775808) && decide (((guD ((avS (cutC p0) 0)) ((avD (cutC p0) 0)))).length < 9223372036854775808) then
  some ([.one ((.bool (decide (((guS ((avS (cutC p0) 0)) ((avD (cutC p0) 0)))) = ((guS ((avS (cutC p0) 0)) ((avD (cutC p0) 0))))) && decide (((guD ((avS (cutC p0) 0)) ((avD (cutC p0) 0)))) = ((guD ((avS (cutC p0) 0)) ((avD (cutC p0) 0))))))), false)], [])
  else
  none)
  else
  none)
  else
  (bif decide (((avS (cutC p0) 0)).length < 9223372036854775808) && decide (((avD (cutC p0) 0)).length < 9223372036854775808) && (!vcB ((avS (cutC p0) 0)) ((avD (cutC p0) 0)) || decide ((((avD (cutC p0) 0)) : List Int).length ≤ 20)) then
  (bif decide (((guS ((avS (cutC p0) 0)) ((avD (cutC p0) 0)))).length < 9223372036854775808) && decide (((guD ((avS (cutC p0) 0)) ((avD (cutC p0) 0)))).length < 9223372036854775808) && (!vcB ((guS ((avS (cutC p0) 0)) ((avD (cutC p0) 0)))) ((guD ((avS (cutC p0) 0)) ((avD (cutC p0) 0)))) || decide ((((guD ((avS (cutC p0) 0)) ((avD (cutC p0) 0)))) : List Int).length ≤ 20)) then
  (bif decide (((soS ((avS (cutC p0) 0)) ((avD (cutC p0) 0)))).length < 9223372036854775808) && decide (((soD ((avS (cutC p0) 0)) ((avD (cutC p0) 0)))).length < 9223372036854775808) && decide (((guS ((guS ((avS (cutC p0) 0)) ((avD (cutC p0) 0)))) ((guD ((avS (cutC p0) 0)) ((avD (cutC p0) 0)))))).length < 9223372036854775808) && decide (((guD ((guS ((avS (cutC p0) 0)) ((avD (cutC p0) 0)))) ((guD ((avS (cutC p0) 0)) ((avD (cutC p0) 0)))))).length < 9223372036854775808) then
  (bif (pkB ((soS ((avS (cutC p0) 0)) ((avD (cutC p0) 0)))) ((soD ((avS (cutC p0) 0)) ((avD (cutC p0) 0)))) ((guS ((guS ((avS (cutC p0) 0)) ((avD (cutC p0) 0)))) ((guD ((avS (cutC p0) 0)) ((avD (cutC p0) 0)))))) ((guD ((guS ((avS (cutC p0) 0)) ((avD (cutC p0) 0)))) ((guD ((avS (cutC p0) 0)) ((avD (cutC p0) 0))))))) then
  (bif decide (((pkS ((soS ((avS (cutC p0) 0)) ((avD (cutC p0) 0)))) ((soD ((avS (cutC p0) 0)) ((avD (cutC p0) 0)))) ((guS ((guS ((avS (cutC p0) 0)) ((avD (cutC p0) 0)))) ((guD ((avS (cutC p0) 0)) ((avD (cutC p0) 0)))))) ((guD ((guS ((avS (cutC p0) 0)) ((avD (cutC p0) 0)))) ((guD ((avS (cutC p0) 0)) ((avD (cutC p0) 0)))))))).length < 9223372036854775808) && decide (((pkD ((soS ((avS (cutC p0) 0)) ((avD (cutC p0) 0)))) ((soD ((avS (cutC p0) 0)) ((avD (cutC p0) 0)))) ((guS ((guS ((avS (cutC p0) 0)) ((avD (cutC p0) 0)))) ((guD ((avS (cutC p0) 0)) ((avD (cutC p0) 0)))))) ((guD ((guS ((avS (cutC p0) 0)) ((avD (cutC p0) 0)))) ((guD ((avS (cutC p0) 0)) ((avD (cutC p0) 0)))))))).length < 9223372036854775808) && decide (((avS (cutC p0) 0)).length < 9223372036854775808) && decide (((avD (cutC p0) 0)).length < 9223372036854775808) then
  some ([.one ((.bool (decide (((pkS ((soS ((avS (cutC p0) 0)) ((avD (cutC p0) 0)))) ((soD ((avS (cutC p0) 0)) ((avD (cutC p0) 0)))) ((guS ((guS ((avS (cutC p0) 0)) ((avD (cutC p0) 0)))) ((guD ((avS (cutC p0) 0)) ((avD (cutC p0) 0)))))) ((guD ((guS ((avS (cutC p0) 0)) ((avD (cutC p0) 0)))) ((guD ((avS (cutC p0) 0)) ((avD (cutC p0) 0)))))))) = ((avS (cutC p0) 0))) && decide (((pkD ((soS ((avS (cutC p0) 0)) ((avD (cutC p0) 0)))) ((soD ((avS (cutC p0) 0)) ((avD (cutC p0) 0)))) ((guS ((guS ((avS (cutC p0) 0)) ((avD (cutC p0) 0)))) ((guD ((avS (cutC p0) 0)) ((avD (cutC p0) 0)))))) ((guD ((guS ((avS (cutC p0) 0)) ((avD (cutC p0) 0)))) ((guD ((avS (cutC p0) 0)) ((avD (cutC p0) 0)))))))) = ((avD (cutC p0) 0))))), false)], [])
  else
  none)
  else
  some ([.one ((.bool false), false)], []))
  else
  none)
  else
  none)
  else
  none))
  else
  none))
  else
  none)
  else
  none)
  else
  none)
  else
  none)) := by kernel_rfl
end laws_FnGradeUpRank
theorem laws_FnGradeUpRank.ok_of (hX : ∀ E ∈ laws_FnGradeUpRank.X, CallSpec Try.prog E) (h : ∀ (bs : List Int), (bytesB bs) = true → ∃ fuel, runF Try.prog laws_FnGradeUpRank.X laws_FnGradeUpRank.I 0 fuel 6 Try.f6 [.d (.ints .u8 bs)] = some ([.one ((.bool true), false)], [])) : CallSpec Try.prog laws_FnGradeUpRank.E :=
  callSpec_of (d := 0) hX (by kernel_rfl) laws_FnGradeUpRank.I_ok (by kernel_rfl) (by kernel_rfl) (by kernel_rfl) (fun _ _ _ _ h => by dsimp only [laws_FnGradeUpRank.E] at h; cases h) (fun xs hp => by
    dsimp only [laws_FnGradeUpRank.E] at hp ⊢
    split at hp
    · exact h _ hp
    · cases hp)
theorem laws_FnGradeUpRank.ok : CallSpec Try.prog laws_FnGradeUpRank.E := laws_FnGradeUpRank.ok_of (by simp [laws_FnGradeUpRank.X, spec_DrawGradeUp.ok, impl_GradeUp.ok, spec_GradeUp.ok, laws_equalArray.ok, impl_ValidArray.ok, impl_SortArray.ok, impl_PickItems.ok]) fun bs h => by
  obtain ⟨F, hF⟩ : ∃ F : Nat, 4000 < F := ⟨4001, by omega⟩
  refine ⟨F, ?_⟩
  rw [laws_FnGradeUpRank.e]
  by_cases hl : ((bs.length : Nat) : Int) > 1048576
  · rw [decide_eq_true hl]; rfl
  rw [decide_eq_false hl, cond_false, h, cond_true]
  have r0 := cut_ok h (p := 0) (by omega) (by omega)
  obtain ⟨a1, a2, _, _⟩ := av_bd r0 (by omega)
  have h20 : vcB (avS (cutC bs) 0) (avD (cutC bs) 0) = true → (avD (cutC bs) 0).length ≤ 20 := fun hb => av_small r0 hb
  obtain ⟨sh, hsh⟩ : ∃ x, avS (cutC bs) 0 = x := ⟨_, rfl⟩
  obtain ⟨da, hda⟩ : ∃ x, avD (cutC bs) 0 = x := ⟨_, rfl⟩
  rw [hsh] at a1
  rw [hda] at a2
  rw [hsh, hda] at h20
  have g1 := lt_of (xs := sh) (by omega)
  have g2 := lt_of (xs := da) (by omega)
  have q1 : ∀ n : Nat, decide (([(n : Int)] : List Int).length < 9223372036854775808) = true := fun n => rfl
  simp only [hsh, hda]
  cases hb : vcB sh da with
  | false =>
    have e0 : guS sh da = [] := by simp only [guS, hb, cond_false]
    have e1 : guD sh da = [] := by simp only [guD, hb, cond_false]
    have g0 : decide (([] : List Int).length < 9223372036854775808) = true := rfl
    have hv0 : validA [] [] = false := rfl
    have hv1 : vcB [] [] = false := rfl
    simp only [Bool.and_self, Bool.and_true, Bool.true_and, cond_true, cond_false, Bool.not_true, Bool.not_false, bne_self_eq_false, beq_self_eq_true, decide_true, eq_self, Bool.true_or, Bool.false_or, g1, g2, e0, e1, g0, hv0, hv1]
  | true =>
    have h2 := decide_eq_true (h20 hb)
    obtain ⟨hv, hs, hl60, hal⟩ := vcB_inv hb
    obtain ⟨e0, e1, hvo⟩ := gu_facts hb
    have hvc := vcB_vec hb
    have hlu : (grN da da.length).length = da.length := grN_length _ _
    have hvu := validA_vec hvo
    rw [hlu] at hvu
    have g3 := lt_of (xs := grN da da.length) (by omega)
    have h3 : decide ((grN da da.length).length ≤ 20) = true := by rw [hlu]; exact h2
    have u1 := gu_two hl60
    obtain ⟨s0, s1, _⟩ := so_facts hb
    obtain ⟨w0, w1', _⟩ := gu_facts u1
    rw [grN_length] at w0 w1'
    obtain ⟨p1, p2, p3⟩ := so_pick hvc
    have p2 := p2.trans hs.symm
    have g4 := lt_of (xs := soL' da) (by rw [so_len]; omega)
    have g5 := lt_of (xs := grN (grN da da.length) da.length) (by rw [grN_length]; omega)
    simp only [Bool.and_self, Bool.and_true, Bool.true_and, cond_true, cond_false, Bool.not_true, Bool.not_false, bne_self_eq_false, beq_self_eq_true, decide_true, eq_self, Bool.true_or, Bool.false_or, h2, h3, g1, g2, g3, g4, g5, q1, e0, e1, hvu, p1, p2, p3, u1, s0, s1, w0, w1']

namespace spec_DrawUniqueItems
noncomputable def E : Entry := ⟨20, false, false, fun | [.d (.ints .u8 bs)] => bytesB bs | _ => false, fun | [.d (.ints .u8 bs)] => ([.agg [((.ints .i64 (avS (cutC bs) 0)), false), ((.ints .i64 (avD (cutC bs) 0)), false)]], []) | _ => ([], []), fun _ => [], true, fun _ => none⟩
end spec_DrawUniqueItems
namespace spec_DrawUniqueItems
noncomputable def X : List Entry := [spec_newReader.E, spec_anyVector.E]
noncomputable def I : List Inl := [⟨20, Try.f20, ⟨[5], [], [], [], [], []⟩⟩]
theorem I_ok : ∀ i ∈ I, Try.prog.funcs[i.f]? = some i.fn ∧ (i.fn.name == "runtime.NumGoroutine") = false := by
  intro i hi
  simp only [I, List.mem_cons, List.not_mem_nil, or_false] at hi
  subst hi
  exact ⟨by kernel_rfl, by kernel_rfl⟩
theorem e (fuel : Nat) (p0 : List Int) : runF Try.prog X I 0 fuel 20 Try.f20 [.d (.ints .u8 p0)] =
  (bif rdOk ((cutC p0)) 0 && decide ((0 : Int) ≤ 900000) then
  some ([.agg [((.ints .i64 (avS ((cutC p0)) 0)), false), ((.ints .i64 (avD ((cutC p0)) 0)), false)]], [])
  else
  none) := by kernel_rfl
end spec_DrawUniqueItems
theorem spec_DrawUniqueItems.ok_of (hX : ∀ E ∈ spec_DrawUniqueItems.X, CallSpec Try.prog E) (h : ∀ (bs : List Int), (bytesB bs) = true → ∃ fuel, runF Try.prog spec_DrawUniqueItems.X spec_DrawUniqueItems.I 0 fuel 20 Try.f20 [.d (.ints .u8 bs)] = some ([.agg [((.ints .i64 (avS (cutC bs) 0)), false), ((.ints .i64 (avD (cutC bs) 0)), false)]], [])) : CallSpec Try.prog spec_DrawUniqueItems.E :=
  callSpec_of (d := 0) hX (by kernel_rfl) spec_DrawUniqueItems.I_ok (by kernel_rfl) (by kernel_rfl) (by kernel_rfl) (fun _ _ _ _ h => by dsimp only [spec_DrawUniqueItems.E] at h; cases h) (fun xs hp => by
    dsimp only [spec_DrawUniqueItems.E] at hp ⊢
    split at hp
    · exact h _ hp
    · cases hp)
theorem spec_DrawUniqueItems.ok : CallSpec Try.prog spec_DrawUniqueItems.E := spec_DrawUniqueItems.ok_of (by simp [spec_DrawUniqueItems.X, spec_newReader.ok, spec_anyVector.ok]) fun bs h => ⟨0, by
  have r0 := cut_ok h (p := 0) (by omega) (by omega)
  rw [spec_DrawUniqueItems.e, r0]
  rfl⟩

namespace slices_Index_int_int
noncomputable def E : Entry := ⟨53, true, false, fun | [.d (.ints .i64 xs), .d (.int .i64 v)] => decide (xs.length < 9223372036854775808) | _ => false, fun | [.d (.ints .i64 xs), .d (.int .i64 v)] => ([.one ((.int .i64 (idxI xs v)), false)], []) | _ => ([], []), fun _ => [], false, fun _ => none⟩
end slices_Index_int_int
namespace slices_Index_int_int
noncomputable def X : List Entry := []
noncomputable def I : List Inl := [⟨53, Try.f53, ⟨[], [(1000002, [2, 3, 4, 5, 6, 9, 10, 11, 12, 13, 14, 15, 16, 17, 18])], [], [], [], []⟩⟩]
theorem I_ok : ∀ i ∈ I, Try.prog.funcs[i.f]? = some i.fn ∧ (i.fn.name == "runtime.NumGoroutine") = false := by
  intro i hi
  simp only [I, List.mem_cons, List.not_mem_nil, or_false] at hi
  subst hi
  exact ⟨by kernel_rfl, by kernel_rfl⟩
noncomputable abbrev L0 (fuel n : Nat) (s : St) (k : Kont) := lAt Try.prog X I fuel true 0 false 53 (bodyOf Try.f53) [1, 0, 1, 0] n s k
noncomputable abbrev k0  (fuel : Nat) : Kont := (kAt Try.prog X I fuel true 0 false 53 (bodyOf Try.f53) [1, 0, 1, 0] [] (endK Try.prog Try.f53))
noncomputable def t0 (p0 : List Int) (p1 : Int) (x0q3 : Int) : St := ⟨[(.imm (.ints .i64 p0)), (.imm (.int .i64 p1)), .dead, .dead, .dead, .dead, .dead, (.imm (.int .i64 ((p0.length : Nat) : Int))), (.imm (.int .i64 x0q3)), .dead, .dead, .dead, .dead, .dead, .dead, .dead, .dead, .dead, .dead], hOf [], [], []⟩
theorem e (fuel : Nat) (p0 : List Int) (p1 : Int) : runF Try.prog X I 0 fuel 53 Try.f53 [.d (.ints .i64 p0), .d (.int .i64 p1)] =
  L0 fuel fuel (t0 p0 p1 0) (k0  fuel) := by kernel_rfl
theorem s0 (fuel n0 : Nat) (p0 : List Int) (p1 : Int) (x0q3 : Int) : L0 fuel (n0 + 1) (t0 p0 p1 x0q3) (k0  fuel) =
  (bif (decide ((x0q3 : Int) < ((p0.length : Nat) : Int))) then
  (idx x0q3 p0.length).bind fun j5 =>
  (p0[j5]?).bind fun v6 =>
  (bif ((p1 : Int) == v6) then
  some ([.one ((.int .i64 x0q3), false)], [])
  else
  L0 fuel n0 (t0 p0 p1 ((IntKind.wrap .i64 (x0q3 + 1)))) (k0  fuel))
  else
  some ([.one ((.int .i64 (-1)), false)], [])) := by kernel_rfl
end slices_Index_int_int
theorem slices_Index_int_int.ok_of (hX : ∀ E ∈ slices_Index_int_int.X, CallSpec Try.prog E) (h : ∀ (xs : List Int) (v : Int), (decide (xs.length < 9223372036854775808)) = true → ∃ fuel, runF Try.prog slices_Index_int_int.X slices_Index_int_int.I 0 fuel 53 Try.f53 [.d (.ints .i64 xs), .d (.int .i64 v)] = some ([.one ((.int .i64 (idxI xs v)), false)], [])) : CallSpec Try.prog slices_Index_int_int.E :=
  callSpec_of (d := 0) hX (by kernel_rfl) slices_Index_int_int.I_ok (by kernel_rfl) (by kernel_rfl) (by kernel_rfl) (fun _ _ _ _ h => by dsimp only [slices_Index_int_int.E] at h; cases h) (fun xs hp => by
    dsimp only [slices_Index_int_int.E] at hp ⊢
    split at hp
    · exact h _ _ hp
    · cases hp)
theorem slices_Index_int_int.ok : CallSpec Try.prog slices_Index_int_int.E := slices_Index_int_int.ok_of (by simp [slices_Index_int_int.X]) fun xs v h => ⟨xs.length + 1, by
  simp only [decide_eq_true_eq] at h
  rw [slices_Index_int_int.e]
  refine cnt_loop (N := xs.length) (fun n j (_ : Unit) => slices_Index_int_int.L0 (xs.length + 1) n (slices_Index_int_int.t0 xs v (j : Int)) (slices_Index_int_int.k0 (xs.length + 1))) (fun j _ => ∀ i, i < j → xs.getD i 0 ≠ v) ?_ ?_ (xs.length + 1) 0 () (by omega) (by omega) (fun i hi => absurd hi (by omega))
  · intro n _ hI
    rw [slices_Index_int_int.s0, dge (by omega), cond_false, idxI_no hI]
  · intro n j _ hj hI
    rw [slices_Index_int_int.s0, dlt hj, cond_true, idx_nat hj, w1 (by omega)]
    simp only [Option.bind_some, getD_get hj]
    by_cases he : v = xs.getD j 0
    · refine .inl ?_
      rw [show (v == xs.getD j 0) = true by simp [he], cond_true, idxI_at hj hI he.symm]
    · refine .inr ⟨(), ?_, by rw [show (v == xs.getD j 0) = false by simpa using he, cond_false]⟩
      intro i hi
      by_cases h1 : i = j
      · subst h1; exact fun e => he e.symm
      · exact hI i (by omega)⟩

namespace slices_Contains_int_int
noncomputable def E : Entry := ⟨41, true, false, fun | [.d (.ints .i64 xs), .d (.int .i64 v)] => decide (xs.length < 9223372036854775808) | _ => false, fun | [.d (.ints .i64 xs), .d (.int .i64 v)] => ([.one ((.bool (xs.contains v)), false)], []) | _ => ([], []), fun _ => [], false, fun _ => none⟩
end slices_Contains_int_int
namespace slices_Contains_int_int
noncomputable def X : List Entry := [slices_Index_int_int.E]
noncomputable def I : List Inl := [⟨41, Try.f41, ⟨[], [], [], [], [], []⟩⟩]
theorem I_ok : ∀ i ∈ I, Try.prog.funcs[i.f]? = some i.fn ∧ (i.fn.name == "runtime.NumGoroutine") = false := by
  intro i hi
  simp only [I, List.mem_cons, List.not_mem_nil, or_false] at hi
  subst hi
  exact ⟨by kernel_rfl, by kernel_rfl⟩
theorem e (fuel : Nat) (p0 : List Int) (p1 : Int) : runF Try.prog X I 0 fuel 41 Try.f41 [.d (.ints .i64 p0), .d (.int .i64 p1)] =
  (bif decide (p0.length < 9223372036854775808) then
  some ([.one ((.bool (decide (((idxI p0 p1) : Int) ≥ 0))), false)], [])
  else
  none) := by kernel_rfl
end slices_Contains_int_int
theorem slices_Contains_int_int.ok_of (hX : ∀ E ∈ slices_Contains_int_int.X, CallSpec Try.prog E) (h : ∀ (xs : List Int) (v : Int), (decide (xs.length < 9223372036854775808)) = true → ∃ fuel, runF Try.prog slices_Contains_int_int.X slices_Contains_int_int.I 0 fuel 41 Try.f41 [.d (.ints .i64 xs), .d (.int .i64 v)] = some ([.one ((.bool (xs.contains v)), false)], [])) : CallSpec Try.prog slices_Contains_int_int.E :=
  callSpec_of (d := 0) hX (by kernel_rfl) slices_Contains_int_int.I_ok (by kernel_rfl) (by kernel_rfl) (by kernel_rfl) (fun _ _ _ _ h => by dsimp only [slices_Contains_int_int.E] at h; cases h) (fun xs hp => by
    dsimp only [slices_Contains_int_int.E] at hp ⊢
    split at hp
    · exact h _ _ hp
    · cases hp)
theorem slices_Contains_int_int.ok : CallSpec Try.prog slices_Contains_int_int.E := slices_Contains_int_int.ok_of (by simp [slices_Contains_int_int.X, slices_Index_int_int.ok]) fun xs v h => ⟨0, by
  rw [slices_Contains_int_int.e, h, idxI_ge]
  rfl⟩

namespace impl_VectorOf
noncomputable def E : Entry := ⟨42, false, false, fun | [.d (.ints .i64 xs)] => szB xs | _ => false, fun | [.d (.ints .i64 xs)] => ([.agg [((.ints .i64 (vecS xs)), true), ((.ints .i64 (vecD xs)), true)]], []) | _ => ([], []), fun _ => [], true, fun _ => none⟩
end impl_VectorOf
namespace impl_VectorOf
noncomputable def X : List Entry := [impl_ValidArray.E, impl_copyList.E]
noncomputable def I : List Inl := [⟨42, Try.f42, ⟨[15], [], [], [], [], []⟩⟩]
theorem I_ok : ∀ i ∈ I, Try.prog.funcs[i.f]? = some i.fn ∧ (i.fn.name == "runtime.NumGoroutine") = false := by
  intro i hi
  simp only [I, List.mem_cons, List.not_mem_nil, or_false] at hi
  subst hi
  exact ⟨by kernel_rfl, by kernel_rfl⟩
theorem e (fuel : Nat) (p0 : List Int) : runF Try.prog X I 0 fuel 42 Try.f42 [.d (.ints .i64 p0)] =
  (bif decide (([((p0.length : Nat) : Int)]).length < 9223372036854775808) && decide (p0.length < 9223372036854775808) then
  (bif (!(validA ([((p0.length : Nat) : Int)]) p0)) then
  some ([.agg [((.ints .i64 []), true), ((.ints .i64 []), true)]], [])
  else
  (bif szB p0 then
  some ([.agg [((.ints .i64 [((p0.length : Nat) : Int)]), true), ((.ints .i64 p0), true)]], [])
  else
  none))
  else
  none) := by kernel_rfl
end impl_VectorOf
theorem impl_VectorOf.ok_of (hX : ∀ E ∈ impl_VectorOf.X, CallSpec Try.prog E) (h : ∀ (xs : List Int), (szB xs) = true → ∃ fuel, runF Try.prog impl_VectorOf.X impl_VectorOf.I 0 fuel 42 Try.f42 [.d (.ints .i64 xs)] = some ([.agg [((.ints .i64 (vecS xs)), true), ((.ints .i64 (vecD xs)), true)]], [])) : CallSpec Try.prog impl_VectorOf.E :=
  callSpec_of (d := 0) hX (by kernel_rfl) impl_VectorOf.I_ok (by kernel_rfl) (by kernel_rfl) (by kernel_rfl) (fun _ _ _ _ h => by dsimp only [impl_VectorOf.E] at h; cases h) (fun xs hp => by
    dsimp only [impl_VectorOf.E] at hp ⊢
    split at hp
    · exact h _ hp
    · cases hp)
theorem validA_vec0 (xs : List Int) (hx : xs.length < 9223372036854775808) : validA [((xs.length : Nat) : Int)] xs = vecOk xs := by
  have e1 := @wS ((xs.length : Nat) : Int) (by omega) (by omega)
  by_cases h1 : xs.length ≤ 60
  · have h2 : ((xs.length : Nat) : Int) ≤ 60 := by omega
    simp [validA, validS, vecOk, allB_cons, allB_nil, volW, volFrom, e1, h1, h2]
  · have h2 : ¬ ((xs.length : Nat) : Int) ≤ 60 := by omega
    simp [validA, validS, vecOk, allB_cons, allB_nil, volW, volFrom, e1, h1, h2]

theorem impl_VectorOf.ok : CallSpec Try.prog impl_VectorOf.E := impl_VectorOf.ok_of (by simp [impl_VectorOf.X, impl_ValidArray.ok, impl_copyList.ok]) fun xs h => ⟨0, by
  rw [impl_VectorOf.e, lt_of (szB_lt h), h, validA_vec0 xs (szB_lt h), lt_of (by simp)]
  unfold vecS vecD
  cases vecOk xs <;> rfl⟩

namespace impl_UniqueItems
noncomputable def E : Entry := ⟨21, false, false, fun | [.d (.agg [(.ints .i64 sh), (.ints .i64 da)])] => decide (sh.length < 9223372036854775808) && decide (da.length < 9223372036854775808) | _ => false, fun | [.d (.agg [(.ints .i64 sh), (.ints .i64 da)])] => ([.agg [((.ints .i64 (uqS sh da)), true), ((.ints .i64 (uqD sh da)), true)]], []) | _ => ([], []), fun _ => [], true, fun _ => none⟩
end impl_UniqueItems
namespace impl_UniqueItems
noncomputable def X : List Entry := [impl_isVector.E, slices_Contains_int_int.E, impl_VectorOf.E]
noncomputable def I : List Inl := [⟨21, Try.f21, ⟨[27], [(1000005, [0, 1, 4, 5, 6, 7, 8, 9, 10, 14, 15, 16, 17, 18, 19, 20, 21, 22, 23, 24, 25, 26, 27])], [], [], [], []⟩⟩]
theorem I_ok : ∀ i ∈ I, Try.prog.funcs[i.f]? = some i.fn ∧ (i.fn.name == "runtime.NumGoroutine") = false := by
  intro i hi
  simp only [I, List.mem_cons, List.not_mem_nil, or_false] at hi
  subst hi
  exact ⟨by kernel_rfl, by kernel_rfl⟩
noncomputable abbrev L0 (fuel n : Nat) (s : St) (k : Kont) := lAt Try.prog X I fuel true 0 false 21 (bodyOf Try.f21) [1, 1, 1, 0, 1, 0] n s k
noncomputable abbrev k0  (fuel : Nat) : Kont := (kAt Try.prog X I fuel true 0 false 21 (bodyOf Try.f21) [1, 1, 1, 0, 1, 0] [] (endK Try.prog Try.f21))
noncomputable def t0 (p0q1 : List Int) (x0q2 : Int) : St := ⟨[.dead, .dead, (.ptr 1000000000 0 0), (.imm .nils), .dead, .dead, .dead, .dead, .dead, .dead, .dead, (.imm (.ints .i64 p0q1)), (.imm (.int .i64 ((p0q1.length : Nat) : Int))), (.imm (.int .i64 x0q2)), .dead, .dead, .dead, .dead, .dead, .dead, .dead, .dead, .dead, .dead, .dead, .dead, .dead, .dead], hOf [(1000000000, (.box [(.imm .nils), (.imm .nils)]))], [], []⟩
noncomputable abbrev L1 (fuel n : Nat) (s : St) (k : Kont) := lAt Try.prog X I fuel true 0 false 21 (bodyOf Try.f21) [1, 1, 1, 0, 1, 0] n s k
noncomputable abbrev k1  (fuel : Nat) : Kont := (kAt Try.prog X I fuel true 0 false 21 (bodyOf Try.f21) [1, 1, 1, 0, 1, 0] [] (endK Try.prog Try.f21))
noncomputable def t1 (p0q1 : List Int) (x1q2 : Int) (x1q3 : List Int) : St := ⟨[.dead, .dead, (.ptr 1000000000 0 0), (.all 1000000001 1), .dead, .dead, .dead, .dead, .dead, .dead, .dead, (.imm (.ints .i64 p0q1)), (.imm (.int .i64 ((p0q1.length : Nat) : Int))), (.imm (.int .i64 x1q2)), .dead, .dead, .dead, .dead, .dead, .dead, .dead, .dead, .dead, .dead, .dead, .dead, .dead, .dead], hOf [(1000000000, (.box [(.imm .nils), (.imm .nils)])), (1000000001, (.ints .i64 x1q3))], [], []⟩
theorem e (fuel : Nat) (p0q0 : List Int) (p0q1 : List Int) : runF Try.prog X I 0 fuel 21 Try.f21 [.d (.agg [(.ints .i64 p0q0), (.ints .i64 p0q1)])] =
  (bif decide (p0q0.length < 9223372036854775808) && decide (p0q1.length < 9223372036854775808) then
  (bif (!(vcB p0q0 p0q1)) then
  some ([.agg [((.ints .i64 []), true), ((.ints .i64 []), true)]], [])
  else
  L0 fuel fuel (t0 p0q1 0) (k0  fuel))
  else
  none) := by kernel_rfl
theorem s0 (fuel n0 : Nat) (p0q1 : List Int) (x0q2 : Int) : L0 fuel (n0 + 1) (t0 p0q1 x0q2) (k0  fuel) =
  (bif (decide ((x0q2 : Int) < ((p0q1.length : Nat) : Int))) then
  (idx x0q2 p0q1.length).bind fun j5 =>
  (p0q1[j5]?).bind fun v6 =>
  (bif decide ((([] : List Int)).length < 9223372036854775808) then
  (bif (!((([] : List Int)).contains v6)) then
  (bif fits ([v6] : List Int).length 8 then
  L1 fuel n0 (t1 p0q1 ((IntKind.wrap .i64 (x0q2 + 1))) ([v6])) (k1  fuel)
  else
  none)
  else
  L0 fuel n0 (t0 p0q1 ((IntKind.wrap .i64 (x0q2 + 1)))) (k0  fuel))
  else
  none)
  else
  (bif szB (([] : List Int)) then
  some ([.agg [((.ints .i64 (vecS (([] : List Int)))), true), ((.ints .i64 (vecD (([] : List Int)))), true)]], [])
  else
  none)) := by kernel_rfl
theorem s1 (fuel n1 : Nat) (p0q1 : List Int) (x1q2 : Int) (x1q3 : List Int) : L1 fuel (n1 + 1) (t1 p0q1 x1q2 x1q3) (k1  fuel) =
  (bif (decide ((x1q2 : Int) < ((p0q1.length : Nat) : Int))) then
  (idx x1q2 p0q1.length).bind fun j11 =>
  (p0q1[j11]?).bind fun v12 =>
  (bif decide (x1q3.length < 9223372036854775808) then
  (bif (!(x1q3.contains v12)) then
  (bif fits (x1q3.length + ([v12] : List Int).length) 8 then
  L1 fuel n1 (t1 p0q1 ((IntKind.wrap .i64 (x1q2 + 1))) ((x1q3 ++ [v12]))) (k1  fuel)
  else
  none)
  else
  L1 fuel n1 (t1 p0q1 ((IntKind.wrap .i64 (x1q2 + 1))) x1q3) (k1  fuel))
  else
  none)
  else
  (bif szB x1q3 then
  some ([.agg [((.ints .i64 (vecS x1q3)), true), ((.ints .i64 (vecD x1q3)), true)]], [])
  else
  none)) := by kernel_rfl
end impl_UniqueItems
theorem impl_UniqueItems.ok_of (hX : ∀ E ∈ impl_UniqueItems.X, CallSpec Try.prog E) (h : ∀ (sh : List Int) (da : List Int), (decide (sh.length < 9223372036854775808) && decide (da.length < 9223372036854775808)) = true → ∃ fuel, runF Try.prog impl_UniqueItems.X impl_UniqueItems.I 0 fuel 21 Try.f21 [.d (.agg [(.ints .i64 sh), (.ints .i64 da)])] = some ([.agg [((.ints .i64 (uqS sh da)), true), ((.ints .i64 (uqD sh da)), true)]], [])) : CallSpec Try.prog impl_UniqueItems.E :=
  callSpec_of (d := 0) hX (by kernel_rfl) impl_UniqueItems.I_ok (by kernel_rfl) (by kernel_rfl) (by kernel_rfl) (fun _ _ _ _ h => by dsimp only [impl_UniqueItems.E] at h; cases h) (fun xs hp => by
    dsimp only [impl_UniqueItems.E] at hp ⊢
    split at hp
    · exact h _ _ hp
    · cases hp)
theorem impl_UniqueItems.fin {da : List Int} (hl : da.length ≤ 60) (h : allB da (-1000000) 1000000 = true) : szB (uqC da da.length) = true ∧ vecS (uqC da da.length) = [(((uqC da da.length).length : Nat) : Int)] ∧ vecD (uqC da da.length) = uqC da da.length := by
  have hw := uqC_len da da.length
  refine ⟨szB_of (by omega), vecOk_eq (vec_of_sub hl h hw fun x hx => ?_)⟩
  have := (uqC_mem da da.length (Nat.le_refl _) x).1 hx
  rwa [List.take_length] at this
theorem impl_UniqueItems.ok : CallSpec Try.prog impl_UniqueItems.E := impl_UniqueItems.ok_of (by simp [impl_UniqueItems.X, impl_isVector.ok, slices_Contains_int_int.ok, impl_VectorOf.ok]) fun sh da h => ⟨da.length + 1, by
  rw [impl_UniqueItems.e, h]
  unfold uqS uqD
  cases hb : vcB sh da with
  | false => rfl
  | true =>
    obtain ⟨_, _, hl, hall⟩ := vcB_inv hb
    obtain ⟨q1, q2, q3⟩ := impl_UniqueItems.fin hl hall
    have hw := uqC_len da
    refine run_loop (N := da.length) (fun n j (out : List Int) => match out with
      | [] => impl_UniqueItems.L0 (da.length + 1) n (impl_UniqueItems.t0 da (j : Int)) (impl_UniqueItems.k0 (da.length + 1))
      | _ => impl_UniqueItems.L1 (da.length + 1) n (impl_UniqueItems.t1 da (j : Int) out) (impl_UniqueItems.k1 (da.length + 1))) (fun j out => out = uqC da j) ?_ ?_ (da.length + 1) 0 [] (by omega) (by omega) rfl
    · rintro n out ho
      rw [← ho] at q1 q2 q3
      match out, ho with
      | [], ho =>
        simp only
        rw [impl_UniqueItems.s0, dge (by omega), cond_false, q1, q2, q3, ← ho]
        rfl
      | v :: vs, ho =>
        simp only
        rw [impl_UniqueItems.s1, dge (by omega), cond_false, q1, q2, q3, ← ho]
        rfl
    · rintro n j out hj ho
      have := hw j
      rw [← ho] at this
      refine ⟨uqC da (j + 1), rfl, ?_⟩
      simp only [uqC]
      rw [← ho]
      match out, ho, this with
      | [], ho, _ =>
        simp only
        rw [impl_UniqueItems.s0, dlt hj, cond_true, idx_nat hj, w1 (by omega), lt_of (by simp)]
        simp only [Option.bind_some, getD_get hj, cond_true]
        rw [fitsOk (by simp only [List.length_cons, List.length_nil]; omega)]
        cases ([] : List Int).contains (da.getD j 0) <;> rfl
      | v :: vs, ho, this =>
        simp only
        rw [impl_UniqueItems.s1, dlt hj, cond_true, idx_nat hj, w1 (by omega), lt_of (by omega)]
        simp only [Option.bind_some, getD_get hj, cond_true]
        rw [fitsOk (by simp only [List.length_cons, List.length_nil] at this ⊢; omega)]
        cases (v :: vs).contains (da.getD j 0) <;> rfl⟩

namespace spec_find
noncomputable def E : Entry := ⟨43, true, false, fun | [.d (.ints .i64 xs), .d (.int .i64 n)] => decide (xs.length < 9223372036854775808) | _ => false, fun | [.d (.ints .i64 xs), .d (.int .i64 n)] => ([.one ((.int .i64 ((xs.idxOf n : Nat) : Int)), false)], []) | _ => ([], []), fun _ => [], false, fun _ => none⟩
end spec_find
namespace spec_find
noncomputable def X : List Entry := []
noncomputable def I : List Inl := [⟨43, Try.f43, ⟨[], [(1000002, [2, 3, 4, 6, 7, 8, 9, 10, 11, 12, 13, 14, 15, 16, 17, 18, 19, 20])], [], [], [], []⟩⟩]
theorem I_ok : ∀ i ∈ I, Try.prog.funcs[i.f]? = some i.fn ∧ (i.fn.name == "runtime.NumGoroutine") = false := by
  intro i hi
  simp only [I, List.mem_cons, List.not_mem_nil, or_false] at hi
  subst hi
  exact ⟨by kernel_rfl, by kernel_rfl⟩
noncomputable abbrev L0 (fuel n : Nat) (s : St) (k : Kont) := lAt Try.prog X I fuel true 0 false 43 (bodyOf Try.f43) [1, 0, 1, 0] n s k
noncomputable abbrev k0  (fuel : Nat) : Kont := (kAt Try.prog X I fuel true 0 false 43 (bodyOf Try.f43) [1, 0, 1, 0] [] (endK Try.prog Try.f43))
noncomputable def t0 (p0 : List Int) (p1 : Int) (x0q2 : Int) : St := ⟨[(.imm (.ints .i64 p0)), (.imm (.int .i64 p1)), .dead, .dead, .dead, (.imm (.int .i64 x0q2)), .dead, .dead, .dead, .dead, .dead, .dead, .dead, .dead, .dead, .dead, .dead, .dead, .dead, .dead, .dead], hOf [], [], []⟩
theorem e (fuel : Nat) (p0 : List Int) (p1 : Int) : runF Try.prog X I 0 fuel 43 Try.f43 [.d (.ints .i64 p0), .d (.int .i64 p1)] =
  L0 fuel fuel (t0 p0 p1 0) (k0  fuel) := by kernel_rfl
theorem s0 (fuel n0 : Nat) (p0 : List Int) (p1 : Int) (x0q2 : Int) : L0 fuel (n0 + 1) (t0 p0 p1 x0q2) (k0  fuel) =
  (bif (decide ((x0q2 : Int) < ((p0.length : Nat) : Int))) then
  (idx x0q2 p0.length).bind fun j5 =>
  (p0[j5]?).bind fun v6 =>
  (bif ((v6 : Int) == p1) then
  some ([.one ((.int .i64 x0q2), false)], [])
  else
  L0 fuel n0 (t0 p0 p1 ((IntKind.wrap .i64 (x0q2 + 1)))) (k0  fuel))
  else
  some ([.one ((.int .i64 ((p0.length : Nat) : Int)), false)], [])) := by kernel_rfl
end spec_find
theorem spec_find.ok_of (hX : ∀ E ∈ spec_find.X, CallSpec Try.prog E) (h : ∀ (xs : List Int) (n : Int), (decide (xs.length < 9223372036854775808)) = true → ∃ fuel, runF Try.prog spec_find.X spec_find.I 0 fuel 43 Try.f43 [.d (.ints .i64 xs), .d (.int .i64 n)] = some ([.one ((.int .i64 ((xs.idxOf n : Nat) : Int)), false)], [])) : CallSpec Try.prog spec_find.E :=
  callSpec_of (d := 0) hX (by kernel_rfl) spec_find.I_ok (by kernel_rfl) (by kernel_rfl) (by kernel_rfl) (fun _ _ _ _ h => by dsimp only [spec_find.E] at h; cases h) (fun xs hp => by
    dsimp only [spec_find.E] at hp ⊢
    split at hp
    · exact h _ _ hp
    · cases hp)
theorem spec_find.ok : CallSpec Try.prog spec_find.E := spec_find.ok_of (by simp [spec_find.X]) fun xs v h => ⟨xs.length + 1, by
  simp only [decide_eq_true_eq] at h
  rw [spec_find.e]
  refine cnt_loop (N := xs.length) (fun n j (_ : Unit) => spec_find.L0 (xs.length + 1) n (spec_find.t0 xs v (j : Int)) (spec_find.k0 (xs.length + 1))) (fun j _ => ∀ i, i < j → xs.getD i 0 ≠ v) ?_ ?_ (xs.length + 1) 0 () (by omega) (by omega) (fun i hi => absurd hi (by omega))
  · intro n _ hI
    rw [spec_find.s0, dge (by omega), cond_false, idxOf_miss (contains_no hI)]
  · intro n j _ hj hI
    rw [spec_find.s0, dlt hj, cond_true, idx_nat hj, w1 (by omega)]
    simp only [Option.bind_some, getD_get hj]
    by_cases he : xs.getD j 0 = v
    · refine .inl ?_
      rw [show (xs.getD j 0 == v) = true by simpa using he, cond_true, idxOf_at hj hI he]
    · refine .inr ⟨(), ?_, by rw [show (xs.getD j 0 == v) = false by simpa using he, cond_false]⟩
      intro i hi
      by_cases h1 : i = j
      · subst h1; exact he
      · exact hI i (by omega)⟩

namespace spec_UniqueItems
noncomputable def E : Entry := ⟨22, false, false, fun | [.d (.agg [(.ints .i64 sh), (.ints .i64 da)])] => decide (sh.length < 9223372036854775808) && decide (da.length < 9223372036854775808) | _ => false, fun | [.d (.agg [(.ints .i64 sh), (.ints .i64 da)])] => ([.agg [((.ints .i64 (uqS sh da)), true), ((.ints .i64 (uqD sh da)), true)]], []) | _ => ([], []), fun _ => [], true, fun _ => none⟩
end spec_UniqueItems
namespace spec_UniqueItems
noncomputable def X : List Entry := [spec_isVector.E, spec_find.E, spec_vector.E]
noncomputable def I : List Inl := [⟨22, Try.f22, ⟨[36], [(1000005, [0, 5, 6, 7, 8, 9, 10, 11, 12, 13, 14, 15, 16, 17, 18, 19, 20, 21, 22, 23, 24, 25, 26, 27, 28, 29, 30, 31, 32, 33, 34, 35, 36])], [], [(7, [0, 2, 4, 8, 1, 3, 5, 6, 7, 9])], [], []⟩⟩]
theorem I_ok : ∀ i ∈ I, Try.prog.funcs[i.f]? = some i.fn ∧ (i.fn.name == "runtime.NumGoroutine") = false := by
  intro i hi
  simp only [I, List.mem_cons, List.not_mem_nil, or_false] at hi
  subst hi
  exact ⟨by kernel_rfl, by kernel_rfl⟩
noncomputable abbrev L0 (fuel n : Nat) (s : St) (k : Kont) := lAt Try.prog X I fuel true 0 false 22 (bodyOf Try.f22) [1, 1, 1, 0, 1, 0] n s k
noncomputable abbrev k0  (fuel : Nat) : Kont := (kAt Try.prog X I fuel true 0 false 22 (bodyOf Try.f22) [1, 1, 1, 0, 1, 0] [] (endK Try.prog Try.f22))
noncomputable def t0 (p0q0 : List Int) (p0q1 : List Int) (x0q0 : Int) (x0q3 : List Int) : St := ⟨[.dead, (.ptr 1000000000 0 0), (.ptr 1000000001 0 0), (.all 1000000002 1), (.imm (.int .i64 x0q0)), .dead, .dead, .dead, .dead, .dead, .dead, .dead, .dead, .dead, .dead, .dead, .dead, .dead, .dead, .dead, .dead, .dead, .dead, .dead, .dead, .dead, .dead, .dead, .dead, .dead, .dead, .dead, .dead, .dead, .dead, .dead, .dead], hOf [(1000000000, (.box [(.imm (.ints .i64 p0q0)), (.imm (.ints .i64 p0q1))])), (1000000001, (.box [(.imm .nils), (.imm .nils)])), (1000000002, (.ints .i64 x0q3))], [], []⟩
theorem e (fuel : Nat) (p0q0 : List Int) (p0q1 : List Int) : runF Try.prog X I 0 fuel 22 Try.f22 [.d (.agg [(.ints .i64 p0q0), (.ints .i64 p0q1)])] =
  (bif decide (p0q0.length < 9223372036854775808) && decide (p0q1.length < 9223372036854775808) then
  (bif (!(vcB p0q0 p0q1)) then
  some ([.agg [((.ints .i64 []), true), ((.ints .i64 []), true)]], [])
  else
  L0 fuel fuel (t0 p0q0 p0q1 0 ([])) (k0  fuel))
  else
  none) := by kernel_rfl
theorem s0 (fuel n0 : Nat) (p0q0 : List Int) (p0q1 : List Int) (x0q0 : Int) (x0q3 : List Int) : L0 fuel (n0 + 1) (t0 p0q0 p0q1 x0q0 x0q3) (k0  fuel) =
  (bif (decide ((x0q0 : Int) < ((p0q1.length : Nat) : Int))) then
  (idx x0q0 p0q1.length).bind fun j9 =>
  (p0q1[j9]?).bind fun v10 =>
  (bif decide (p0q1.length < 9223372036854775808) then
  (bif ((((p0q1.idxOf v10 : Nat) : Int) : Int) == x0q0) then
  (idx x0q0 p0q1.length).bind fun j11 =>
  (p0q1[j11]?).bind fun v12 =>
  (bif fits (x0q3.length + ([v12] : List Int).length) 8 then
  L0 fuel n0 (t0 p0q0 p0q1 ((IntKind.wrap .i64 (x0q0 + 1))) ((x0q3 ++ [v12]))) (k0  fuel)
  else
  none)
  else
  L0 fuel n0 (t0 p0q0 p0q1 ((IntKind.wrap .i64 (x0q0 + 1))) x0q3) (k0  fuel))
  else
  none)
  else
  (bif szB x0q3 then
  some ([.agg [((.ints .i64 [((x0q3.length : Nat) : Int)]), true), ((.ints .i64 x0q3), true)]], [])
  else
  none)) := by kernel_rfl
end spec_UniqueItems
theorem spec_UniqueItems.ok_of (hX : ∀ E ∈ spec_UniqueItems.X, CallSpec Try.prog E) (h : ∀ (sh : List Int) (da : List Int), (decide (sh.length < 9223372036854775808) && decide (da.length < 9223372036854775808)) = true → ∃ fuel, runF Try.prog spec_UniqueItems.X spec_UniqueItems.I 0 fuel 22 Try.f22 [.d (.agg [(.ints .i64 sh), (.ints .i64 da)])] = some ([.agg [((.ints .i64 (uqS sh da)), true), ((.ints .i64 (uqD sh da)), true)]], [])) : CallSpec Try.prog spec_UniqueItems.E :=
  callSpec_of (d := 0) hX (by kernel_rfl) spec_UniqueItems.I_ok (by kernel_rfl) (by kernel_rfl) (by kernel_rfl) (fun _ _ _ _ h => by dsimp only [spec_UniqueItems.E] at h; cases h) (fun xs hp => by
    dsimp only [spec_UniqueItems.E] at hp ⊢
    split at hp
    · exact h _ _ hp
    · cases hp)
theorem uq_idx {da : List Int} {j : Nat} (hj : j < da.length) : ((((da.idxOf (da.getD j 0) : Nat) : Int)) == (j : Int)) = !(uqC da j).contains (da.getD j 0) := by
  have h1 := idxOf_lt_iff hj (v := da.getD j 0) rfl
  have h2 : (uqC da j).contains (da.getD j 0) = (da.take j).contains (da.getD j 0) := by
    rw [Bool.eq_iff_iff, contains_iff, contains_iff]
    exact uqC_mem da j (by omega) _
  rw [h2]
  cases hc : (da.take j).contains (da.getD j 0) with
  | false => rw [h1.2 hc]; simp
  | true =>
    have : da.idxOf (da.getD j 0) ≠ j := by
      intro h; rw [h1.1 h] at hc; cases hc
    have e : (((da.idxOf (da.getD j 0) : Nat) : Int) == (j : Int)) = false := by
      rw [beq_eq_false_iff_ne]; omega
    rw [e]; rfl
theorem spec_UniqueItems.ok : CallSpec Try.prog spec_UniqueItems.E := spec_UniqueItems.ok_of (by simp [spec_UniqueItems.X, spec_isVector.ok, spec_find.ok, spec_vector.ok]) fun sh da h => ⟨da.length + 1, by
  rw [spec_UniqueItems.e, h]
  simp only [Bool.and_eq_true] at h
  unfold uqS uqD
  cases hb : vcB sh da with
  | false => rfl
  | true =>
    obtain ⟨_, _, hl, _⟩ := vcB_inv hb
    have hw := uqC_len da
    refine run_loop (N := da.length) (fun n j out => spec_UniqueItems.L0 (da.length + 1) n (spec_UniqueItems.t0 sh da (j : Int) out) (spec_UniqueItems.k0 (da.length + 1))) (fun j out => out = uqC da j) ?_ ?_ (da.length + 1) 0 [] (by omega) (by omega) rfl
    · rintro n out rfl
      have := hw da.length
      rw [spec_UniqueItems.s0, dge (by omega), cond_false, szB_of (by omega)]
      rfl
    · rintro n j out hj rfl
      have := hw j
      rw [spec_UniqueItems.s0, dlt hj, cond_true, idx_nat hj, w1 (by omega), h.2]
      simp only [Option.bind_some, getD_get hj, cond_true]
      rw [fitsOk (by simp only [List.length_cons, List.length_nil]; omega), uq_idx hj]
      cases hc : (uqC da j).contains (da.getD j 0) with
      | true => exact ⟨uqC da j, by simp only [uqC, hc, cond_true], rfl⟩
      | false => exact ⟨uqC da j ++ [da.getD j 0], by simp only [uqC, hc, cond_false], rfl⟩⟩

namespace laws_FnUniqueItemsSort
noncomputable def E : Entry := ⟨7, true, false, fun | [.d (.ints .u8 bs)] => bytesB bs | _ => false, fun | [.d (.ints .u8 bs)] => ([.one ((.bool true), false)], []) | _ => ([], []), fun _ => [], false, fun _ => none⟩
end laws_FnUniqueItemsSort
namespace laws_FnUniqueItemsSort
noncomputable def X : List Entry := [spec_DrawUniqueItems.E, impl_UniqueItems.E, spec_UniqueItems.E, laws_equalArray.E, impl_ValidArray.E, impl_SortArray.E]
noncomputable def I : List Inl := [⟨7, Try.f7, ⟨[11, 13, 16, 26, 29, 50, 51], [(1000009, [0, 1, 2, 4, 7, 8, 9, 10, 11, 12, 13, 14, 15, 16, 17, 18, 19, 20, 21, 22, 23, 24, 25, 26, 27, 28, 29, 30, 31, 32, 33, 34, 35, 36, 37, 38, 39, 40, 41, 42, 43, 44, 45, 46, 47, 48, 49, 50, 51, 52, 53])], [], [(11, [0, 2, 5, 7, 8, 1, 3, 4, 6, 9, 10, 11]), (13, [0, 3, 1, 2, 4, 5])], [], []⟩⟩]
theorem I_ok : ∀ i ∈ I, Try.prog.funcs[i.f]? = some i.fn ∧ (i.fn.name == "runtime.NumGoroutine") = false := by
  intro i hi
  simp only [I, List.mem_cons, List.not_mem_nil, or_false] at hi
  subst hi
  exact ⟨by kernel_rfl, by kernel_rfl⟩
noncomputable abbrev L0 (fuel n : Nat) (s : St) (k : Kont) := lAt Try.prog X I fuel true 0 false 7 (bodyOf Try.f7) [1, 1, 1, 1, 1, 1, 0, 1, 0] n s k
noncomputable abbrev k0  (fuel : Nat) : Kont := (kAt Try.prog X I fuel true 0 false 7 (bodyOf Try.f7) [1, 1, 1, 1, 1, 1, 0, 1, 0] [] (endK Try.prog Try.f7))
noncomputable def t0 (p0 : List Int) (x0q0 : Int) : St := ⟨[.dead, .dead, .dead, (.ptr 1000000000 0 0), .dead, (.ptr 1000000001 0 0), (.imm (.int .i64 x0q0)), .dead, .dead, .dead, .dead, .dead, .dead, .dead, .dead, .dead, .dead, .dead, .dead, .dead, .dead, .dead, .dead, .dead, .dead, .dead, .dead, .dead, .dead, .dead, .dead, .dead, .dead, .dead, .dead, .dead, .dead, .dead, .dead, .dead, .dead, .dead, .dead, .dead, .dead, .dead, .dead, .dead, .dead, .dead, .dead, .dead, .dead, .dead], hOf [(1000000000, (.box [(.imm (.ints .i64 (avS (cutC p0) 0))), (.imm (.ints .i64 (avD (cutC p0) 0)))])), (1000000001, (.box [(.all 1000000002 1), (.all 1000000003 1)])), (1000000002, (.ints .i64 (soS ((uqS ((avS (cutC p0) 0)) ((avD (cutC p0) 0)))) ((uqD ((avS (cutC p0) 0)) ((avD (cutC p0) 0))))))), (1000000003, (.ints .i64 (soD ((uqS ((avS (cutC p0) 0)) ((avD (cutC p0) 0)))) ((uqD ((avS (cutC p0) 0)) ((avD (cutC p0) 0)))))))], [], []⟩
theorem e (fuel : Nat) (p0 : List Int) : runF Try.prog X I 0 fuel 7 Try.f7 [.d (.ints .u8 p0)] =
  (bif (decide ((((p0.length : Nat) : Int) : Int) > 1048576)) then
  some ([.one ((.bool true), false)], [])
  else
  (bif bytesB p0 then
  (bif decide (((avS (cutC p0) 0)).length < 9223372036854775808) && decide (((avD (cutC p0) 0)).length < 9223372036854775808) then
  (bif decide (((avS (cutC p0) 0)).length < 9223372036854775808) && decide (((avD (cutC p0) 0)).length < 9223372036854775808) then
  (bif decide (((uqS ((avS (cutC p0) 0)) ((avD (cutC p0) 0)))).length < 9223372036854775808) && decide (((uqD ((avS (cutC p0) 0)) ((avD (cutC p0) 0)))).length < 9223372036854775808) && decide (((uqS ((avS (cutC p0) 0)) ((avD (cutC p0) 0)))).length < 9223372036854775808) && decide (((uqD ((avS (cutC p0) 0)) ((avD (cutC p0) 0)))).length < 9223372036854775808) then
  (bif (!(decide (((uqS ((avS (cutC p0) 0)) ((avD (cutC p0) 0)))) = ((uqS ((avS (cutC p0) 0)) ((avD (cutC p0) 0))))) && decide (((uqD ((avS (cutC p0) 0)) ((avD (cutC p0) 0)))) = ((uqD ((avS (cutC p0) 0)) ((avD (cutC p0) 0))))))) then
  (bif decide (((avS (cutC p0) 0)).length < 9223372036854775808) && decide (((avD (cutC p0) 0)).length < 9223372036854775808) then
  (bif decide (((uqS ((avS (cutC p0) 0)) ((avD (cutC p0) 0)))).length < 9223372036854775808) && decide (((uqD ((avS (cutC p0) 0)) ((avD (cutC p0) 0)))).length < 9223372036854775808) && decide (((uqS ((avS (cutC p0) 0)) ((avD (cutC p0) 0)))).length < 9223372036854775808) && decide (((uqD ((avS (cutC p0) 0)) ((avD (cutC p0) 0)))).length < 9223372036854775808) then
  some ([.one ((.bool (decide (((uqS ((avS (cutC p0) 0)) ((avD (cutC p0) 0)))) = ((uqS ((avS (cutC p0) 0)) ((avD (cutC p0) 0))))) && decide (((uqD ((avS (cutC p0) 0)) ((avD (cutC p0) 0)))) = ((uqD ((avS (cutC p0) 0)) ((avD (cutC p0) 0))))))), false)], [])
  else
  none)
  else
  none)
  else
  (bif decide (((uqS ((avS (cutC p0) 0)) ((avD (cutC p0) 0)))).length < 9223372036854775808) && decide (((uqD ((avS (cutC p0) 0)) ((avD (cutC p0) 0)))).length < 9223372036854775808) then
  (bif (!(validA ((uqS ((avS (cutC p0) 0)) ((avD (cutC p0) 0)))) ((uqD ((avS (cutC p0) 0)) ((avD (cutC p0) 0)))))) then
  (bif decide (((avS (cutC p0) 0)).length < 9223372036854775808) && decide (((avD (cutC p0) 0)).length < 9223372036854775808) then
  (bif decide (((uqS ((avS (cutC p0) 0)) ((avD (cutC p0) 0)))).length < 9223372036854775808) && decide (((uqD ((avS (cutC p0) 0)) ((avD (cutC p0) 0)))).length < 9223372036854775808) && decide (((uqS ((avS (cutC p0) 0)) ((avD (cutC p0) 0)))).length < 9223372036854775808) && decide (((uqD ((avS (cutC p0) 0)) ((avD (cutC p0) 0)))).length < 9223372036854775808) then
  some ([.one ((.bool (decide (((uqS ((avS (cutC p0) 0)) ((avD (cutC p0) 0)))) = ((uqS ((avS (cutC p0) 0)) ((avD (cutC p0) 0))))) && decide (((uqD ((avS (cutC p0) 0)) ((avD (cutC p0) 0)))) = ((uqD ((avS (cutC p0) 0)) ((avD (cutC p0) 0))))))), false)], [])
  else
  none)
  else
  none)
  else
  (bif decide (((uqS ((avS (cutC p0) 0)) ((avD (cutC p0) 0)))).length < 9223372036854775808) && decide (((uqD ((avS (cutC p0) 0)) ((avD (cutC p0) 0)))).length < 9223372036854775808) && (!vcB ((uqS ((avS (cutC p0) 0)) ((avD (cutC p0) 0)))) ((uqD ((avS (cutC p0) 0)) ((avD (cutC p0) 0)))) || decide ((((uqD ((avS (cutC p0) 0)) ((avD (cutC p0) 0)))) : List Int).length ≤ 20)) then
  L0 fuel fuel (t0 p0 1) (k0  fuel)
  else
  none))
  else
  none))
  else
  none)
  else
  none)
  else
  none)
  else
  none)) := by kernel_rfl
theorem s0 (fuel n0 : Nat) (p0 : List Int) (x0q0 : Int) : L0 fuel (n0 + 1) (t0 p0 x0q0) (k0  fuel) =
  (bif (decide ((x0q0 : Int) < (((soD ((uqS ((avS (cutC p0) 0)) ((avD (cutC p0) 0)))) ((uqD ((avS (cutC p0) 0)) ((avD (cutC p0) 0))))).length : Nat) : Int))) then
  (idx x0q0 (soD ((uqS ((avS (cutC p0) 0)) ((avD (cutC p0) 0)))) ((uqD ((avS (cutC p0) 0)) ((avD (cutC p0) 0))))).length).bind fun j9 =>
  ((soD ((uqS ((avS (cutC p0) 0)) ((avD (cutC p0) 0)))) ((uqD ((avS (cutC p0) 0)) ((avD (cutC p0) 0)))))[j9]?).bind fun v10 =>
  (idx (IntKind.wrap .i64 (x0q0 - 1)) (soD ((uqS ((avS (cutC p0) 0)) ((avD (cutC p0) 0)))) ((uqD ((avS (cutC p0) 0)) ((avD (cutC p0) 0))))).length).bind fun j11 =>
  ((soD ((uqS ((avS (cutC p0) 0)) ((avD (cutC p0) 0)))) ((uqD ((avS (cutC p0) 0)) ((avD (cutC p0) 0)))))[j11]?).bind fun v12 =>
  (bif (decide ((v10 : Int) ≤ v12)) then
  some ([.one ((.bool false), false)], [])
  else
  L0 fuel n0 (t0 p0 ((IntKind.wrap .i64 (x0q0 + 1)))) (k0  fuel))
  else
  (bif decide (((avS (cutC p0) 0)).length < 9223372036854775808) && decide (((avD (cutC p0) 0)).length < 9223372036854775808) && (!vcB ((avS (cutC p0) 0)) ((avD (cutC p0) 0)) || decide ((((avD (cutC p0) 0)) : List Int).length ≤ 20)) then
  (bif decide (((soS ((avS (cutC p0) 0)) ((avD (cutC p0) 0)))).length < 9223372036854775808) && decide (((soD ((avS (cutC p0) 0)) ((avD (cutC p0) 0)))).length < 9223372036854775808) then
  (bif decide (((uqS ((soS ((avS (cutC p0) 0)) ((avD (cutC p0) 0)))) ((soD ((avS (cutC p0) 0)) ((avD (cutC p0) 0)))))).length < 9223372036854775808) && decide (((uqD ((soS ((avS (cutC p0) 0)) ((avD (cutC p0) 0)))) ((soD ((avS (cutC p0) 0)) ((avD (cutC p0) 0)))))).length < 9223372036854775808) && decide (((soS ((uqS ((avS (cutC p0) 0)) ((avD (cutC p0) 0)))) ((uqD ((avS (cutC p0) 0)) ((avD (cutC p0) 0)))))).length < 9223372036854775808) && decide (((soD ((uqS ((avS (cutC p0) 0)) ((avD (cutC p0) 0)))) ((uqD ((avS (cutC p0) 0)) ((avD (cutC p0) 0)))))).length < 9223372036854775808) then
  some ([.one ((.bool (decide (((uqS ((soS ((avS (cutC p0) 0)) ((avD (cutC p0) 0)))) ((soD ((avS (cutC p0) 0)) ((avD (cutC p0) 0)))))) = ((soS ((uqS ((avS (cutC p0) 0)) ((avD (cutC p0) 0)))) ((uqD ((avS (cutC p0) 0)) ((avD (cutC p0) 0))))))) && decide (((uqD ((soS ((avS (cutC p0) 0)) ((avD (cutC p0) 0)))) ((soD ((avS (cutC p0) 0)) ((avD (cutC p0) 0)))))) = ((soD ((uqS ((avS (cutC p0) 0)) ((avD (cutC p0) 0)))) ((uqD ((avS (cutC p0) 0)) ((avD (cutC p0) 0))))))))), false)], [])
  else
  none)
  else
  none)
  else
  none)) := by kernel_rfl
end laws_FnUniqueItemsSort
theorem laws_FnUniqueItemsSort.ok_of (hX : ∀ E ∈ laws_FnUniqueItemsSort.X, CallSpec Try.prog E) (h : ∀ (bs : List Int), (bytesB bs) = true → ∃ fuel, runF Try.prog laws_FnUniqueItemsSort.X laws_FnUniqueItemsSort.I 0 fuel 7 Try.f7 [.d (.ints .u8 bs)] = some ([.one ((.bool true), false)], [])) : CallSpec Try.prog laws_FnUniqueItemsSort.E :=
  callSpec_of (d := 0) hX (by kernel_rfl) laws_FnUniqueItemsSort.I_ok (by kernel_rfl) (by kernel_rfl) (by kernel_rfl) (fun _ _ _ _ h => by dsimp only [laws_FnUniqueItemsSort.E] at h; cases h) (fun xs hp => by
    dsimp only [laws_FnUniqueItemsSort.E] at hp ⊢
    split at hp
    · exact h _ hp
    · cases hp)
theorem laws_FnUniqueItemsSort.ok : CallSpec Try.prog laws_FnUniqueItemsSort.E := laws_FnUniqueItemsSort.ok_of (by simp [laws_FnUniqueItemsSort.X, spec_DrawUniqueItems.ok, impl_UniqueItems.ok, spec_UniqueItems.ok, laws_equalArray.ok, impl_ValidArray.ok, impl_SortArray.ok]) fun bs h => by
  obtain ⟨F, hF⟩ : ∃ F : Nat, 4000 < F := ⟨4001, by omega⟩
  refine ⟨F, ?_⟩
  rw [laws_FnUniqueItemsSort.e]
  by_cases hl : ((bs.length : Nat) : Int) > 1048576
  · rw [decide_eq_true hl]; rfl
  rw [decide_eq_false hl, cond_false, h, cond_true]
  have r0 := cut_ok h (p := 0) (by omega) (by omega)
  obtain ⟨a1, a2, _, _⟩ := av_bd r0 (by omega)
  have h20 : vcB (avS (cutC bs) 0) (avD (cutC bs) 0) = true → (avD (cutC bs) 0).length ≤ 20 := fun hb => av_small r0 hb
  obtain ⟨sh, hsh⟩ : ∃ x, avS (cutC bs) 0 = x := ⟨_, rfl⟩
  obtain ⟨da, hda⟩ : ∃ x, avD (cutC bs) 0 = x := ⟨_, rfl⟩
  rw [hsh] at a1
  rw [hda] at a2
  rw [hsh, hda] at h20
  have g1 := lt_of (xs := sh) (by omega)
  have g2 := lt_of (xs := da) (by omega)
  have q1 : ∀ n : Nat, decide (([(n : Int)] : List Int).length < 9223372036854775808) = true := fun n => rfl
  simp only [hsh, hda]
  cases hb : vcB sh da with
  | false =>
    have e0 : uqS sh da = [] := by simp only [uqS, hb, cond_false]
    have e1 : uqD sh da = [] := by simp only [uqD, hb, cond_false]
    have g0 : decide (([] : List Int).length < 9223372036854775808) = true := rfl
    have hv0 : validA [] [] = false := rfl
    simp only [Bool.and_self, Bool.and_true, Bool.true_and, cond_true, cond_false, Bool.not_true, Bool.not_false, bne_self_eq_false, beq_self_eq_true, decide_true, eq_self, g1, g2, e0, e1, g0, hv0]
  | true =>
    obtain ⟨hv, hs, hl60, hal⟩ := vcB_inv hb
    obtain ⟨e0, e1, hvo, hul⟩ := uq_facts hb
    have hvu := validA_vec hvo
    have g3 := lt_of (xs := uqC da da.length) (by omega)
    have h2 := decide_eq_true (h20 hb)
    have hu := uqC_len da da.length
    have h3 : decide ((uqC da da.length).length ≤ 20) = true := decide_eq_true (by have := h20 hb; omega)
    have hvc := vcB_vec hb
    have u1 := vcB_of hvo
    have hnd := uq_nodup (uq_fresh da da.length)
    obtain ⟨s0, s1, _⟩ := so_facts u1
    have hsl := so_len (uqC da da.length)
    simp only [Bool.and_self, Bool.and_true, Bool.true_and, cond_true, cond_false, Bool.not_true, Bool.not_false, bne_self_eq_false, beq_self_eq_true, decide_true, eq_self, Bool.true_or, Bool.false_or, Bool.or_true, h2, h3, g1, g2, g3, q1, e0, e1, hvu, u1]
    have hfin : ∀ m i : Nat, (uqC da da.length).length ≤ i → laws_FnUniqueItemsSort.L0 F (m + 1) (laws_FnUniqueItemsSort.t0 bs (i : Int)) (laws_FnUniqueItemsSort.k0 F) = some ([.one ((.bool true), false)], []) := by
      intro m i hi
      obtain ⟨t0, t1, _⟩ := so_facts hb
      have u2 := so_two hvc
      obtain ⟨x0, x1, _, _⟩ := uq_facts u2
      rw [so_uq] at x0 x1
      rw [hsl] at x0
      have g4 := lt_of (xs := soL' da) (by rw [so_len]; omega)
      have g5 := lt_of (xs := soL' (uqC da da.length)) (by rw [so_len]; omega)
      rw [laws_FnUniqueItemsSort.s0]
      simp only [hsh, hda, e0, e1, s0, s1, hsl]
      rw [dge (by omega)]
      simp only [Bool.and_self, Bool.and_true, Bool.true_and, cond_true, cond_false, Bool.not_true, Bool.not_false, bne_self_eq_false, beq_self_eq_true, decide_true, eq_self, Bool.true_or, Bool.false_or, h2, h3, hb, g1, g2, g3, g4, g5, q1, t0, t1, x0, x1]
    by_cases hz : (uqC da da.length).length = 0
    · obtain ⟨f, rfl⟩ : ∃ f, F = f + 1 := ⟨F - 1, by omega⟩
      exact hfin f 1 (by omega)
    · refine run_loop (N := (uqC da da.length).length) (fun m i (_ : Unit) => laws_FnUniqueItemsSort.L0 F m (laws_FnUniqueItemsSort.t0 bs (i : Int)) (laws_FnUniqueItemsSort.k0 F)) (fun i _ => 1 ≤ i) ?_ ?_ F 1 () (by omega) (by omega) (by omega)
      · intro m _ _
        exact hfin m _ (by omega)
      · intro m i _ hi h1
        refine ⟨(), by omega, ?_⟩
        have hp := pair_get (so_lt hnd) (i := i - 1) (j := i) (by omega) (by omega)
        have q2 : (soL' (uqC da da.length))[i]? = some ((soL' (uqC da da.length)).getD i 0) := getD_get (by omega)
        have q3 : (soL' (uqC da da.length))[i - 1]? = some ((soL' (uqC da da.length)).getD (i - 1) 0) := getD_get (by omega)
        rw [laws_FnUniqueItemsSort.s0]
        simp only [hsh, hda, e0, e1, s0, s1, hsl]
        rw [dlt hi, cond_true, idx_nat hi, w1 (by omega), wS (x := (i : Int) - 1) (by omega) (by omega), show (i : Int) - 1 = ((i - 1 : Nat) : Int) by omega, idx_nat (show i - 1 < (uqC da da.length).length by omega)]
        simp only [Option.bind_some, q2, q3]
        rw [decide_eq_false (by omega), cond_false]

namespace impl_limited
noncomputable def E : Entry := ⟨68, true, false, fun | [.d (.int .i64 n)] => true | _ => false, fun | [.d (.int .i64 n)] => ([.one ((.int .i64 (limV n)), false)], []) | _ => ([], []), fun _ => [], false, fun _ => none⟩
end impl_limited
namespace impl_limited
noncomputable def X : List Entry := []
noncomputable def I : List Inl := [⟨68, Try.f68, ⟨[], [], [], [], [], []⟩⟩]
theorem I_ok : ∀ i ∈ I, Try.prog.funcs[i.f]? = some i.fn ∧ (i.fn.name == "runtime.NumGoroutine") = false := by
  intro i hi
  simp only [I, List.mem_cons, List.not_mem_nil, or_false] at hi
  subst hi
  exact ⟨by kernel_rfl, by kernel_rfl⟩
theorem e (fuel : Nat) (p0 : Int) : runF Try.prog X I 0 fuel 68 Try.f68 [.d (.int .i64 p0)] =
  some ([.one ((.int .i64 (minI (maxI p0 (-1000000)) 1000000)), false)], []) := by kernel_rfl
end impl_limited
theorem impl_limited.ok_of (hX : ∀ E ∈ impl_limited.X, CallSpec Try.prog E) (h : ∀ (n : Int), (true) = true → ∃ fuel, runF Try.prog impl_limited.X impl_limited.I 0 fuel 68 Try.f68 [.d (.int .i64 n)] = some ([.one ((.int .i64 (limV n)), false)], [])) : CallSpec Try.prog impl_limited.E :=
  callSpec_of (d := 0) hX (by kernel_rfl) impl_limited.I_ok (by kernel_rfl) (by kernel_rfl) (by kernel_rfl) (fun _ _ _ _ h => by dsimp only [impl_limited.E] at h; cases h) (fun xs hp => by
    dsimp only [impl_limited.E] at hp ⊢
    split at hp
    · exact h _ hp
    · cases hp)
theorem impl_limited.ok : CallSpec Try.prog impl_limited.E := impl_limited.ok_of (by simp [impl_limited.X]) fun n _ => ⟨0, by rw [impl_limited.e]; rfl⟩

namespace impl_functionOfTwo_1
noncomputable def E : Entry := ⟨67, true, false, fun | [.d (.int .i64 a), .d (.int .i64 b)] => true | _ => false, fun | [.d (.int .i64 a), .d (.int .i64 b)] => ([.one ((.int .i64 (limV (IntKind.wrap .i64 (a + b)))), false)], []) | _ => ([], []), fun _ => [], false, fun | [] => some (false, q2, (q2v (operF 1))) | _ => none⟩
end impl_functionOfTwo_1
namespace impl_functionOfTwo_1
noncomputable def X : List Entry := [impl_limited.E]
noncomputable def I : List Inl := [⟨67, Try.f67, ⟨[], [], [], [], [], []⟩⟩]
theorem I_ok : ∀ i ∈ I, Try.prog.funcs[i.f]? = some i.fn ∧ (i.fn.name == "runtime.NumGoroutine") = false := by
  intro i hi
  simp only [I, List.mem_cons, List.not_mem_nil, or_false] at hi
  subst hi
  exact ⟨by kernel_rfl, by kernel_rfl⟩
theorem e (fuel : Nat) (p0 : Int) (p1 : Int) : runF Try.prog X I 0 fuel 67 Try.f67 [.d (.int .i64 p0), .d (.int .i64 p1)] =
  some ([.one ((.int .i64 (limV ((IntKind.wrap .i64 (p0 + p1))))), false)], []) := by kernel_rfl
end impl_functionOfTwo_1
theorem impl_functionOfTwo_1.ok_of (hX : ∀ E ∈ impl_functionOfTwo_1.X, CallSpec Try.prog E) (hfn : ∀ ds rb dom G, impl_functionOfTwo_1.E.fnOf ds = some (rb, dom, G) → ∀ qs, dom qs = true → impl_functionOfTwo_1.E.m ((qs.map fun q => .d q.d) ++ ds.map .d) = some ([.one (fnD rb (G qs), false)], [])) (h : ∀ (a : Int) (b : Int), (true) = true → ∃ fuel, runF Try.prog impl_functionOfTwo_1.X impl_functionOfTwo_1.I 0 fuel 67 Try.f67 [.d (.int .i64 a), .d (.int .i64 b)] = some ([.one ((.int .i64 (limV (IntKind.wrap .i64 (a + b)))), false)], [])) : CallSpec Try.prog impl_functionOfTwo_1.E :=
  callSpec_of (d := 0) hX (by kernel_rfl) impl_functionOfTwo_1.I_ok (by kernel_rfl) (by kernel_rfl) (by kernel_rfl) hfn (fun xs hp => by
    dsimp only [impl_functionOfTwo_1.E] at hp ⊢
    split at hp
    · exact h _ _ hp
    · cases hp)
theorem impl_functionOfTwo_1.ok : CallSpec Try.prog impl_functionOfTwo_1.E := impl_functionOfTwo_1.ok_of (by simp [impl_functionOfTwo_1.X, impl_limited.ok]) (fun ds rb dom G h qs hq => by
  dsimp only [impl_functionOfTwo_1.E] at h
  split at h
  case h_2 => cases h
  cases h
  match qs, hq with
  | [.i a, .i b], _ => rfl) fun a b _ => ⟨0, by rw [impl_functionOfTwo_1.e]⟩

namespace impl_functionOfTwo_2
noncomputable def E : Entry := ⟨69, true, false, fun | [.d (.int .i64 a), .d (.int .i64 b)] => true | _ => false, fun | [.d (.int .i64 a), .d (.int .i64 b)] => ([.one ((.int .i64 (limV (IntKind.wrap .i64 (a - b)))), false)], []) | _ => ([], []), fun _ => [], false, fun | [] => some (false, q2, (q2v (operF 2))) | _ => none⟩
end impl_functionOfTwo_2
namespace impl_functionOfTwo_2
noncomputable def X : List Entry := [impl_limited.E]
noncomputable def I : List Inl := [⟨69, Try.f69, ⟨[], [], [], [], [], []⟩⟩]
theorem I_ok : ∀ i ∈ I, Try.prog.funcs[i.f]? = some i.fn ∧ (i.fn.name == "runtime.NumGoroutine") = false := by
  intro i hi
  simp only [I, List.mem_cons, List.not_mem_nil, or_false] at hi
  subst hi
  exact ⟨by kernel_rfl, by kernel_rfl⟩
theorem e (fuel : Nat) (p0 : Int) (p1 : Int) : runF Try.prog X I 0 fuel 69 Try.f69 [.d (.int .i64 p0), .d (.int .i64 p1)] =
  some ([.one ((.int .i64 (limV ((IntKind.wrap .i64 (p0 - p1))))), false)], []) := by kernel_rfl
end impl_functionOfTwo_2
theorem impl_functionOfTwo_2.ok_of (hX : ∀ E ∈ impl_functionOfTwo_2.X, CallSpec Try.prog E) (hfn : ∀ ds rb dom G, impl_functionOfTwo_2.E.fnOf ds = some (rb, dom, G) → ∀ qs, dom qs = true → impl_functionOfTwo_2.E.m ((qs.map fun q => .d q.d) ++ ds.map .d) = some ([.one (fnD rb (G qs), false)], [])) (h : ∀ (a : Int) (b : Int), (true) = true → ∃ fuel, runF Try.prog impl_functionOfTwo_2.X impl_functionOfTwo_2.I 0 fuel 69 Try.f69 [.d (.int .i64 a), .d (.int .i64 b)] = some ([.one ((.int .i64 (limV (IntKind.wrap .i64 (a - b)))), false)], [])) : CallSpec Try.prog impl_functionOfTwo_2.E :=
  callSpec_of (d := 0) hX (by kernel_rfl) impl_functionOfTwo_2.I_ok (by kernel_rfl) (by kernel_rfl) (by kernel_rfl) hfn (fun xs hp => by
    dsimp only [impl_functionOfTwo_2.E] at hp ⊢
    split at hp
    · exact h _ _ hp
    · cases hp)
theorem impl_functionOfTwo_2.ok : CallSpec Try.prog impl_functionOfTwo_2.E := impl_functionOfTwo_2.ok_of (by simp [impl_functionOfTwo_2.X, impl_limited.ok]) (fun ds rb dom G h qs hq => by
  dsimp only [impl_functionOfTwo_2.E] at h
  split at h
  case h_2 => cases h
  cases h
  match qs, hq with
  | [.i a, .i b], _ => rfl) fun a b _ => ⟨0, by rw [impl_functionOfTwo_2.e]⟩

namespace impl_functionOfTwo_3
noncomputable def E : Entry := ⟨70, true, false, fun | [.d (.int .i64 a), .d (.int .i64 b)] => true | _ => false, fun | [.d (.int .i64 a), .d (.int .i64 b)] => ([.one ((.int .i64 (limV (IntKind.wrap .i64 (a * b)))), false)], []) | _ => ([], []), fun _ => [], false, fun | [] => some (false, q2, (q2v (operF 3))) | _ => none⟩
end impl_functionOfTwo_3
namespace impl_functionOfTwo_3
noncomputable def X : List Entry := [impl_limited.E]
noncomputable def I : List Inl := [⟨70, Try.f70, ⟨[], [], [], [], [], []⟩⟩]
theorem I_ok : ∀ i ∈ I, Try.prog.funcs[i.f]? = some i.fn ∧ (i.fn.name == "runtime.NumGoroutine") = false := by
  intro i hi
  simp only [I, List.mem_cons, List.not_mem_nil, or_false] at hi
  subst hi
  exact ⟨by kernel_rfl, by kernel_rfl⟩
theorem e (fuel : Nat) (p0 : Int) (p1 : Int) : runF Try.prog X I 0 fuel 70 Try.f70 [.d (.int .i64 p0), .d (.int .i64 p1)] =
  some ([.one ((.int .i64 (limV ((IntKind.wrap .i64 (p0 * p1))))), false)], []) := by kernel_rfl
end impl_functionOfTwo_3
theorem impl_functionOfTwo_3.ok_of (hX : ∀ E ∈ impl_functionOfTwo_3.X, CallSpec Try.prog E) (hfn : ∀ ds rb dom G, impl_functionOfTwo_3.E.fnOf ds = some (rb, dom, G) → ∀ qs, dom qs = true → impl_functionOfTwo_3.E.m ((qs.map fun q => .d q.d) ++ ds.map .d) = some ([.one (fnD rb (G qs), false)], [])) (h : ∀ (a : Int) (b : Int), (true) = true → ∃ fuel, runF Try.prog impl_functionOfTwo_3.X impl_functionOfTwo_3.I 0 fuel 70 Try.f70 [.d (.int .i64 a), .d (.int .i64 b)] = some ([.one ((.int .i64 (limV (IntKind.wrap .i64 (a * b)))), false)], [])) : CallSpec Try.prog impl_functionOfTwo_3.E :=
  callSpec_of (d := 0) hX (by kernel_rfl) impl_functionOfTwo_3.I_ok (by kernel_rfl) (by kernel_rfl) (by kernel_rfl) hfn (fun xs hp => by
    dsimp only [impl_functionOfTwo_3.E] at hp ⊢
    split at hp
    · exact h _ _ hp
    · cases hp)
theorem impl_functionOfTwo_3.ok : CallSpec Try.prog impl_functionOfTwo_3.E := impl_functionOfTwo_3.ok_of (by simp [impl_functionOfTwo_3.X, impl_limited.ok]) (fun ds rb dom G h qs hq => by
  dsimp only [impl_functionOfTwo_3.E] at h
  split at h
  case h_2 => cases h
  cases h
  match qs, hq with
  | [.i a, .i b], _ => rfl) fun a b _ => ⟨0, by rw [impl_functionOfTwo_3.e]⟩

namespace impl_functionOfTwo_4
noncomputable def E : Entry := ⟨71, true, false, fun | [.d (.int .i64 a), .d (.int .i64 b)] => true | _ => false, fun | [.d (.int .i64 a), .d (.int .i64 b)] => ([.one ((.int .i64 (minI a b)), false)], []) | _ => ([], []), fun _ => [], false, fun | [] => some (false, q2, (q2v (operF 4))) | _ => none⟩
end impl_functionOfTwo_4
namespace impl_functionOfTwo_4
noncomputable def X : List Entry := []
noncomputable def I : List Inl := [⟨71, Try.f71, ⟨[], [], [], [], [], []⟩⟩]
theorem I_ok : ∀ i ∈ I, Try.prog.funcs[i.f]? = some i.fn ∧ (i.fn.name == "runtime.NumGoroutine") = false := by
  intro i hi
  simp only [I, List.mem_cons, List.not_mem_nil, or_false] at hi
  subst hi
  exact ⟨by kernel_rfl, by kernel_rfl⟩
theorem e (fuel : Nat) (p0 : Int) (p1 : Int) : runF Try.prog X I 0 fuel 71 Try.f71 [.d (.int .i64 p0), .d (.int .i64 p1)] =
  some ([.one ((.int .i64 (minI p0 p1)), false)], []) := by kernel_rfl
end impl_functionOfTwo_4
theorem impl_functionOfTwo_4.ok_of (hX : ∀ E ∈ impl_functionOfTwo_4.X, CallSpec Try.prog E) (hfn : ∀ ds rb dom G, impl_functionOfTwo_4.E.fnOf ds = some (rb, dom, G) → ∀ qs, dom qs = true → impl_functionOfTwo_4.E.m ((qs.map fun q => .d q.d) ++ ds.map .d) = some ([.one (fnD rb (G qs), false)], [])) (h : ∀ (a : Int) (b : Int), (true) = true → ∃ fuel, runF Try.prog impl_functionOfTwo_4.X impl_functionOfTwo_4.I 0 fuel 71 Try.f71 [.d (.int .i64 a), .d (.int .i64 b)] = some ([.one ((.int .i64 (minI a b)), false)], [])) : CallSpec Try.prog impl_functionOfTwo_4.E :=
  callSpec_of (d := 0) hX (by kernel_rfl) impl_functionOfTwo_4.I_ok (by kernel_rfl) (by kernel_rfl) (by kernel_rfl) hfn (fun xs hp => by
    dsimp only [impl_functionOfTwo_4.E] at hp ⊢
    split at hp
    · exact h _ _ hp
    · cases hp)
theorem impl_functionOfTwo_4.ok : CallSpec Try.prog impl_functionOfTwo_4.E := impl_functionOfTwo_4.ok_of (by simp [impl_functionOfTwo_4.X]) (fun ds rb dom G h qs hq => by
  dsimp only [impl_functionOfTwo_4.E] at h
  split at h
  case h_2 => cases h
  cases h
  match qs, hq with
  | [.i a, .i b], _ => rfl) fun a b _ => ⟨0, by rw [impl_functionOfTwo_4.e]⟩

namespace impl_functionOfTwo_5
noncomputable def E : Entry := ⟨72, true, false, fun | [.d (.int .i64 a), .d (.int .i64 b)] => true | _ => false, fun | [.d (.int .i64 a), .d (.int .i64 b)] => ([.one ((.int .i64 (maxI a b)), false)], []) | _ => ([], []), fun _ => [], false, fun | [] => some (false, q2, (q2v (operF 5))) | _ => none⟩
end impl_functionOfTwo_5
namespace impl_functionOfTwo_5
noncomputable def X : List Entry := []
noncomputable def I : List Inl := [⟨72, Try.f72, ⟨[], [], [], [], [], []⟩⟩]
theorem I_ok : ∀ i ∈ I, Try.prog.funcs[i.f]? = some i.fn ∧ (i.fn.name == "runtime.NumGoroutine") = false := by
  intro i hi
  simp only [I, List.mem_cons, List.not_mem_nil, or_false] at hi
  subst hi
  exact ⟨by kernel_rfl, by kernel_rfl⟩
theorem e (fuel : Nat) (p0 : Int) (p1 : Int) : runF Try.prog X I 0 fuel 72 Try.f72 [.d (.int .i64 p0), .d (.int .i64 p1)] =
  some ([.one ((.int .i64 (maxI p0 p1)), false)], []) := by kernel_rfl
end impl_functionOfTwo_5
theorem impl_functionOfTwo_5.ok_of (hX : ∀ E ∈ impl_functionOfTwo_5.X, CallSpec Try.prog E) (hfn : ∀ ds rb dom G, impl_functionOfTwo_5.E.fnOf ds = some (rb, dom, G) → ∀ qs, dom qs = true → impl_functionOfTwo_5.E.m ((qs.map fun q => .d q.d) ++ ds.map .d) = some ([.one (fnD rb (G qs), false)], [])) (h : ∀ (a : Int) (b : Int), (true) = true → ∃ fuel, runF Try.prog impl_functionOfTwo_5.X impl_functionOfTwo_5.I 0 fuel 72 Try.f72 [.d (.int .i64 a), .d (.int .i64 b)] = some ([.one ((.int .i64 (maxI a b)), false)], [])) : CallSpec Try.prog impl_functionOfTwo_5.E :=
  callSpec_of (d := 0) hX (by kernel_rfl) impl_functionOfTwo_5.I_ok (by kernel_rfl) (by kernel_rfl) (by kernel_rfl) hfn (fun xs hp => by
    dsimp only [impl_functionOfTwo_5.E] at hp ⊢
    split at hp
    · exact h _ _ hp
    · cases hp)
theorem impl_functionOfTwo_5.ok : CallSpec Try.prog impl_functionOfTwo_5.E := impl_functionOfTwo_5.ok_of (by simp [impl_functionOfTwo_5.X]) (fun ds rb dom G h qs hq => by
  dsimp only [impl_functionOfTwo_5.E] at h
  split at h
  case h_2 => cases h
  cases h
  match qs, hq with
  | [.i a, .i b], _ => rfl) fun a b _ => ⟨0, by rw [impl_functionOfTwo_5.e]⟩

namespace impl_truth
noncomputable def E : Entry := ⟨74, true, false, fun | [.d (.bool b)] => true | _ => false, fun | [.d (.bool b)] => ([.one ((.int .i64 (tInt b)), false)], []) | _ => ([], []), fun _ => [], false, fun _ => none⟩
end impl_truth
namespace impl_truth
noncomputable def X : List Entry := []
noncomputable def I : List Inl := [⟨74, Try.f74, ⟨[], [], [], [], [], []⟩⟩]
theorem I_ok : ∀ i ∈ I, Try.prog.funcs[i.f]? = some i.fn ∧ (i.fn.name == "runtime.NumGoroutine") = false := by
  intro i hi
  simp only [I, List.mem_cons, List.not_mem_nil, or_false] at hi
  subst hi
  exact ⟨by kernel_rfl, by kernel_rfl⟩
theorem e (fuel : Nat) (p0 : Bool) : runF Try.prog X I 0 fuel 74 Try.f74 [.d (.bool p0)] =
  (bif p0 then
  some ([.one ((.int .i64 1), false)], [])
  else
  some ([.one ((.int .i64 0), false)], [])) := by kernel_rfl
end impl_truth
theorem impl_truth.ok_of (hX : ∀ E ∈ impl_truth.X, CallSpec Try.prog E) (h : ∀ (b : Bool), (true) = true → ∃ fuel, runF Try.prog impl_truth.X impl_truth.I 0 fuel 74 Try.f74 [.d (.bool b)] = some ([.one ((.int .i64 (tInt b)), false)], [])) : CallSpec Try.prog impl_truth.E :=
  callSpec_of (d := 0) hX (by kernel_rfl) impl_truth.I_ok (by kernel_rfl) (by kernel_rfl) (by kernel_rfl) (fun _ _ _ _ h => by dsimp only [impl_truth.E] at h; cases h) (fun xs hp => by
    dsimp only [impl_truth.E] at hp ⊢
    split at hp
    · exact h _ hp
    · cases hp)
theorem impl_truth.ok : CallSpec Try.prog impl_truth.E := impl_truth.ok_of (by simp [impl_truth.X]) fun b _ => ⟨0, by rw [impl_truth.e]; cases b <;> rfl⟩

namespace impl_functionOfTwo_6
noncomputable def E : Entry := ⟨73, true, false, fun | [.d (.int .i64 a), .d (.int .i64 b)] => true | _ => false, fun | [.d (.int .i64 a), .d (.int .i64 b)] => ([.one ((.int .i64 (tInt (a == b))), false)], []) | _ => ([], []), fun _ => [], false, fun | [] => some (false, q2, (q2v (operF 6))) | _ => none⟩
end impl_functionOfTwo_6
namespace impl_functionOfTwo_6
noncomputable def X : List Entry := [impl_truth.E]
noncomputable def I : List Inl := [⟨73, Try.f73, ⟨[], [], [], [], [], []⟩⟩]
theorem I_ok : ∀ i ∈ I, Try.prog.funcs[i.f]? = some i.fn ∧ (i.fn.name == "runtime.NumGoroutine") = false := by
  intro i hi
  simp only [I, List.mem_cons, List.not_mem_nil, or_false] at hi
  subst hi
  exact ⟨by kernel_rfl, by kernel_rfl⟩
theorem e (fuel : Nat) (p0 : Int) (p1 : Int) : runF Try.prog X I 0 fuel 73 Try.f73 [.d (.int .i64 p0), .d (.int .i64 p1)] =
  some ([.one ((.int .i64 (tInt (((p0 : Int) == p1)))), false)], []) := by kernel_rfl
end impl_functionOfTwo_6
theorem impl_functionOfTwo_6.ok_of (hX : ∀ E ∈ impl_functionOfTwo_6.X, CallSpec Try.prog E) (hfn : ∀ ds rb dom G, impl_functionOfTwo_6.E.fnOf ds = some (rb, dom, G) → ∀ qs, dom qs = true → impl_functionOfTwo_6.E.m ((qs.map fun q => .d q.d) ++ ds.map .d) = some ([.one (fnD rb (G qs), false)], [])) (h : ∀ (a : Int) (b : Int), (true) = true → ∃ fuel, runF Try.prog impl_functionOfTwo_6.X impl_functionOfTwo_6.I 0 fuel 73 Try.f73 [.d (.int .i64 a), .d (.int .i64 b)] = some ([.one ((.int .i64 (tInt (a == b))), false)], [])) : CallSpec Try.prog impl_functionOfTwo_6.E :=
  callSpec_of (d := 0) hX (by kernel_rfl) impl_functionOfTwo_6.I_ok (by kernel_rfl) (by kernel_rfl) (by kernel_rfl) hfn (fun xs hp => by
    dsimp only [impl_functionOfTwo_6.E] at hp ⊢
    split at hp
    · exact h _ _ hp
    · cases hp)
theorem impl_functionOfTwo_6.ok : CallSpec Try.prog impl_functionOfTwo_6.E := impl_functionOfTwo_6.ok_of (by simp [impl_functionOfTwo_6.X, impl_truth.ok]) (fun ds rb dom G h qs hq => by
  dsimp only [impl_functionOfTwo_6.E] at h
  split at h
  case h_2 => cases h
  cases h
  match qs, hq with
  | [.i a, .i b], _ => rfl) fun a b _ => ⟨0, by rw [impl_functionOfTwo_6.e]⟩

namespace impl_functionOfTwo_7
noncomputable def E : Entry := ⟨75, true, false, fun | [.d (.int .i64 a), .d (.int .i64 b)] => true | _ => false, fun | [.d (.int .i64 a), .d (.int .i64 b)] => ([.one ((.int .i64 (tInt (decide (a < b)))), false)], []) | _ => ([], []), fun _ => [], false, fun | [] => some (false, q2, (q2v (operF 7))) | _ => none⟩
end impl_functionOfTwo_7
namespace impl_functionOfTwo_7
noncomputable def X : List Entry := [impl_truth.E]
noncomputable def I : List Inl := [⟨75, Try.f75, ⟨[], [], [], [], [], []⟩⟩]
theorem I_ok : ∀ i ∈ I, Try.prog.funcs[i.f]? = some i.fn ∧ (i.fn.name == "runtime.NumGoroutine") = false := by
  intro i hi
  simp only [I, List.mem_cons, List.not_mem_nil, or_false] at hi
  subst hi
  exact ⟨by kernel_rfl, by kernel_rfl⟩
theorem e (fuel : Nat) (p0 : Int) (p1 : Int) : runF Try.prog X I 0 fuel 75 Try.f75 [.d (.int .i64 p0), .d (.int .i64 p1)] =
  some ([.one ((.int .i64 (tInt ((decide ((p0 : Int) < p1))))), false)], []) := by kernel_rfl
end impl_functionOfTwo_7
theorem impl_functionOfTwo_7.ok_of (hX : ∀ E ∈ impl_functionOfTwo_7.X, CallSpec Try.prog E) (hfn : ∀ ds rb dom G, impl_functionOfTwo_7.E.fnOf ds = some (rb, dom, G) → ∀ qs, dom qs = true → impl_functionOfTwo_7.E.m ((qs.map fun q => .d q.d) ++ ds.map .d) = some ([.one (fnD rb (G qs), false)], [])) (h : ∀ (a : Int) (b : Int), (true) = true → ∃ fuel, runF Try.prog impl_functionOfTwo_7.X impl_functionOfTwo_7.I 0 fuel 75 Try.f75 [.d (.int .i64 a), .d (.int .i64 b)] = some ([.one ((.int .i64 (tInt (decide (a < b)))), false)], [])) : CallSpec Try.prog impl_functionOfTwo_7.E :=
  callSpec_of (d := 0) hX (by kernel_rfl) impl_functionOfTwo_7.I_ok (by kernel_rfl) (by kernel_rfl) (by kernel_rfl) hfn (fun xs hp => by
    dsimp only [impl_functionOfTwo_7.E] at hp ⊢
    split at hp
    · exact h _ _ hp
    · cases hp)
theorem impl_functionOfTwo_7.ok : CallSpec Try.prog impl_functionOfTwo_7.E := impl_functionOfTwo_7.ok_of (by simp [impl_functionOfTwo_7.X, impl_truth.ok]) (fun ds rb dom G h qs hq => by
  dsimp only [impl_functionOfTwo_7.E] at h
  split at h
  case h_2 => cases h
  cases h
  match qs, hq with
  | [.i a, .i b], _ => rfl) fun a b _ => ⟨0, by rw [impl_functionOfTwo_7.e]⟩

namespace impl_restOf
noncomputable def E : Entry := ⟨76, true, false, fun | [.d (.int .i64 d), .d (.int .i64 n)] => true | _ => false, fun | [.d (.int .i64 d), .d (.int .i64 n)] => ([.one ((.int .i64 (restV d n)), false)], []) | _ => ([], []), fun _ => [], false, fun | [] => some (false, q2, (q2v (operF 8))) | _ => none⟩
end impl_restOf
namespace impl_restOf
noncomputable def X : List Entry := []
noncomputable def I : List Inl := [⟨76, Try.f76, ⟨[], [], [], [], [], []⟩⟩]
theorem I_ok : ∀ i ∈ I, Try.prog.funcs[i.f]? = some i.fn ∧ (i.fn.name == "runtime.NumGoroutine") = false := by
  intro i hi
  simp only [I, List.mem_cons, List.not_mem_nil, or_false] at hi
  subst hi
  exact ⟨by kernel_rfl, by kernel_rfl⟩
theorem e (fuel : Nat) (p0 : Int) (p1 : Int) : runF Try.prog X I 0 fuel 76 Try.f76 [.d (.int .i64 p0), .d (.int .i64 p1)] =
  (bif (decide ((p0 : Int) ≤ 0)) then
  some ([.one ((.int .i64 p1), false)], [])
  else
  (bif decide ((p0 : Int) = 0) then
  none
  else
  (bif decide ((p0 : Int) = 0) then
  none
  else
  some ([.one ((.int .i64 (Int.tmod (IntKind.wrap .i64 ((Int.tmod p1 p0) + p0)) p0)), false)], [])))) := by kernel_rfl
end impl_restOf
theorem impl_restOf.ok_of (hX : ∀ E ∈ impl_restOf.X, CallSpec Try.prog E) (hfn : ∀ ds rb dom G, impl_restOf.E.fnOf ds = some (rb, dom, G) → ∀ qs, dom qs = true → impl_restOf.E.m ((qs.map fun q => .d q.d) ++ ds.map .d) = some ([.one (fnD rb (G qs), false)], [])) (h : ∀ (d : Int) (n : Int), (true) = true → ∃ fuel, runF Try.prog impl_restOf.X impl_restOf.I 0 fuel 76 Try.f76 [.d (.int .i64 d), .d (.int .i64 n)] = some ([.one ((.int .i64 (restV d n)), false)], [])) : CallSpec Try.prog impl_restOf.E :=
  callSpec_of (d := 0) hX (by kernel_rfl) impl_restOf.I_ok (by kernel_rfl) (by kernel_rfl) (by kernel_rfl) hfn (fun xs hp => by
    dsimp only [impl_restOf.E] at hp ⊢
    split at hp
    · exact h _ _ hp
    · cases hp)
theorem impl_restOf.ok : CallSpec Try.prog impl_restOf.E := impl_restOf.ok_of (by simp [impl_restOf.X]) (fun ds rb dom G h qs hq => by
  dsimp only [impl_restOf.E] at h
  split at h
  case h_2 => cases h
  cases h
  match qs, hq with
  | [.i a, .i b], _ => rfl) fun d n _ => ⟨0, by
  rw [impl_restOf.e]
  unfold restV
  by_cases h : d ≤ 0
  · rw [decide_eq_true h]; rfl
  · rw [decide_eq_false h, decide_eq_false (p := d = 0) (by omega)]; rfl⟩

namespace impl_functionOfTwo
noncomputable def E : Entry := ⟨54, true, false, fun | [.d (.int .i64 op)] => true | _ => false, fun | [.d (.int .i64 op)] => ([.one (.nilf, false)], []) | _ => ([], []), fun | [.d (.int .i64 op)] => [(decide (op = 1), ([.one ((.clo 67 []), false)], [])), (decide (op = 2), ([.one ((.clo 69 []), false)], [])), (decide (op = 3), ([.one ((.clo 70 []), false)], [])), (decide (op = 4), ([.one ((.clo 71 []), false)], [])), (decide (op = 5), ([.one ((.clo 72 []), false)], [])), (decide (op = 6), ([.one ((.clo 73 []), false)], [])), (decide (op = 7), ([.one ((.clo 75 []), false)], [])), (decide (op = 8), ([.one ((.clo 76 []), false)], []))] | _ => [], false, fun _ => none⟩
end impl_functionOfTwo
namespace impl_functionOfTwo
noncomputable def X : List Entry := []
noncomputable def I : List Inl := [⟨54, Try.f54, ⟨[], [], [], [], [], []⟩⟩]
theorem I_ok : ∀ i ∈ I, Try.prog.funcs[i.f]? = some i.fn ∧ (i.fn.name == "runtime.NumGoroutine") = false := by
  intro i hi
  simp only [I, List.mem_cons, List.not_mem_nil, or_false] at hi
  subst hi
  exact ⟨by kernel_rfl, by kernel_rfl⟩
theorem e (fuel : Nat) (p0 : Int) : runF Try.prog X I 0 fuel 54 Try.f54 [.d (.int .i64 p0)] =
  (bif (decide ((p0 : Int) < 0)) then
  some ([.one (.nilf, false)], [])
  else
  (bif (decide ((p0 : Int) ≥ 9)) then
  some ([.one (.nilf, false)], [])
  else
  (bif decide (p0 = ((0 : Nat) : Int)) then
  some ([.one (.nilf, false)], [])
  else
  (bif decide (p0 = ((1 : Nat) : Int)) then
  some ([.one ((.clo 67 []), false)], [])
  else
  (bif decide (p0 = ((2 : Nat) : Int)) then
  some ([.one ((.clo 69 []), false)], [])
  else
  (bif decide (p0 = ((3 : Nat) : Int)) then
  some ([.one ((.clo 70 []), false)], [])
  else
  (bif decide (p0 = ((4 : Nat) : Int)) then
  some ([.one ((.clo 71 []), false)], [])
  else
  (bif decide (p0 = ((5 : Nat) : Int)) then
  some ([.one ((.clo 72 []), false)], [])
  else
  (bif decide (p0 = ((6 : Nat) : Int)) then
  some ([.one ((.clo 73 []), false)], [])
  else
  (bif decide (p0 = ((7 : Nat) : Int)) then
  some ([.one ((.clo 75 []), false)], [])
  else
  (bif decide (p0 = ((8 : Nat) : Int)) then
  some ([.one ((.clo 76 []), false)], [])
  else
  none))))))))))) := by kernel_rfl
end impl_functionOfTwo
theorem impl_functionOfTwo.ok_of (hX : ∀ E ∈ impl_functionOfTwo.X, CallSpec Try.prog E) (h : ∀ (op : Int), (true) = true → ∃ fuel, runF Try.prog impl_functionOfTwo.X impl_functionOfTwo.I 0 fuel 54 Try.f54 [.d (.int .i64 op)] = some (bif decide (op = 1) then ([.one ((.clo 67 []), false)], []) else (bif decide (op = 2) then ([.one ((.clo 69 []), false)], []) else (bif decide (op = 3) then ([.one ((.clo 70 []), false)], []) else (bif decide (op = 4) then ([.one ((.clo 71 []), false)], []) else (bif decide (op = 5) then ([.one ((.clo 72 []), false)], []) else (bif decide (op = 6) then ([.one ((.clo 73 []), false)], []) else (bif decide (op = 7) then ([.one ((.clo 75 []), false)], []) else (bif decide (op = 8) then ([.one ((.clo 76 []), false)], []) else ([.one (.nilf, false)], [])))))))))) : CallSpec Try.prog impl_functionOfTwo.E :=
  callSpec_of (d := 0) hX (by kernel_rfl) impl_functionOfTwo.I_ok (by kernel_rfl) (by kernel_rfl) (by kernel_rfl) (fun _ _ _ _ h => by dsimp only [impl_functionOfTwo.E] at h; cases h) (fun xs hp => by
    dsimp only [impl_functionOfTwo.E] at hp ⊢
    split at hp
    · exact h _ hp
    · cases hp)
theorem impl_functionOfTwo.ok : CallSpec Try.prog impl_functionOfTwo.E := impl_functionOfTwo.ok_of (by simp [impl_functionOfTwo.X]) fun op _ => ⟨0, by
  rw [impl_functionOfTwo.e]
  cases ho : opOk op with
  | true => rcases opOk_cases ho with rfl | rfl | rfl | rfl | rfl | rfl | rfl | rfl <;> rfl
  | false =>
    have h := opOk_no ho
    rw [decide_eq_false (p := op = 1) (by omega), decide_eq_false (p := op = 2) (by omega), decide_eq_false (p := op = 3) (by omega), decide_eq_false (p := op = 4) (by omega),
      decide_eq_false (p := op = 5) (by omega), decide_eq_false (p := op = 6) (by omega), decide_eq_false (p := op = 7) (by omega), decide_eq_false (p := op = 8) (by omega)]
    by_cases h1 : op < 0
    · rw [decide_eq_true h1]; rfl
    · by_cases h2 : op ≥ 9
      · rw [decide_eq_false h1, decide_eq_true h2]; rfl
      · have : op = 0 := by omega
        subst this
        rfl⟩

namespace impl_functionOfTwo_f
noncomputable def E : Entry := ⟨54, true, false, fun | [.d (.int .i64 op)] => true | _ => false, fun | [.d (.int .i64 op)] => ([.one (.nilf, false)], []) | _ => ([], []), fun | [.d (.int .i64 op)] => [(opOk op, ([.one ((.fn false q2 ((q2v (operF op)))), false)], []))] | _ => [], false, fun _ => none⟩
end impl_functionOfTwo_f
theorem impl_functionOfTwo_f.ok : CallSpec Try.prog impl_functionOfTwo_f.E := CallSpec.le impl_functionOfTwo.ok rfl (fun _ _ _ _ h => by dsimp only [impl_functionOfTwo_f.E] at h; cases h) fun xs h => by
  dsimp only [impl_functionOfTwo_f.E] at h
  split at h
  case h_2 => simp at h
  rename_i op
  refine ⟨rfl, ?_⟩
  simp only [Entry.r, impl_functionOfTwo_f.E, impl_functionOfTwo.E, pickR]
  cases ho : opOk op with
  | true =>
    rcases opOk_cases ho with rfl | rfl | rfl | rfl | rfl | rfl | rfl | rfl
    · exact ⟨.one (.inr (.inr (.inr ⟨impl_functionOfTwo_1.E, [], false, q2, q2v (operF 1), impl_functionOfTwo_1.ok, rfl, rfl, rfl⟩))) .nil, rfl⟩
    · exact ⟨.one (.inr (.inr (.inr ⟨impl_functionOfTwo_2.E, [], false, q2, q2v (operF 2), impl_functionOfTwo_2.ok, rfl, rfl, rfl⟩))) .nil, rfl⟩
    · exact ⟨.one (.inr (.inr (.inr ⟨impl_functionOfTwo_3.E, [], false, q2, q2v (operF 3), impl_functionOfTwo_3.ok, rfl, rfl, rfl⟩))) .nil, rfl⟩
    · exact ⟨.one (.inr (.inr (.inr ⟨impl_functionOfTwo_4.E, [], false, q2, q2v (operF 4), impl_functionOfTwo_4.ok, rfl, rfl, rfl⟩))) .nil, rfl⟩
    · exact ⟨.one (.inr (.inr (.inr ⟨impl_functionOfTwo_5.E, [], false, q2, q2v (operF 5), impl_functionOfTwo_5.ok, rfl, rfl, rfl⟩))) .nil, rfl⟩
    · exact ⟨.one (.inr (.inr (.inr ⟨impl_functionOfTwo_6.E, [], false, q2, q2v (operF 6), impl_functionOfTwo_6.ok, rfl, rfl, rfl⟩))) .nil, rfl⟩
    · exact ⟨.one (.inr (.inr (.inr ⟨impl_functionOfTwo_7.E, [], false, q2, q2v (operF 7), impl_functionOfTwo_7.ok, rfl, rfl, rfl⟩))) .nil, rfl⟩
    · exact ⟨.one (.inr (.inr (.inr ⟨impl_restOf.E, [], false, q2, q2v (operF 8), impl_restOf.ok, rfl, rfl, rfl⟩))) .nil, rfl⟩
  | false =>
    have h := opOk_no ho
    rw [decide_eq_false (p := op = 1) (by omega), decide_eq_false (p := op = 2) (by omega), decide_eq_false (p := op = 3) (by omega), decide_eq_false (p := op = 4) (by omega),
      decide_eq_false (p := op = 5) (by omega), decide_eq_false (p := op = 6) (by omega), decide_eq_false (p := op = 7) (by omega), decide_eq_false (p := op = 8) (by omega)]
    exact ⟨.same .nil, rfl⟩

namespace impl_NeutralOf
noncomputable def E : Entry := ⟨56, true, false, fun | [.d (.int .i64 op)] => true | _ => false, fun | [.d (.int .i64 op)] => ([.one ((.int .i64 (neuV op)), false)], []) | _ => ([], []), fun _ => [], false, fun _ => none⟩
end impl_NeutralOf
namespace impl_NeutralOf
noncomputable def X : List Entry := []
noncomputable def I : List Inl := [⟨56, Try.f56, ⟨[], [], [], [], [], []⟩⟩]
theorem I_ok : ∀ i ∈ I, Try.prog.funcs[i.f]? = some i.fn ∧ (i.fn.name == "runtime.NumGoroutine") = false := by
  intro i hi
  simp only [I, List.mem_cons, List.not_mem_nil, or_false] at hi
  subst hi
  exact ⟨by kernel_rfl, by kernel_rfl⟩
theorem e (fuel : Nat) (p0 : Int) : runF Try.prog X I 0 fuel 56 Try.f56 [.d (.int .i64 p0)] =
  (bif ((p0 : Int) == 3) then
  some ([.one ((.int .i64 1), false)], [])
  else
  (bif ((p0 : Int) == 6) then
  some ([.one ((.int .i64 1), false)], [])
  else
  (bif ((p0 : Int) == 4) then
  some ([.one ((.int .i64 1000000), false)], [])
  else
  (bif ((p0 : Int) == 5) then
  some ([.one ((.int .i64 (-1000000)), false)], [])
  else
  some ([.one ((.int .i64 0), false)], []))))) := by kernel_rfl
end impl_NeutralOf
theorem impl_NeutralOf.ok_of (hX : ∀ E ∈ impl_NeutralOf.X, CallSpec Try.prog E) (h : ∀ (op : Int), (true) = true → ∃ fuel, runF Try.prog impl_NeutralOf.X impl_NeutralOf.I 0 fuel 56 Try.f56 [.d (.int .i64 op)] = some ([.one ((.int .i64 (neuV op)), false)], [])) : CallSpec Try.prog impl_NeutralOf.E :=
  callSpec_of (d := 0) hX (by kernel_rfl) impl_NeutralOf.I_ok (by kernel_rfl) (by kernel_rfl) (by kernel_rfl) (fun _ _ _ _ h => by dsimp only [impl_NeutralOf.E] at h; cases h) (fun xs hp => by
    dsimp only [impl_NeutralOf.E] at hp ⊢
    split at hp
    · exact h _ hp
    · cases hp)
theorem impl_NeutralOf.ok : CallSpec Try.prog impl_NeutralOf.E := impl_NeutralOf.ok_of (by simp [impl_NeutralOf.X]) fun op _ => ⟨0, by
  rw [impl_NeutralOf.e]
  unfold neuV
  cases ho : opOk op with
  | true => rcases opOk_cases ho with rfl | rfl | rfl | rfl | rfl | rfl | rfl | rfl <;> rfl
  | false =>
    have h := opOk_no ho
    rw [show (op == 3) = false by simp; omega, show (op == 6) = false by simp; omega, show (op == 4) = false by simp; omega, show (op == 5) = false by simp; omega]
    rfl⟩

namespace impl_foldRight_int_int
noncomputable def E : Entry := ⟨57, true, false, fun | [.d (.ints .i64 xs), .d (.int .i64 s), .d (.fn false dom G)] => decide (xs.length < 9223372036854775808) && fdB dom G xs s | _ => false, fun | [.d (.ints .i64 xs), .d (.int .i64 s), .d (.fn false dom G)] => ([.one ((.int .i64 (foldW G xs s)), false)], []) | _ => ([], []), fun _ => [], false, fun _ => none⟩
end impl_foldRight_int_int
namespace impl_foldRight_int_int
noncomputable def X : List Entry := []
noncomputable def I : List Inl := [⟨57, Try.f57, ⟨[], [(1, [1, 2, 3, 7, 8, 9, 10, 11, 12, 13, 14, 15, 16, 17])], [], [], [], []⟩⟩, ⟨77, Try.f77, ⟨[], [], [(1, [1])], [], [], []⟩⟩, ⟨82, Try.f82, ⟨[], [(1000001, [2, 4, 5, 6, 7, 8, 9, 10, 11, 12, 13, 14, 15, 16, 17, 18])], [], [], [], []⟩⟩]
theorem I_ok : ∀ i ∈ I, Try.prog.funcs[i.f]? = some i.fn ∧ (i.fn.name == "runtime.NumGoroutine") = false := by
  intro i hi
  simp only [I, List.mem_cons, List.not_mem_nil, or_false] at hi
  rcases hi with rfl | rfl | rfl
  all_goals exact ⟨by kernel_rfl, by kernel_rfl⟩
noncomputable abbrev L0 (fuel n : Nat) (s : St) (k : Kont) := lAt Try.prog X I fuel true 3 false 82 (bodyOf Try.f82) [1, 0] n s k
noncomputable abbrev k0  (fuel : Nat) : Kont := (kAt Try.prog X I fuel true 3 false 82 (bodyOf Try.f82) [1, 0] [] (endFn Try.prog Try.f82 18 (kRange (kAt Try.prog X I fuel true 4 false 57 (bodyOf Try.f57) [1, 0, 1, 0] [] (endK Try.prog Try.f57)))))
noncomputable def t0 (p0 : List Int) (p2d : List Q → Bool) (p2g : List Q → Int) (x0q1 : Int) (x0q6 : Int) : St := ⟨[(.yld 1000000001), (.imm (.pbox [(.ints .i64 p0)])), .dead, (.imm (.int .i64 x0q1)), .dead, .dead, .dead, .dead, .dead, .dead, .dead, .dead, .dead, .dead, .dead, .dead, .dead, .dead, .dead], hOf [(1000000000, .dfr), (1000000001, (.loop 57 [(.imm (.ints .i64 p0)), .dead, .dead, .dead, (.ptr 1000000002 0 0), (.ptr 1000000003 0 0), (.imm (.int .i64 0)), .dead, .dead, (.imm (.ints .i64 p0)), (.imm (.clo 82 [(.pbox [(.ints .i64 p0)])])), .dead, .dead, .dead, .dead, .dead, .dead, .dead] [11, 12] (cAt (bodyOf Try.f57) [1, 0, 1, 0, 0]) (cAt (bodyOf Try.f57) [1, 0, 1, 0, 1]) .ready)), (1000000002, (.box [(.imm (.int .i64 x0q6))])), (1000000003, (.box [(.imm (.fn false p2d p2g))]))], [(.imm (.ints .i64 p0)), .dead, .dead, .dead, (.ptr 1000000002 0 0), (.ptr 1000000003 0 0), (.imm (.int .i64 0)), .dead, .dead, (.imm (.ints .i64 p0)), (.imm (.clo 82 [(.pbox [(.ints .i64 p0)])])), .dead, .dead, .dead, .dead, .dead, .dead, .dead, (.tup [(.dfr 1000000000)]), (.yld 1000000001)], []⟩
theorem e (fuel : Nat) (p0 : List Int) (p1 : Int) (p2d : List Q → Bool) (p2g : List Q → Int) : runF Try.prog X I 4 fuel 57 Try.f57 [.d (.ints .i64 p0), .d (.int .i64 p1), .d (.fn false p2d p2g)] =
  L0 fuel fuel (t0 p0 p2d p2g ((IntKind.wrap .i64 (((p0.length : Nat) : Int) - 1))) p1) (k0  fuel) := by kernel_rfl
theorem s0 (fuel n0 : Nat) (p0 : List Int) (p2d : List Q → Bool) (p2g : List Q → Int) (x0q1 : Int) (x0q6 : Int) : L0 fuel (n0 + 1) (t0 p0 p2d p2g x0q1 x0q6) (k0  fuel) =
  (bif (decide ((x0q1 : Int) ≥ 0)) then
  (idx x0q1 p0.length).bind fun j5 =>
  (p0[j5]?).bind fun v6 =>
  (bif (p2d [Q.i v6, Q.i x0q6]) then
  L0 fuel n0 (t0 p0 p2d p2g ((IntKind.wrap .i64 (x0q1 - 1))) ((p2g [Q.i v6, Q.i x0q6]))) (k0  fuel)
  else
  none)
  else
  some ([.one ((.int .i64 x0q6), false)], [])) := by kernel_rfl
end impl_foldRight_int_int
theorem impl_foldRight_int_int.ok_of (hX : ∀ E ∈ impl_foldRight_int_int.X, CallSpec Try.prog E) (h : ∀ (xs : List Int) (s : Int) (dom : List Q → Bool) (G : List Q → Int), (decide (xs.length < 9223372036854775808) && fdB dom G xs s) = true → ∃ fuel, runF Try.prog impl_foldRight_int_int.X impl_foldRight_int_int.I 4 fuel 57 Try.f57 [.d (.ints .i64 xs), .d (.int .i64 s), .d (.fn false dom G)] = some ([.one ((.int .i64 (foldW G xs s)), false)], [])) : CallSpec Try.prog impl_foldRight_int_int.E :=
  callSpec_of (d := 4) hX (by kernel_rfl) impl_foldRight_int_int.I_ok (by kernel_rfl) (by kernel_rfl) (by kernel_rfl) (fun _ _ _ _ h => by dsimp only [impl_foldRight_int_int.E] at h; cases h) (fun xs hp => by
    dsimp only [impl_foldRight_int_int.E] at hp ⊢
    split at hp
    · exact h _ _ _ _ hp
    · cases hp)
theorem impl_foldRight_int_int.ok : CallSpec Try.prog impl_foldRight_int_int.E := impl_foldRight_int_int.ok_of (by simp [impl_foldRight_int_int.X]) fun xs s dom G h => ⟨xs.length + 1, by
  simp only [Bool.and_eq_true, decide_eq_true_eq] at h
  rw [impl_foldRight_int_int.e, wS (by omega) (by omega), show ((xs.length : Nat) : Int) - 1 = ((xs.length : Nat) : Int) - 1 - ((0 : Nat) : Int) by omega]
  have hd : ∀ i, i < xs.length → fdB dom G (xs.drop i) s = true := by
    intro i hi
    clear hi
    induction i with
    | zero => simpa using h.2
    | succ i ih =>
      by_cases hl : i < xs.length
      · rw [dropS hl] at ih
        simp only [fdB, Bool.and_eq_true] at ih
        exact ih.1
      · rw [dropE (by omega)]; rfl
  refine run_loop (N := xs.length) (fun n j acc => impl_foldRight_int_int.L0 (xs.length + 1) n (impl_foldRight_int_int.t0 xs dom G (((xs.length : Nat) : Int) - 1 - (j : Int)) acc) (impl_foldRight_int_int.k0 (xs.length + 1))) (fun j acc => acc = foldW G (xs.drop (xs.length - j)) s) ?_ ?_ (xs.length + 1) 0 _ (by omega) (by omega) (by simp [foldW])
  · intro n acc ho
    rw [impl_foldRight_int_int.s0, decide_eq_false (by omega), ho, Nat.sub_self, List.drop_zero]
    rfl
  · intro n j acc hj ho
    obtain ⟨k, hk⟩ : ∃ k, xs.length - j = k + 1 := ⟨xs.length - j - 1, by omega⟩
    have hkl : k < xs.length := by omega
    have e1 : ((xs.length : Nat) : Int) - 1 - (j : Int) = (k : Int) := by omega
    have hdk := hd k hkl
    rw [dropS hkl] at hdk
    simp only [fdB, Bool.and_eq_true] at hdk
    have hg : xs.getD k 0 = xs[k] := by simp [hkl]
    rw [e1, impl_foldRight_int_int.s0, decide_eq_true (by omega), idx_nat hkl, wS (by omega) (by omega)]
    simp only [cond_true, Option.bind_some, getD_get hkl]
    rw [ho, hk, hg, hdk.2, cond_true]
    refine ⟨_, ?_, by rw [show ((xs.length : Nat) : Int) - 1 - ((j + 1 : Nat) : Int) = (k : Int) - 1 by omega]⟩
    rw [show xs.length - (j + 1) = k by omega, dropS hkl]
    rfl⟩

namespace impl_reductionOf_1
noncomputable def E : Entry := ⟨55, true, false, fun | [.d (.ints .i64 xs), .d (.pbox [(.int .i64 op)]), .d (.pbox [(.fn false dom G)])] => rdB dom G xs | _ => false, fun | [.d (.ints .i64 xs), .d (.pbox [(.int .i64 op)]), .d (.pbox [(.fn false dom G)])] => ([.one ((.int .i64 (redG op G xs)), false)], []) | _ => ([], []), fun _ => [], false, fun | [(.pbox [(.int .i64 op)]), (.pbox [(.fn false dom G)])] => some (false, (qlB dom G), (qlv (redG op G))) | _ => none⟩
end impl_reductionOf_1
namespace impl_reductionOf_1
noncomputable def X : List Entry := [impl_NeutralOf.E, impl_foldRight_int_int.E]
noncomputable def I : List Inl := [⟨55, Try.f55, ⟨[], [], [], [(4, [0, 1, 3, 4, 2, 5, 6, 7, 8, 9])], [], []⟩⟩]
theorem I_ok : ∀ i ∈ I, Try.prog.funcs[i.f]? = some i.fn ∧ (i.fn.name == "runtime.NumGoroutine") = false := by
  intro i hi
  simp only [I, List.mem_cons, List.not_mem_nil, or_false] at hi
  subst hi
  exact ⟨by kernel_rfl, by kernel_rfl⟩
theorem e (fuel : Nat) (p0 : List Int) (f0q0 : Int) (f1q0d : List Q → Bool) (f1q0g : List Q → Int) : runF Try.prog X I 0 fuel 55 Try.f55 [.d (.ints .i64 p0), .d (.pbox [(.int .i64 f0q0)]), .d (.pbox [(.fn false f1q0d f1q0g)])] =
  (bif (decide (((IntKind.wrap .i64 (((p0.length : Nat) : Int) - 1)) : Int) < 0)) then
  some ([.one ((.int .i64 (neuV f0q0)), false)], [])
  else
  (cutEnds p0.length (none) (some (.imm (.int .i64 (IntKind.wrap .i64 (((p0.length : Nat) : Int) - 1)))))).bind fun cq1 =>
  (idx (IntKind.wrap .i64 (((p0.length : Nat) : Int) - 1)) p0.length).bind fun j2 =>
  (p0[j2]?).bind fun v3 =>
  (bif decide ((((p0.drop cq1.1).take (cq1.2 - cq1.1))).length < 9223372036854775808) && fdB f1q0d f1q0g (((p0.drop cq1.1).take (cq1.2 - cq1.1))) v3 then
  some ([.one ((.int .i64 (foldW f1q0g (((p0.drop cq1.1).take (cq1.2 - cq1.1))) v3)), false)], [])
  else
  none)) := by kernel_rfl
end impl_reductionOf_1
theorem impl_reductionOf_1.ok_of (hX : ∀ E ∈ impl_reductionOf_1.X, CallSpec Try.prog E) (hfn : ∀ ds rb dom G, impl_reductionOf_1.E.fnOf ds = some (rb, dom, G) → ∀ qs, dom qs = true → impl_reductionOf_1.E.m ((qs.map fun q => .d q.d) ++ ds.map .d) = some ([.one (fnD rb (G qs), false)], [])) (h : ∀ (xs : List Int) (op : Int) (dom : List Q → Bool) (G : List Q → Int), (rdB dom G xs) = true → ∃ fuel, runF Try.prog impl_reductionOf_1.X impl_reductionOf_1.I 0 fuel 55 Try.f55 [.d (.ints .i64 xs), .d (.pbox [(.int .i64 op)]), .d (.pbox [(.fn false dom G)])] = some ([.one ((.int .i64 (redG op G xs)), false)], [])) : CallSpec Try.prog impl_reductionOf_1.E :=
  callSpec_of (d := 0) hX (by kernel_rfl) impl_reductionOf_1.I_ok (by kernel_rfl) (by kernel_rfl) (by kernel_rfl) hfn (fun xs hp => by
    dsimp only [impl_reductionOf_1.E] at hp ⊢
    split at hp
    · exact h _ _ _ _ hp
    · cases hp)
theorem impl_reductionOf_1.ok : CallSpec Try.prog impl_reductionOf_1.E := impl_reductionOf_1.ok_of (by simp [impl_reductionOf_1.X, impl_NeutralOf.ok, impl_foldRight_int_int.ok]) (fun ds rb dom G h qs hq => by
  dsimp only [impl_reductionOf_1.E] at h
  split at h
  case h_2 => cases h
  cases h
  match qs, hq with
  | [.l xs], hq =>
    show Entry.m impl_reductionOf_1.E [.d (.ints .i64 xs), _, _] = _
    simp only [Entry.m, impl_reductionOf_1.E]
    rw [show rdB _ _ xs = true from hq]
    rfl) fun xs op dom G h => ⟨0, by
  simp only [rdB, Bool.and_eq_true, decide_eq_true_eq] at h
  rw [impl_reductionOf_1.e, wS (by omega) (by omega)]
  unfold redG
  by_cases h0 : xs.length = 0
  · rw [decide_eq_true (by omega), decide_eq_true h0]; rfl
  · obtain ⟨k, hk⟩ : ∃ k, xs.length = k + 1 := ⟨xs.length - 1, by omega⟩
    have e1 : ((xs.length : Nat) : Int) - 1 = (k : Int) := by omega
    have hkl : k < xs.length := by omega
    have e2 : xs.length - 1 = k := by omega
    rw [e2] at h
    rw [decide_eq_false (by omega), decide_eq_false h0, cond_false, e1, cut_hi (by omega), idx_nat hkl]
    simp only [Option.bind_some, getD_get hkl, List.drop_zero, Nat.sub_zero]
    rw [decide_eq_true (by simp; omega), h.2, e2]
    rfl⟩

namespace impl_reductionOf
noncomputable def E : Entry := ⟨44, true, false, fun | [.d (.int .i64 op)] => true | _ => false, fun | [.d (.int .i64 op)] => ([.one (.nilf, false)], []) | _ => ([], []), fun | [.d (.int .i64 op)] => [(opOk op, ([.one ((.fn false ql ((qlv (redF op)))), false)], []))] | _ => [], false, fun _ => none⟩
end impl_reductionOf
namespace impl_reductionOf
noncomputable def X : List Entry := [impl_functionOfTwo_f.E, impl_reductionOf_1.E]
noncomputable def I : List Inl := [⟨44, Try.f44, ⟨[], [], [(4, [1, 3])], [], [], []⟩⟩]
theorem I_ok : ∀ i ∈ I, Try.prog.funcs[i.f]? = some i.fn ∧ (i.fn.name == "runtime.NumGoroutine") = false := by
  intro i hi
  simp only [I, List.mem_cons, List.not_mem_nil, or_false] at hi
  subst hi
  exact ⟨by kernel_rfl, by kernel_rfl⟩
theorem e (fuel : Nat) (p0 : Int) : runF Try.prog X I 0 fuel 44 Try.f44 [.d (.int .i64 p0)] =
  (bif opOk p0 then
  some ([.one ((.fn false ((qlB q2 ((q2v (operF p0))))) ((qlv (redG p0 ((q2v (operF p0))))))), false)], [])
  else
  some ([.one (.nilf, false)], [])) := by kernel_rfl
end impl_reductionOf
theorem impl_reductionOf.ok_of (hX : ∀ E ∈ impl_reductionOf.X, CallSpec Try.prog E) (h : ∀ (op : Int), (true) = true → ∃ fuel, runF Try.prog impl_reductionOf.X impl_reductionOf.I 0 fuel 44 Try.f44 [.d (.int .i64 op)] = some (bif opOk op then ([.one ((.fn false ql ((qlv (redF op)))), false)], []) else ([.one (.nilf, false)], []))) : CallSpec Try.prog impl_reductionOf.E :=
  callSpec_of (d := 0) hX (by kernel_rfl) impl_reductionOf.I_ok (by kernel_rfl) (by kernel_rfl) (by kernel_rfl) (fun _ _ _ _ h => by dsimp only [impl_reductionOf.E] at h; cases h) (fun xs hp => by
    dsimp only [impl_reductionOf.E] at hp ⊢
    split at hp
    · exact h _ hp
    · cases hp)
theorem impl_reductionOf.ok : CallSpec Try.prog impl_reductionOf.E := impl_reductionOf.ok_of (by simp [impl_reductionOf.X, impl_functionOfTwo_f.ok, impl_reductionOf_1.ok]) fun op _ => ⟨0, by
  rw [impl_reductionOf.e, qlB_q2, redG_eq]
  cases opOk op <;> rfl⟩

namespace impl_ReduceAll
noncomputable def E : Entry := ⟨23, true, false, fun | [.d (.int .i64 op), .d (.agg [(.ints .i64 sh), (.ints .i64 da)])] => decide (sh.length < 9223372036854775808) && decide (da.length < 9223372036854775808) | _ => false, fun | [.d (.int .i64 op), .d (.agg [(.ints .i64 sh), (.ints .i64 da)])] => ([.one ((.int .i64 (rallV op sh da)), false)], []) | _ => ([], []), fun _ => [], false, fun _ => none⟩
end impl_ReduceAll
namespace impl_ReduceAll
noncomputable def X : List Entry := [impl_reductionOf.E, impl_ValidArray.E]
noncomputable def I : List Inl := [⟨23, Try.f23, ⟨[], [], [], [], [], []⟩⟩]
theorem I_ok : ∀ i ∈ I, Try.prog.funcs[i.f]? = some i.fn ∧ (i.fn.name == "runtime.NumGoroutine") = false := by
  intro i hi
  simp only [I, List.mem_cons, List.not_mem_nil, or_false] at hi
  subst hi
  exact ⟨by kernel_rfl, by kernel_rfl⟩
theorem e (fuel : Nat) (p0 : Int) (p1q0 : List Int) (p1q1 : List Int) : runF Try.prog X I 0 fuel 23 Try.f23 [.d (.int .i64 p0), .d (.agg [(.ints .i64 p1q0), (.ints .i64 p1q1)])] =
  (bif opOk p0 then
  (bif decide (p1q0.length < 9223372036854775808) && decide (p1q1.length < 9223372036854775808) then
  (bif (!(validA p1q0 p1q1)) then
  some ([.one ((.int .i64 0), false)], [])
  else
  (bif (ql [Q.l p1q1]) then
  some ([.one ((.int .i64 (((qlv (redF p0))) [Q.l p1q1])), false)], [])
  else
  none))
  else
  none)
  else
  some ([.one ((.int .i64 0), false)], [])) := by kernel_rfl
end impl_ReduceAll
theorem impl_ReduceAll.ok_of (hX : ∀ E ∈ impl_ReduceAll.X, CallSpec Try.prog E) (h : ∀ (op : Int) (sh : List Int) (da : List Int), (decide (sh.length < 9223372036854775808) && decide (da.length < 9223372036854775808)) = true → ∃ fuel, runF Try.prog impl_ReduceAll.X impl_ReduceAll.I 0 fuel 23 Try.f23 [.d (.int .i64 op), .d (.agg [(.ints .i64 sh), (.ints .i64 da)])] = some ([.one ((.int .i64 (rallV op sh da)), false)], [])) : CallSpec Try.prog impl_ReduceAll.E :=
  callSpec_of (d := 0) hX (by kernel_rfl) impl_ReduceAll.I_ok (by kernel_rfl) (by kernel_rfl) (by kernel_rfl) (fun _ _ _ _ h => by dsimp only [impl_ReduceAll.E] at h; cases h) (fun xs hp => by
    dsimp only [impl_ReduceAll.E] at hp ⊢
    split at hp
    · exact h _ _ _ hp
    · cases hp)
theorem impl_ReduceAll.ok : CallSpec Try.prog impl_ReduceAll.E := impl_ReduceAll.ok_of (by simp [impl_ReduceAll.X, impl_reductionOf.ok, impl_ValidArray.ok]) fun op sh da h => ⟨0, by
  rw [impl_ReduceAll.e, h]
  have hl : decide (da.length < 9223372036854775808) = true := by simp only [Bool.and_eq_true] at h; exact h.2
  have hq : ql [.l da] = true := hl
  unfold rallV
  cases ho : opOk op with
  | false => rfl
  | true => cases hv : validA sh da with
    | false => rfl
    | true => rw [hq]; rfl⟩

namespace laws_FnSortArrayEnds
noncomputable def E : Entry := ⟨8, true, false, fun | [.d (.ints .u8 bs)] => bytesB bs | _ => false, fun | [.d (.ints .u8 bs)] => ([.one ((.bool true), false)], []) | _ => ([], []), fun _ => [], false, fun _ => none⟩
end laws_FnSortArrayEnds
namespace laws_FnSortArrayEnds
noncomputable def X : List Entry := [spec_DrawSortArray.E, impl_SortArray.E, spec_SortArray.E, laws_equalArray.E, impl_ValidArray.E, impl_ReduceAll.E]
noncomputable def I : List Inl := [⟨8, Try.f8, ⟨[9, 11, 14, 30], [], [], [(7, [0, 1, 2, 3, 4, 5, 6, 7, 8, 10, 9, 11, 12, 13, 14, 15, 16, 17, 18, 19, 20])], [], []⟩⟩]
theorem I_ok : ∀ i ∈ I, Try.prog.funcs[i.f]? = some i.fn ∧ (i.fn.name == "runtime.NumGoroutine") = false := by
  intro i hi
  simp only [I, List.mem_cons, List.not_mem_nil, or_false] at hi
  subst hi
  exact ⟨by kernel_rfl, by kernel_rfl⟩
theorem e (fuel : Nat) (p0 : List Int) : runF Try.prog X I 0 fuel 8 Try.f8 [.d (.ints .u8 p0)] =
  (bif (decide ((((p0.length : Nat) : Int) : Int) > 1048576)) then
  some ([.one ((.bool true), false)], [])
  else
  (bif bytesB p0 then
  (bif decide (((avS (cutC p0) 0)).length < 9223372036854775808) && decide (((avD (cutC p0) 0)).length < 9223372036854775808) && (!vcB ((avS (cutC p0) 0)) ((avD (cutC p0) 0)) || decide ((((avD (cutC p0) 0)) : List Int).length ≤ 20)) then
  (bif decide (((avS (cutC p0) 0)).length < 9223372036854775808) && decide (((avD (cutC p0) 0)).length < 9223372036854775808) then
  (bif decide (((soS ((avS (cutC p0) 0)) ((avD (cutC p0) 0)))).length < 9223372036854775808) && decide (((soD ((avS (cutC p0) 0)) ((avD (cutC p0) 0)))).length < 9223372036854775808) && decide (((soS ((avS (cutC p0) 0)) ((avD (cutC p0) 0)))).length < 9223372036854775808) && decide (((soD ((avS (cutC p0) 0)) ((avD (cutC p0) 0)))).length < 9223372036854775808) then
  (bif (!(decide (((soS ((avS (cutC p0) 0)) ((avD (cutC p0) 0)))) = ((soS ((avS (cutC p0) 0)) ((avD (cutC p0) 0))))) && decide (((soD ((avS (cutC p0) 0)) ((avD (cutC p0) 0)))) = ((soD ((avS (cutC p0) 0)) ((avD (cutC p0) 0))))))) then
  (bif decide (((avS (cutC p0) 0)).length < 9223372036854775808) && decide (((avD (cutC p0) 0)).length < 9223372036854775808) then
  (bif decide (((soS ((avS (cutC p0) 0)) ((avD (cutC p0) 0)))).length < 9223372036854775808) && decide (((soD ((avS (cutC p0) 0)) ((avD (cutC p0) 0)))).length < 9223372036854775808) && decide (((soS ((avS (cutC p0) 0)) ((avD (cutC p0) 0)))).length < 9223372036854775808) && decide (((soD ((avS (cutC p0) 0)) ((avD (cutC p0) 0)))).length < 9223372036854775808) then
  some ([.one ((.bool (decide (((soS ((avS (cutC p0) 0)) ((avD (cutC p0) 0)))) = ((soS ((avS (cutC p0) 0)) ((avD (cutC p0) 0))))) && decide (((soD ((avS (cutC p0) 0)) ((avD (cutC p0) 0)))) = ((soD ((avS (cutC p0) 0)) ((avD (cutC p0) 0))))))), false)], [])
  else
  none)
  else
  none)
  else
  (bif decide (((soS ((avS (cutC p0) 0)) ((avD (cutC p0) 0)))).length < 9223372036854775808) && decide (((soD ((avS (cutC p0) 0)) ((avD (cutC p0) 0)))).length < 9223372036854775808) then
  (bif (!(validA ((soS ((avS (cutC p0) 0)) ((avD (cutC p0) 0)))) ((soD ((avS (cutC p0) 0)) ((avD (cutC p0) 0)))))) then
  (bif decide (((avS (cutC p0) 0)).length < 9223372036854775808) && decide (((avD (cutC p0) 0)).length < 9223372036854775808) then
  (bif decide (((soS ((avS (cutC p0) 0)) ((avD (cutC p0) 0)))).length < 9223372036854775808) && decide (((soD ((avS (cutC p0) 0)) ((avD (cutC p0) 0)))).length < 9223372036854775808) && decide (((soS ((avS (cutC p0) 0)) ((avD (cutC p0) 0)))).length < 9223372036854775808) && decide (((soD ((avS (cutC p0) 0)) ((avD (cutC p0) 0)))).length < 9223372036854775808) then
  some ([.one ((.bool (decide (((soS ((avS (cutC p0) 0)) ((avD (cutC p0) 0)))) = ((soS ((avS (cutC p0) 0)) ((avD (cutC p0) 0))))) && decide (((soD ((avS (cutC p0) 0)) ((avD (cutC p0) 0)))) = ((soD ((avS (cutC p0) 0)) ((avD (cutC p0) 0))))))), false)], [])
  else
  none)
  else
  none)
  else
  (bif (((((soD ((avS (cutC p0) 0)) ((avD (cutC p0) 0))).length : Nat) : Int) : Int) == 0) then
  (bif decide (((avS (cutC p0) 0)).length < 9223372036854775808) && decide (((avD (cutC p0) 0)).length < 9223372036854775808) then
  (bif decide (((soS ((avS (cutC p0) 0)) ((avD (cutC p0) 0)))).length < 9223372036854775808) && decide (((soD ((avS (cutC p0) 0)) ((avD (cutC p0) 0)))).length < 9223372036854775808) && decide (((soS ((avS (cutC p0) 0)) ((avD (cutC p0) 0)))).length < 9223372036854775808) && decide (((soD ((avS (cutC p0) 0)) ((avD (cutC p0) 0)))).length < 9223372036854775808) then
  some ([.one ((.bool (decide (((soS ((avS (cutC p0) 0)) ((avD (cutC p0) 0)))) = ((soS ((avS (cutC p0) 0)) ((avD (cutC p0) 0))))) && decide (((soD ((avS (cutC p0) 0)) ((avD (cutC p0) 0)))) = ((soD ((avS (cutC p0) 0)) ((avD (cutC p0) 0))))))), false)], [])
  else
  none)
  else
  none)
  else
  (idx 0 (soD ((avS (cutC p0) 0)) ((avD (cutC p0) 0))).length).bind fun j1 =>
  ((soD ((avS (cutC p0) 0)) ((avD (cutC p0) 0)))[j1]?).bind fun v2 =>
  (bif decide (((avS (cutC p0) 0)).length < 9223372036854775808) && decide (((avD (cutC p0) 0)).length < 9223372036854775808) then
  (bif ((v2 : Int) == (rallV 4 ((avS (cutC p0) 0)) ((avD (cutC p0) 0)))) then
  (idx (IntKind.wrap .i64 ((((soD ((avS (cutC p0) 0)) ((avD (cutC p0) 0))).length : Nat) : Int) - 1)) (soD ((avS (cutC p0) 0)) ((avD (cutC p0) 0))).length).bind fun j3 =>
  ((soD ((avS (cutC p0) 0)) ((avD (cutC p0) 0)))[j3]?).bind fun v4 =>
  (bif decide (((avS (cutC p0) 0)).length < 9223372036854775808) && decide (((avD (cutC p0) 0)).length < 9223372036854775808) then
  some ([.one ((.bool ((v4 : Int) == (rallV 5 ((avS (cutC p0) 0)) ((avD (cutC p0) 0))))), false)], [])
  else
  none)
  else
  some ([.one ((.bool false), false)], []))
  else
  none)))
  else
  none))
  else
  none)
  else
  none)
  else
  none)
  else
  none)) := by kernel_rfl
end laws_FnSortArrayEnds
theorem laws_FnSortArrayEnds.ok_of (hX : ∀ E ∈ laws_FnSortArrayEnds.X, CallSpec Try.prog E) (h : ∀ (bs : List Int), (bytesB bs) = true → ∃ fuel, runF Try.prog laws_FnSortArrayEnds.X laws_FnSortArrayEnds.I 0 fuel 8 Try.f8 [.d (.ints .u8 bs)] = some ([.one ((.bool true), false)], [])) : CallSpec Try.prog laws_FnSortArrayEnds.E :=
  callSpec_of (d := 0) hX (by kernel_rfl) laws_FnSortArrayEnds.I_ok (by kernel_rfl) (by kernel_rfl) (by kernel_rfl) (fun _ _ _ _ h => by dsimp only [laws_FnSortArrayEnds.E] at h; cases h) (fun xs hp => by
    dsimp only [laws_FnSortArrayEnds.E] at hp ⊢
    split at hp
    · exact h _ hp
    · cases hp)
theorem laws_FnSortArrayEnds.ok : CallSpec Try.prog laws_FnSortArrayEnds.E := laws_FnSortArrayEnds.ok_of (by simp [laws_FnSortArrayEnds.X, spec_DrawSortArray.ok, impl_SortArray.ok, spec_SortArray.ok, laws_equalArray.ok, impl_ValidArray.ok, impl_ReduceAll.ok]) fun bs h => by
  obtain ⟨F, hF⟩ : ∃ F : Nat, 4000 < F := ⟨4001, by omega⟩
  refine ⟨F, ?_⟩
  rw [laws_FnSortArrayEnds.e]
  by_cases hl : ((bs.length : Nat) : Int) > 1048576
  · rw [decide_eq_true hl]; rfl
  rw [decide_eq_false hl, cond_false, h, cond_true]
  have r0 := cut_ok h (p := 0) (by omega) (by omega)
  obtain ⟨a1, a2, _, _⟩ := av_bd r0 (by omega)
  have h20 : vcB (avS (cutC bs) 0) (avD (cutC bs) 0) = true → (avD (cutC bs) 0).length ≤ 20 := fun hb => av_small r0 hb
  obtain ⟨sh, hsh⟩ : ∃ x, avS (cutC bs) 0 = x := ⟨_, rfl⟩
  obtain ⟨da, hda⟩ : ∃ x, avD (cutC bs) 0 = x := ⟨_, rfl⟩
  rw [hsh] at a1
  rw [hda] at a2
  rw [hsh, hda] at h20
  have g1 := lt_of (xs := sh) (by omega)
  have g2 := lt_of (xs := da) (by omega)
  have q1 : ∀ n : Nat, decide (([(n : Int)] : List Int).length < 9223372036854775808) = true := fun n => rfl
  simp only [hsh, hda]
  cases hb : vcB sh da with
  | false =>
    have e0 : soS sh da = [] := by simp only [soS, hb, cond_false]
    have e1 : soD sh da = [] := by simp only [soD, hb, cond_false]
    have g0 : decide (([] : List Int).length < 9223372036854775808) = true := rfl
    have hv0 : validA [] [] = false := rfl
    have hv1 : vcB [] [] = false := rfl
    simp only [Bool.and_self, Bool.and_true, Bool.true_and, cond_true, cond_false, Bool.not_true, Bool.not_false, bne_self_eq_false, beq_self_eq_true, decide_true, eq_self, Bool.true_or, Bool.false_or, g1, g2, e0, e1, g0, hv0, hv1]
  | true =>
    have h2 := decide_eq_true (h20 hb)
    obtain ⟨hv, hs, hl60, hal⟩ := vcB_inv hb
    obtain ⟨e0, e1, hvo⟩ := so_facts hb
    have hvc := vcB_vec hb
    have hlu : (soL' da).length = da.length := so_len _
    have hvu := validA_vec hvo
    rw [hlu] at hvu
    have g3 := lt_of (xs := soL' da) (by omega)
    have h3 : decide ((soL' da).length ≤ 20) = true := by rw [hlu]; exact h2
    by_cases hz : da.length = 0
    · have hz2 : ((((soL' da).length : Nat) : Int) == 0) = true := by rw [hlu, hz]; rfl
      simp only [Bool.and_self, Bool.and_true, Bool.true_and, cond_true, cond_false, Bool.not_true, Bool.not_false, bne_self_eq_false, beq_self_eq_true, decide_true, eq_self, Bool.true_or, Bool.false_or, h2, h3, g1, g2, g3, q1, e0, e1, hvu, hz2]
    · have hz2 : ((((soL' da).length : Nat) : Int) == 0) = false := by rw [hlu]; exact beq_eq_false_iff_ne.2 (by omega)
      obtain ⟨n1, n2⟩ := so_ends (da := da) (by intro h; rw [h] at hz; exact hz rfl)
      have ra : ∀ op, opOk op = true → rallV op sh da = redF op da := fun op ho => by simp only [rallV, ho, hv, Bool.and_self, cond_true]
      simp only [Bool.and_self, Bool.and_true, Bool.true_and, cond_true, cond_false, Bool.not_true, Bool.not_false, bne_self_eq_false, beq_self_eq_true, decide_true, eq_self, Bool.true_or, Bool.false_or, h2, h3, g1, g2, g3, q1, e0, e1, hvu, hz2, ra 4 rfl, ra 5 rfl]
      rw [show (0 : Int) = ((0 : Nat) : Int) from rfl, idx_nat (show 0 < (soL' da).length by omega), hlu, wS (x := ((da.length : Nat) : Int) - 1) (by omega) (by omega), show ((da.length : Nat) : Int) - 1 = ((da.length - 1 : Nat) : Int) by omega, idx_nat (show da.length - 1 < da.length by omega)]
      simp only [Option.bind_some, getD_get (show 0 < (soL' da).length by omega), getD_get (show da.length - 1 < (soL' da).length by omega), n1, n2, beq_self_eq_true, cond_true]

end Go.Ab
