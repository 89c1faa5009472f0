import Derived.Test.YtmonjjdcebboiadEm1
import Derived.Test.YtmonjjdcebboiadProg
import Derived.Test.YtmonjjdcebboiadChecked
open Go Go.Ab Go.Proofs
set_option maxRecDepth 100000
set_option linter.unusedVariables false
set_option linter.unusedSimpArgs false
namespace Go.Ab
namespace impl_ReduceAxis
noncomputable def E : Entry := ⟨21, false, false, fun | [.d (.int .i64 op), .d (.agg [(.ints .i64 sh), (.ints .i64 da)]), .d (.int .i64 k)] => decide (sh.length < 9223372036854775808) && decide (da.length < 9223372036854775808) | _ => false, fun | [.d (.int .i64 op), .d (.agg [(.ints .i64 sh), (.ints .i64 da)]), .d (.int .i64 k)] => ([.agg [((.ints .i64 (rdxS op sh da k)), true), ((.ints .i64 (rdxD op sh da k)), true)], .one ((.bool (rdxB op sh da k)), false)], []) | _ => ([], []), fun _ => [], true, fun _ => none⟩
end impl_ReduceAxis
namespace impl_ReduceAxis
noncomputable def X : List Entry := [impl_reductionOf.E, impl_axisLength.E, slices_Concat_int_int.E, impl_layoutOf_j.E, impl_ReduceAxis_1.E]
noncomputable def I : List Inl := [⟨21, Try.f21, ⟨[37, 40], [(6, [0, 1, 2, 3, 7, 9, 10, 12, 13, 14, 15, 16, 17, 18, 19, 20, 21, 22, 23, 24, 25, 26, 27, 28, 29, 30, 31, 32, 33, 34, 35, 36, 37, 38, 39, 40, 41, 42])], [(6, [8, 4, 5])], [(5, [0, 4, 1, 2, 3, 5, 6, 7, 8, 9, 10, 11])], [36], []⟩⟩, ⟨47, Try.f47, ⟨[12], [(1000006, [2, 3, 5, 6, 7, 9, 10, 11, 12, 13, 14, 15, 16, 17, 18, 19, 20, 21, 24, 25, 26, 27, 28, 29, 30, 31, 32, 33, 34, 35])], [], [], [], []⟩⟩]
theorem I_ok : ∀ i ∈ I, Try.prog.funcs[i.f]? = some i.fn ∧ (i.fn.name == "runtime.NumGoroutine") = false := by
  intro i hi
  simp only [I, List.mem_cons, List.not_mem_nil, or_false] at hi
  rcases hi with rfl | rfl
  all_goals exact ⟨by kernel_rfl, by kernel_rfl⟩
noncomputable abbrev L0 (fuel n : Nat) (s : St) (k : Kont) := lAt Try.prog X I fuel true 3 false 47 (bodyOf Try.f47) [1, 1, 1, 1, 0, 1, 0] n s k
noncomputable abbrev k0  (fuel : Nat) : Kont := (kAt Try.prog X I fuel true 3 false 47 (bodyOf Try.f47) [1, 1, 1, 1, 0, 1, 0] [] (endFn Try.prog Try.f47 43 (kOp Try.prog X I fuel true 4 21 (cAt (bodyOf Try.f21) [1, 1, 1, 1, 1, 0]) 2 (kAt Try.prog X I fuel true 4 false 21 (bodyOf Try.f21) [1, 1, 1, 1, 1, 0] [] (endK Try.prog Try.f21)))))
noncomputable def t0 (p0 : Int) (p1q0 : List Int) (p1q1 : List Int) (p2 : Int) (cq1 : Nat × Nat) (cq2 : Nat × Nat) (x0q6 : Int) (x0q8 : List Int) : St := ⟨[(.all 1000000001 1), (.imm (.clo 52 [(.pbox [(.fn false ql ((qlv (redF p0))))]), (.pbox [(.ints .i64 p1q0), (.ints .i64 p1q1)]), (.pbox [(.int .i64 p2)])])), .dead, .dead, (.ptr 1000000002 0 0), .dead, .dead, .dead, (.all 1000000003 1), .dead, .dead, .dead, .dead, .dead, .dead, .dead, .dead, .dead, .dead, .dead, .dead, .dead, (.imm (.int .i64 (((List.replicate ((volW (((((p1q0.drop cq1.1).take (cq1.2 - cq1.1))) ++ (((p1q0.drop cq2.1).take (cq2.2 - cq2.1))))))).toNat (0 : Int)).length : Nat) : Int))), (.imm (.int .i64 x0q6)), .dead, .dead, .dead, .dead, .dead, .dead, .dead, .dead, .dead, .dead, .dead, .dead], hOf [(1000000000, (.box [(.imm .nils), (.imm .nils)])), (1000000001, (.ints .i64 ((((p1q0.drop cq1.1).take (cq1.2 - cq1.1))) ++ (((p1q0.drop cq2.1).take (cq2.2 - cq2.1)))))), (1000000002, (.box [(.imm .nils), (.imm .nils)])), (1000000003, (.ints .i64 x0q8))], [.dead, .dead, .dead, .dead, (.dptr [(.ints .i64 p1q0), (.ints .i64 p1q1)] 0), (.dptr [(.int .i64 p2)] 0), (.ptr 1000000000 0 0), .dead, (.dptr [(.fn false ql ((qlv (redF p0))))] 0), .dead, .dead, (.all 1000000001 1), .dead, .dead, .dead, .dead, .dead, .dead, .dead, .dead, .dead, .dead, .dead, .dead, .dead, .dead, .dead, .dead, .dead, .dead, .dead, .dead, .dead, .dead, .dead, .dead, .dead, .dead, (.all 1000000001 1), (.imm (.clo 52 [(.pbox [(.fn false ql ((qlv (redF p0))))]), (.pbox [(.ints .i64 p1q0), (.ints .i64 p1q1)]), (.pbox [(.int .i64 p2)])])), .dead, .dead, .dead, (.tup [])], []⟩
theorem e (fuel : Nat) (p0 : Int) (p1q0 : List Int) (p1q1 : List Int) (p2 : Int) : runF Try.prog X I 4 fuel 21 Try.f21 [.d (.int .i64 p0), .d (.agg [(.ints .i64 p1q0), (.ints .i64 p1q1)]), .d (.int .i64 p2)] =
  (bif opOk p0 then
  (bif decide (p1q0.length < 9223372036854775808) && decide (p1q1.length < 9223372036854775808) then
  (bif (!(axB p1q0 p1q1 p2)) then
  some ([.agg [((.ints .i64 []), true), ((.ints .i64 []), true)], .one ((.bool false), false)], [])
  else
  (cutEnds p1q0.length (none) (some (.imm (.int .i64 p2)))).bind fun cq1 =>
  (cutEnds p1q0.length (some (.imm (.int .i64 (IntKind.wrap .i64 (p2 + 1))))) (none)).bind fun cq2 =>
  (bif szB (((p1q0.drop cq1.1).take (cq1.2 - cq1.1))) && szB (((p1q0.drop cq2.1).take (cq2.2 - cq2.1))) then
  (bif decide ((((((p1q0.drop cq1.1).take (cq1.2 - cq1.1))) ++ (((p1q0.drop cq2.1).take (cq2.2 - cq2.1))))).length < 9223372036854775808) then
  (bif validS (((((p1q0.drop cq1.1).take (cq1.2 - cq1.1))) ++ (((p1q0.drop cq2.1).take (cq2.2 - cq2.1))))) then
  (bif decide (0 ≤ ((volW (((((p1q0.drop cq1.1).take (cq1.2 - cq1.1))) ++ (((p1q0.drop cq2.1).take (cq2.2 - cq2.1)))))) : Int)) && decide (((volW (((((p1q0.drop cq1.1).take (cq1.2 - cq1.1))) ++ (((p1q0.drop cq2.1).take (cq2.2 - cq2.1)))))) : Int) ≤ (volW (((((p1q0.drop cq1.1).take (cq1.2 - cq1.1))) ++ (((p1q0.drop cq2.1).take (cq2.2 - cq2.1))))))) && decide (((volW (((((p1q0.drop cq1.1).take (cq1.2 - cq1.1))) ++ (((p1q0.drop cq2.1).take (cq2.2 - cq2.1)))))) : Int) ≤ 1152921504606846976) && decide (((8 : Nat) : Int) * (volW (((((p1q0.drop cq1.1).take (cq1.2 - cq1.1))) ++ (((p1q0.drop cq2.1).take (cq2.2 - cq2.1)))))) ≤ 281474976710656) then
  L0 fuel fuel (t0 p0 p1q0 p1q1 p2 cq1 cq2 0 ((List.replicate ((volW (((((p1q0.drop cq1.1).take (cq1.2 - cq1.1))) ++ (((p1q0.drop cq2.1).take (cq2.2 - cq2.1))))))).toNat (0 : Int)))) (k0  fuel)
  else
  none)
  else
  some ([.agg [((.ints .i64 []), true), ((.ints .i64 []), true)], .one ((.bool false), false)], []))
  else
  none)
  else
  none))
  else
  none)
  else
  (bif decide (p1q0.length < 9223372036854775808) && decide (p1q1.length < 9223372036854775808) then
  some ([.agg [((.ints .i64 []), true), ((.ints .i64 []), true)], .one ((.bool false), false)], [])
  else
  none)) := by kernel_rfl
theorem s0 (fuel n0 : Nat) (p0 : Int) (p1q0 : List Int) (p1q1 : List Int) (p2 : Int) (cq1 : Nat × Nat) (cq2 : Nat × Nat) (x0q6 : Int) (x0q8 : List Int) : L0 fuel (n0 + 1) (t0 p0 p1q0 p1q1 p2 cq1 cq2 x0q6 x0q8) (k0  fuel) =
  (bif (decide ((x0q6 : Int) < (((List.replicate ((volW (((((p1q0.drop cq1.1).take (cq1.2 - cq1.1))) ++ (((p1q0.drop cq2.1).take (cq2.2 - cq2.1))))))).toNat (0 : Int)).length : Nat) : Int))) then
  (bif axB p1q0 p1q1 p2 && lnB p1q0 p2 x0q6 && ql [.l (lnN p1q0 p1q1 p2 x0q6)] then
  (idx x0q6 x0q8.length).bind fun j5 =>
  (bif decide (j5 < x0q8.length) then
  L0 fuel n0 (t0 p0 p1q0 p1q1 p2 cq1 cq2 ((IntKind.wrap .i64 (x0q6 + 1))) ((x0q8.set j5 (((qlv (redF p0))) [.l (lnN p1q0 p1q1 p2 x0q6)])))) (k0  fuel)
  else
  none)
  else
  none)
  else
  some ([.agg [((.ints .i64 ((((p1q0.drop cq1.1).take (cq1.2 - cq1.1))) ++ (((p1q0.drop cq2.1).take (cq2.2 - cq2.1))))), true), ((.ints .i64 x0q8), true)], .one ((.bool true), false)], [])) := by kernel_rfl
end impl_ReduceAxis
theorem impl_ReduceAxis.ok_of (hX : ∀ E ∈ impl_ReduceAxis.X, CallSpec Try.prog E) (h : ∀ (op : Int) (sh : List Int) (da : List Int) (k : Int), (decide (sh.length < 9223372036854775808) && decide (da.length < 9223372036854775808)) = true → ∃ fuel, runF Try.prog impl_ReduceAxis.X impl_ReduceAxis.I 4 fuel 21 Try.f21 [.d (.int .i64 op), .d (.agg [(.ints .i64 sh), (.ints .i64 da)]), .d (.int .i64 k)] = some ([.agg [((.ints .i64 (rdxS op sh da k)), true), ((.ints .i64 (rdxD op sh da k)), true)], .one ((.bool (rdxB op sh da k)), false)], [])) : CallSpec Try.prog impl_ReduceAxis.E :=
  callSpec_of (d := 4) hX (by kernel_rfl) impl_ReduceAxis.I_ok (by kernel_rfl) (by kernel_rfl) (by kernel_rfl) (fun _ _ _ _ h => by dsimp only [impl_ReduceAxis.E] at h; cases h) (fun xs hp => by
    dsimp only [impl_ReduceAxis.E] at hp ⊢
    split at hp
    · exact h _ _ _ _ hp
    · cases hp)
theorem impl_ReduceAxis.loop (fuel : Nat) (op : Int) (sh da : List Int) (k : Nat) (hv : validA sh da = true) (hk : k < sh.length) (hs : validS (sh.eraseIdx k) = true) (hvol : (volW (sh.eraseIdx k)).toNat = befN sh k * behN sh k) (h60 : befN sh k * behN sh k ≤ 60) (hf : 60 < fuel) :
    impl_ReduceAxis.L0 fuel fuel (impl_ReduceAxis.t0 op sh da (k : Int) (0, k) (k + 1, sh.length) 0 (List.replicate (befN sh k * behN sh k) 0)) (impl_ReduceAxis.k0 fuel) = some ([.agg [((.ints .i64 (sh.eraseIdx k)), true), ((.ints .i64 (rdxN op sh da k)), true)], .one ((.bool true), false)], []) := by
  have ax := ax_of (validA_inv hv).1 hk
  have hL := ax.len_le
  have hA : (rdxN op sh da k).length = befN sh k * behN sh k := by simp only [rdxN, tab_length, Int.toNat_natCast]
  have hsh : ((sh.drop 0).take (k - 0)) ++ ((sh.drop (k + 1)).take (sh.length - (k + 1))) = sh.eraseIdx k := by
    rw [drop_take, List.drop_zero, Nat.sub_zero, erase_eq]
  refine run_loop (N := befN sh k * behN sh k) (fun n j out => impl_ReduceAxis.L0 fuel n (impl_ReduceAxis.t0 op sh da (k : Int) (0, k) (k + 1, sh.length) (j : Int) out) (impl_ReduceAxis.k0 fuel)) (fun j out => out = part (rdxN op sh da k) j) ?_ ?_ fuel 0 _ (by omega) (by omega) (by rw [part_zero, hA])
  · intro n out ho
    have hall := part_all (rdxN op sh da k)
    rw [hA] at hall
    rw [hall] at ho
    rw [impl_ReduceAxis.s0]
    simp only [hsh, hvol, List.length_replicate]
    rw [dge (by omega), cond_false, ho]
  · intro n j out hj ho
    have hol : out.length = befN sh k * behN sh k := by rw [ho, part_length (by omega), hA]
    obtain ⟨d1, d2, d3⟩ := dec2 hj
    have hln : lnB sh k (j : Int) = true := by simp only [lnB, Int.toNat_natCast]; simp; omega
    have hq : ql [.l (lnN sh da k (j : Int))] = true := by simp only [ql, lnN, lnK_length, Int.toNat_natCast]; simp; omega
    rw [impl_ReduceAxis.s0]
    simp only [hsh, hvol, List.length_replicate]
    rw [dlt hj, cond_true, axB_of hv hk, hln, hq, idx_nat (by omega), w1 (by omega)]
    simp only [Bool.and_self, cond_true, Option.bind_some]
    rw [decide_eq_true (by omega), cond_true]
    refine ⟨_, ?_, rfl⟩
    rw [ho, part_set (by omega)]
    simp only [rdxN, Int.toNat_natCast]
    rw [tab_getD hj]
    rfl
theorem erase_valid {sh da : List Int} {k : Nat} (hv : validA sh da = true) (hk : k < sh.length) (hs : validS (sh.eraseIdx k) = true) : volW (sh.eraseIdx k) = ((befN sh k * behN sh k : Nat) : Int) ∧ befN sh k * behN sh k ≤ 60 := by
  obtain ⟨h1, h2, h3⟩ := validS_inv hs
  have h4 := vol_prod h2 h1
  rw [prodN_erase] at h4
  exact ⟨h4, by omega⟩
theorem impl_ReduceAxis.ok : CallSpec Try.prog impl_ReduceAxis.E := impl_ReduceAxis.ok_of (by simp [impl_ReduceAxis.X, impl_reductionOf.ok, impl_axisLength.ok, slices_Concat_int_int.ok, impl_layoutOf_j.ok, impl_ReduceAxis_1.ok]) fun op sh da k h => by
  obtain ⟨F, hF⟩ : ∃ F : Nat, 60 < F := ⟨61, by omega⟩
  refine ⟨F, ?_⟩
  rw [impl_ReduceAxis.e, h]
  unfold rdxS rdxD rdxB
  cases ho : opOk op with
  | false => rfl
  | true =>
    cases hb : axB sh da k with
    | false => rfl
    | true =>
      obtain ⟨j, rfl, hj, hv, ax, hd, hl⟩ := axB_inv hb
      have hr := ax.rank
      have hsh : ((sh.drop 0).take (j - 0)) ++ ((sh.drop (j + 1)).take (sh.length - (j + 1))) = sh.eraseIdx j := by
        rw [drop_take, List.drop_zero, Nat.sub_zero, erase_eq]
      rw [w1 (by omega), cut_hi (by omega), cut_lo (by omega), Int.toNat_natCast]
      simp only [Bool.not_true, cond_true, cond_false, Option.bind_some, Bool.true_and, hsh]
      rw [szB_of (by simp; omega), szB_of (by simp; omega), Bool.and_self, cond_true, lt_of (by rw [set_eraseIdx_len hj]; omega), cond_true]
      cases hs : validS (sh.eraseIdx j) with
      | false => rfl
      | true =>
        obtain ⟨hvol, h60⟩ := erase_valid hv hj hs
        have hb := vol_bd hs
        rw [mkOk hb.1 (by omega), cond_true, cond_true, cond_true, cond_true]
        have key := impl_ReduceAxis.loop F op sh da j hv hj hs (by rw [hvol]; rfl) h60 hF
        rw [hvol, Int.toNat_natCast]
        exact key

namespace laws_FnMoveSums
noncomputable def E : Entry := ⟨5, true, false, fun | [.d (.ints .u8 bs)] => bytesB bs | _ => false, fun | [.d (.ints .u8 bs)] => ([.one ((.bool true), false)], []) | _ => ([], []), fun _ => [], false, fun _ => none⟩
end laws_FnMoveSums
namespace laws_FnMoveSums
noncomputable def X : List Entry := [spec_DrawMoveSums.E, impl_MoveSums.E, spec_MoveSums.E, laws_equalArray.E, impl_WindowsOf.E, impl_ReduceAxis.E]
noncomputable def I : List Inl := [⟨5, Try.f5, ⟨[19, 25, 31, 79, 84], [(1000009, [0, 1, 2, 6, 7, 8, 10, 11, 12, 13, 14, 15, 16, 17, 18, 19, 20, 21, 22, 23, 24, 25, 26, 27, 28, 29, 30, 31, 32, 33, 34, 35, 36, 37, 38, 39, 40, 41, 42, 43, 44, 45, 46, 47, 48, 49, 50, 51, 52, 53, 54, 55, 56, 57, 58, 59, 60, 61, 62, 63, 64, 65, 66, 67, 68, 69, 70, 71, 72, 73, 74, 75, 76, 77, 78, 79, 80, 81, 82, 83, 84, 85, 86, 87, 88, 89, 90, 91, 92, 93, 94, 95, 96])], [], [], [], []⟩⟩]
theorem I_ok : ∀ i ∈ I, Try.prog.funcs[i.f]? = some i.fn ∧ (i.fn.name == "runtime.NumGoroutine") = false := by
  intro i hi
  simp only [I, List.mem_cons, List.not_mem_nil, or_false] at hi
  subst hi
  exact ⟨by kernel_rfl, by kernel_rfl⟩
noncomputable abbrev L0 (fuel n : Nat) (s : St) (k : Kont) := lAt Try.prog X I fuel true 0 false 5 (bodyOf Try.f5) [1, 1, 1, 1, 1, 1, 0, 1, 0] n s k
noncomputable abbrev k0  (fuel : Nat) : Kont := (kAt Try.prog X I fuel true 0 false 5 (bodyOf Try.f5) [1, 1, 1, 1, 1, 1, 0, 1, 0] [] (endK Try.prog Try.f5))
noncomputable def t0 (p0 : List Int) (x0q1 : Int) : St := ⟨[.dead, .dead, .dead, (.ptr 1000000000 0 0), (.imm (.int .i64 (dWn (cutC p0)))), (.ptr 1000000001 0 0), .dead, .dead, .dead, (.imm (.int .i64 x0q1)), .dead, .dead, .dead, .dead, .dead, .dead, .dead, .dead, .dead, .dead, .dead, .dead, .dead, .dead, .dead, .dead, .dead, .dead, .dead, .dead, .dead, .dead, .dead, .dead, .dead, .dead, .dead, .dead, .dead, .dead, .dead, .dead, .dead, .dead, .dead, .dead, .dead, .dead, .dead, .dead, .dead, .dead, .dead, .dead, .dead, .dead, .dead, .dead, .dead, .dead, .dead, .dead, .dead, .dead, .dead, .dead, .dead, .dead, .dead, .dead, .dead, .dead, .dead, .dead, .dead, .dead, .dead, .dead, .dead, .dead, .dead, .dead, .dead, .dead, .dead, .dead, .dead, .dead, .dead, .dead, .dead, .dead, .dead, .dead, .dead, .dead, .dead], hOf [(1000000000, (.box [(.imm (.ints .i64 (avS (cutC p0) 0))), (.imm (.ints .i64 (avD (cutC p0) 0)))])), (1000000001, (.box [(.all 1000000002 1), (.all 1000000003 1)])), (1000000002, (.ints .i64 (msS ((avS (cutC p0) 0)) ((avD (cutC p0) 0)) ((dWn (cutC p0)))))), (1000000003, (.ints .i64 (msD ((avS (cutC p0) 0)) ((avD (cutC p0) 0)) ((dWn (cutC p0))))))], [], []⟩
theorem e (fuel : Nat) (p0 : List Int) : runF Try.prog X I 0 fuel 5 Try.f5 [.d (.ints .u8 p0)] =
  (bif (decide ((((p0.length : Nat) : Int) : Int) > 1048576)) then
  some ([.one ((.bool true), false)], [])
  else
  (bif bytesB p0 then
  (bif decide (((avS (cutC p0) 0)).length < 9223372036854775808) && decide (((avD (cutC p0) 0)).length < 9223372036854775808) then
  (bif decide (((avS (cutC p0) 0)).length < 9223372036854775808) && decide (((avD (cutC p0) 0)).length < 9223372036854775808) then
  (bif decide (((msS ((avS (cutC p0) 0)) ((avD (cutC p0) 0)) ((dWn (cutC p0))))).length < 9223372036854775808) && decide (((msD ((avS (cutC p0) 0)) ((avD (cutC p0) 0)) ((dWn (cutC p0))))).length < 9223372036854775808) && decide (((msS ((avS (cutC p0) 0)) ((avD (cutC p0) 0)) ((dWn (cutC p0))))).length < 9223372036854775808) && decide (((msD ((avS (cutC p0) 0)) ((avD (cutC p0) 0)) ((dWn (cutC p0))))).length < 9223372036854775808) then
  (bif (!(decide (((msS ((avS (cutC p0) 0)) ((avD (cutC p0) 0)) ((dWn (cutC p0))))) = ((msS ((avS (cutC p0) 0)) ((avD (cutC p0) 0)) ((dWn (cutC p0)))))) && decide (((msD ((avS (cutC p0) 0)) ((avD (cutC p0) 0)) ((dWn (cutC p0))))) = ((msD ((avS (cutC p0) 0)) ((avD (cutC p0) 0)) ((dWn (cutC p0)))))))) then
  (bif decide (((msS ((avS (cutC p0) 0)) ((avD (cutC p0) 0)) ((dWn (cutC p0))))).length < 9223372036854775808) && decide (((msD ((avS (cutC p0) 0)) ((avD (cutC p0) 0)) ((dWn (cutC p0))))).length < 9223372036854775808) && decide (((msS ((avS (cutC p0) 0)) ((avD (cutC p0) 0)) ((dWn (cutC p0))))).length < 9223372036854775808) && decide (((msD ((avS (cutC p0) 0)) ((avD (cutC p0) 0)) ((dWn (cutC p0))))).length < 9223372036854775808) then
  (bif (decide (((msS ((avS (cutC p0) 0)) ((avD (cutC p0) 0)) ((dWn (cutC p0))))) = ((msS ((avS (cutC p0) 0)) ((avD (cutC p0) 0)) ((dWn (cutC p0)))))) && decide (((msD ((avS (cutC p0) 0)) ((avD (cutC p0) 0)) ((dWn (cutC p0))))) = ((msD ((avS (cutC p0) 0)) ((avD (cutC p0) 0)) ((dWn (cutC p0))))))) then
  some ([.one ((.bool ((wiK ((avS (cutC p0) 0)) ((avD (cutC p0) 0)) ((dWn (cutC p0)))) == (wiK ((avS (cutC p0) 0)) ((avD (cutC p0) 0)) ((dWn (cutC p0)))))), false)], [])
  else
  some ([.one ((.bool false), false)], []))
  else
  none)
  else
  (bif (!((wiK ((avS (cutC p0) 0)) ((avD (cutC p0) 0)) ((dWn (cutC p0)))) == (wiK ((avS (cutC p0) 0)) ((avD (cutC p0) 0)) ((dWn (cutC p0)))))) then
  (bif decide (((msS ((avS (cutC p0) 0)) ((avD (cutC p0) 0)) ((dWn (cutC p0))))).length < 9223372036854775808) && decide (((msD ((avS (cutC p0) 0)) ((avD (cutC p0) 0)) ((dWn (cutC p0))))).length < 9223372036854775808) && decide (((msS ((avS (cutC p0) 0)) ((avD (cutC p0) 0)) ((dWn (cutC p0))))).length < 9223372036854775808) && decide (((msD ((avS (cutC p0) 0)) ((avD (cutC p0) 0)) ((dWn (cutC p0))))).length < 9223372036854775808) then
  (bif (decide (((msS ((avS (cutC p0) 0)) ((avD (cutC p0) 0)) ((dWn (cutC p0))))) = ((msS ((avS (cutC p0) 0)) ((avD (cutC p0) 0)) ((dWn (cutC p0)))))) && decide (((msD ((avS (cutC p0) 0)) ((avD (cutC p0) 0)) ((dWn (cutC p0))))) = ((msD ((avS (cutC p0) 0)) ((avD (cutC p0) 0)) ((dWn (cutC p0))))))) then
  some ([.one ((.bool ((wiK ((avS (cutC p0) 0)) ((avD (cutC p0) 0)) ((dWn (cutC p0)))) == (wiK ((avS (cutC p0) 0)) ((avD (cutC p0) 0)) ((dWn (cutC p0)))))), false)], [])
  else
  some ([.one ((.bool false), false)], []))
  else
  none)
  else
  (bif (!(wiK ((avS (cutC p0) 0)) ((avD (cutC p0) 0)) ((dWn (cutC p0))))) then
  (bif decide (((msS ((avS (cutC p0) 0)) ((avD (cutC p0) 0)) ((dWn (cutC p0))))).length < 9223372036854775808) && decide (((msD ((avS (cutC p0) 0)) ((avD (cutC p0) 0)) ((dWn (cutC p0))))).length < 9223372036854775808) && decide (((msS ((avS (cutC p0) 0)) ((avD (cutC p0) 0)) ((dWn (cutC p0))))).length < 9223372036854775808) && decide (((msD ((avS (cutC p0) 0)) ((avD (cutC p0) 0)) ((dWn (cutC p0))))).length < 9223372036854775808) then
  (bif (decide (((msS ((avS (cutC p0) 0)) ((avD (cutC p0) 0)) ((dWn (cutC p0))))) = ((msS ((avS (cutC p0) 0)) ((avD (cutC p0) 0)) ((dWn (cutC p0)))))) && decide (((msD ((avS (cutC p0) 0)) ((avD (cutC p0) 0)) ((dWn (cutC p0))))) = ((msD ((avS (cutC p0) 0)) ((avD (cutC p0) 0)) ((dWn (cutC p0))))))) then
  some ([.one ((.bool ((wiK ((avS (cutC p0) 0)) ((avD (cutC p0) 0)) ((dWn (cutC p0)))) == (wiK ((avS (cutC p0) 0)) ((avD (cutC p0) 0)) ((dWn (cutC p0)))))), false)], [])
  else
  some ([.one ((.bool false), false)], []))
  else
  none)
  else
  L0 fuel fuel (t0 p0 0) (k0  fuel))))
  else
  none)
  else
  none)
  else
  none)
  else
  none)) := by kernel_rfl
theorem s0 (fuel n0 : Nat) (p0 : List Int) (x0q1 : Int) : L0 fuel (n0 + 1) (t0 p0 x0q1) (k0  fuel) =
  (bif (decide ((x0q1 : Int) < (((avD (cutC p0) 0).length : Nat) : Int))) then
  (idx x0q1 (avD (cutC p0) 0).length).bind fun j9 =>
  ((avD (cutC p0) 0)[j9]?).bind fun v10 =>
  (bif (decide ((v10 : Int) > 10000)) then
  some ([.one ((.bool true), false)], [])
  else
  (idx x0q1 (avD (cutC p0) 0).length).bind fun j11 =>
  ((avD (cutC p0) 0)[j11]?).bind fun v12 =>
  (bif (decide ((v12 : Int) < (-10000))) then
  some ([.one ((.bool true), false)], [])
  else
  L0 fuel n0 (t0 p0 ((IntKind.wrap .i64 (x0q1 + 1)))) (k0  fuel)))
  else
  (bif decide (((avS (cutC p0) 0)).length < 9223372036854775808) && decide (((avD (cutC p0) 0)).length < 9223372036854775808) then
  (bif decide (((wiS ((avS (cutC p0) 0)) ((avD (cutC p0) 0)) ((dWn (cutC p0))))).length < 9223372036854775808) && decide (((wiD ((avS (cutC p0) 0)) ((avD (cutC p0) 0)) ((dWn (cutC p0))))).length < 9223372036854775808) then
  (bif (!(wiB ((avS (cutC p0) 0)) ((avD (cutC p0) 0)) ((dWn (cutC p0))))) then
  some ([.one ((.bool true), false)], [])
  else
  (bif (rdxB 1 ((wiS ((avS (cutC p0) 0)) ((avD (cutC p0) 0)) ((dWn (cutC p0))))) ((wiD ((avS (cutC p0) 0)) ((avD (cutC p0) 0)) ((dWn (cutC p0))))) 1) then
  (bif decide (((rdxS 1 ((wiS ((avS (cutC p0) 0)) ((avD (cutC p0) 0)) ((dWn (cutC p0))))) ((wiD ((avS (cutC p0) 0)) ((avD (cutC p0) 0)) ((dWn (cutC p0))))) 1)).length < 9223372036854775808) && decide (((rdxD 1 ((wiS ((avS (cutC p0) 0)) ((avD (cutC p0) 0)) ((dWn (cutC p0))))) ((wiD ((avS (cutC p0) 0)) ((avD (cutC p0) 0)) ((dWn (cutC p0))))) 1)).length < 9223372036854775808) && decide (((msS ((avS (cutC p0) 0)) ((avD (cutC p0) 0)) ((dWn (cutC p0))))).length < 9223372036854775808) && decide (((msD ((avS (cutC p0) 0)) ((avD (cutC p0) 0)) ((dWn (cutC p0))))).length < 9223372036854775808) then
  some ([.one ((.bool (decide (((rdxS 1 ((wiS ((avS (cutC p0) 0)) ((avD (cutC p0) 0)) ((dWn (cutC p0))))) ((wiD ((avS (cutC p0) 0)) ((avD (cutC p0) 0)) ((dWn (cutC p0))))) 1)) = ((msS ((avS (cutC p0) 0)) ((avD (cutC p0) 0)) ((dWn (cutC p0)))))) && decide (((rdxD 1 ((wiS ((avS (cutC p0) 0)) ((avD (cutC p0) 0)) ((dWn (cutC p0))))) ((wiD ((avS (cutC p0) 0)) ((avD (cutC p0) 0)) ((dWn (cutC p0))))) 1)) = ((msD ((avS (cutC p0) 0)) ((avD (cutC p0) 0)) ((dWn (cutC p0)))))))), false)], [])
  else
  none)
  else
  some ([.one ((.bool false), false)], [])))
  else
  none)
  else
  none)) := by kernel_rfl
end laws_FnMoveSums
theorem laws_FnMoveSums.ok_of (hX : ∀ E ∈ laws_FnMoveSums.X, CallSpec Try.prog E) (h : ∀ (bs : List Int), (bytesB bs) = true → ∃ fuel, runF Try.prog laws_FnMoveSums.X laws_FnMoveSums.I 0 fuel 5 Try.f5 [.d (.ints .u8 bs)] = some ([.one ((.bool true), false)], [])) : CallSpec Try.prog laws_FnMoveSums.E :=
  callSpec_of (d := 0) hX (by kernel_rfl) laws_FnMoveSums.I_ok (by kernel_rfl) (by kernel_rfl) (by kernel_rfl) (fun _ _ _ _ h => by dsimp only [laws_FnMoveSums.E] at h; cases h) (fun xs hp => by
    dsimp only [laws_FnMoveSums.E] at hp ⊢
    split at hp
    · exact h _ hp
    · cases hp)
theorem laws_FnMoveSums.ok : CallSpec Try.prog laws_FnMoveSums.E := laws_FnMoveSums.ok_of (by simp [laws_FnMoveSums.X, spec_DrawMoveSums.ok, impl_MoveSums.ok, spec_MoveSums.ok, laws_equalArray.ok, impl_WindowsOf.ok, impl_ReduceAxis.ok]) fun bs h => by
  obtain ⟨F, hF⟩ : ∃ F : Nat, 4000 < F := ⟨4001, by omega⟩
  refine ⟨F, ?_⟩
  rw [laws_FnMoveSums.e]
  by_cases hl : ((bs.length : Nat) : Int) > 1048576
  · rw [decide_eq_true hl]; rfl
  rw [decide_eq_false hl, cond_false, h, cond_true]
  have r0 := cut_ok h (p := 0) (by omega) (by omega)
  obtain ⟨a1, a2, a3, a4⟩ := av_bd r0 (by omega)
  have hsm : vcB (avS (cutC bs) 0) (avD (cutC bs) 0) = true → (avD (cutC bs) 0).length ≤ 20 := fun h => av_small r0 h
  obtain ⟨sh, hsh⟩ : ∃ x, avS (cutC bs) 0 = x := ⟨_, rfl⟩
  obtain ⟨da, hda⟩ : ∃ x, avD (cutC bs) 0 = x := ⟨_, rfl⟩
  obtain ⟨n, hn⟩ : ∃ x, dWn (cutC bs) = x := ⟨_, rfl⟩
  rw [hsh] at a1
  rw [hda] at a2
  rw [hsh, hda] at hsm
  have g1 := lt_of (xs := sh) (by omega)
  have g2 := lt_of (xs := da) (by omega)
  have w := ms_len sh da n
  have g3 := lt_of (xs := msS sh da n) (by omega)
  have g4 := lt_of (xs := msD sh da n) (by omega)
  simp only [hsh, hda, hn]
  cases hb : wiK sh da n with
  | false => simp only [Bool.and_self, Bool.and_true, Bool.true_and, cond_true, cond_false, Bool.not_true, Bool.not_false, bne_self_eq_false, beq_self_eq_true, decide_true, eq_self, g1, g2, g3, g4]
  | true =>
    obtain ⟨k, rfl, k1, k2, hvc⟩ := wiK_inv hb
    have hl := hsm hvc
    have hvo := vcB_vec hvc
    have hS : ∀ q : Nat, 1 ≤ q → q ≤ da.length + 1 → wiK sh da (q : Int) = true ∧ msS sh da (q : Int) = [((da.length + 1 - q : Nat) : Int)] ∧ msD sh da (q : Int) = msN da q := fun q h1 h2 => by
      have h3 := wiK_of hvc h1 h2
      exact ⟨h3, by simp only [msS, h3, cond_true, Int.toNat_natCast], by simp only [msD, h3, cond_true, Int.toNat_natCast]⟩
    simp only [Bool.and_self, Bool.and_true, Bool.true_and, cond_true, cond_false, Bool.not_true, Bool.not_false, bne_self_eq_false, beq_self_eq_true, decide_true, eq_self, g1, g2, g3, g4]
    refine cnt_loop (N := da.length) (fun m i (_ : Unit) => laws_FnMoveSums.L0 F m (laws_FnMoveSums.t0 bs (i : Int)) (laws_FnMoveSums.k0 F)) (fun j _ => ∀ i, i < j → -10000 ≤ da.getD i 0 ∧ da.getD i 0 ≤ 10000) ?_ ?_ F 0 () (by omega) (by omega) (fun i hi => by omega)
    · intro m _ hI
      have hm : ∀ x ∈ da, -10000 ≤ x ∧ x ≤ 10000 := fun x hx => by
        obtain ⟨i, hi, rfl⟩ := List.getElem_of_mem hx
        rw [gEd hi]
        exact hI i hi
      rw [laws_FnMoveSums.s0]
      simp only [hsh, hda, hn]
      rw [dge (by omega), cond_false]
      have ww := wi_len sh da (k : Int)
      have g5 := lt_of (xs := wiS sh da (k : Int)) (by omega)
      have g6 := lt_of (xs := wiD sh da (k : Int)) (by omega)
      cases hB : wiB sh da (k : Int) with
      | false => simp only [Bool.and_self, Bool.and_true, Bool.true_and, cond_true, cond_false, Bool.not_true, Bool.not_false, bne_self_eq_false, beq_self_eq_true, decide_true, eq_self, g1, g2, g5, g6]
      | true =>
        obtain ⟨k', q0, _, _, _, e1, e2, hvw⟩ := wiB_eq hB
        have : k' = k := by omega
        subst this
        obtain ⟨r1, r2, r3⟩ := wi_rdx (op := 1) rfl k2 (by omega) k1 hvw
        obtain ⟨_, s1, s2⟩ := hS k' k1 k2
        have er : (tab (da.length + 1 - k') fun i => redF 1 (wpL da k' i)) = msN da k' := by
          unfold msN
          exact tab_congr fun i _ => wp_sum (by omega) hm
        rw [er] at r3
        have g7 := lt_of (xs := ([((da.length + 1 - k' : Nat) : Int)] : List Int)) (by simp)
        have g8 := lt_of (xs := msN da k') (by rw [msN_length]; omega)
        rw [e1] at g5
        rw [e2] at g6
        rw [e1, e2, r1, r2, r3, s1, s2]
        simp only [Bool.and_self, Bool.and_true, Bool.true_and, cond_true, cond_false, Bool.not_true, Bool.not_false, bne_self_eq_false, beq_self_eq_true, decide_true, eq_self, g1, g2, g5, g6, g7, g8]
    · intro m j _ hj hI
      rw [laws_FnMoveSums.s0]
      simp only [hsh, hda, hn]
      rw [dlt hj, cond_true, idx_nat hj]
      simp only [Option.bind_some, getD_get hj]
      by_cases c1 : da.getD j 0 > 10000
      · refine .inl ?_
        rw [decide_eq_true c1]; rfl
      by_cases c2 : da.getD j 0 < -10000
      · refine .inl ?_
        rw [decide_eq_false c1, decide_eq_true c2]; rfl
      rw [decide_eq_false c1, decide_eq_false c2, w1 (by omega)]
      refine .inr ⟨(), fun i hi => ?_, rfl⟩
      by_cases hij : i = j
      · subst hij; omega
      · exact hI i (by omega)

namespace laws_FnMoveSumsOne
noncomputable def E : Entry := ⟨6, true, false, fun | [.d (.ints .u8 bs)] => bytesB bs | _ => false, fun | [.d (.ints .u8 bs)] => ([.one ((.bool true), false)], []) | _ => ([], []), fun _ => [], false, fun _ => none⟩
end laws_FnMoveSumsOne
namespace laws_FnMoveSumsOne
noncomputable def X : List Entry := [spec_DrawMoveSums.E, impl_MoveSums.E, spec_MoveSums.E, laws_equalArray.E]
noncomputable def I : List Inl := [⟨6, Try.f6, ⟨[18, 24, 30, 62, 70], [], [], [], [], []⟩⟩]
theorem I_ok : ∀ i ∈ I, Try.prog.funcs[i.f]? = some i.fn ∧ (i.fn.name == "runtime.NumGoroutine") = false := by
  intro i hi
  simp only [I, List.mem_cons, List.not_mem_nil, or_false] at hi
  subst hi
  exact ⟨by kernel_rfl, by kernel_rfl⟩
theorem e (fuel : Nat) (p0 : List Int) : runF Try.prog X I 0 fuel 6 Try.f6 [.d (.ints .u8 p0)] =
  (bif (decide ((((p0.length : Nat) : Int) : Int) > 1048576)) then
  some ([.one ((.bool true), false)], [])
  else
  (bif bytesB p0 then
  (bif decide (((avS (cutC p0) 0)).length < 9223372036854775808) && decide (((avD (cutC p0) 0)).length < 9223372036854775808) then
  (bif decide (((avS (cutC p0) 0)).length < 9223372036854775808) && decide (((avD (cutC p0) 0)).length < 9223372036854775808) then
  (bif decide (((msS ((avS (cutC p0) 0)) ((avD (cutC p0) 0)) ((dWn (cutC p0))))).length < 9223372036854775808) && decide (((msD ((avS (cutC p0) 0)) ((avD (cutC p0) 0)) ((dWn (cutC p0))))).length < 9223372036854775808) && decide (((msS ((avS (cutC p0) 0)) ((avD (cutC p0) 0)) ((dWn (cutC p0))))).length < 9223372036854775808) && decide (((msD ((avS (cutC p0) 0)) ((avD (cutC p0) 0)) ((dWn (cutC p0))))).length < 9223372036854775808) then
  (bif (!(decide (((msS ((avS (cutC p0) 0)) ((avD (cutC p0) 0)) ((dWn (cutC p0))))) = ((msS ((avS (cutC p0) 0)) ((avD (cutC p0) 0)) ((dWn (cutC p0)))))) && decide (((msD ((avS (cutC p0) 0)) ((avD (cutC p0) 0)) ((dWn (cutC p0))))) = ((msD ((avS (cutC p0) 0)) ((avD (cutC p0) 0)) ((dWn (cutC p0)))))))) then
  (bif decide (((msS ((avS (cutC p0) 0)) ((avD (cutC p0) 0)) ((dWn (cutC p0))))).length < 9223372036854775808) && decide (((msD ((avS (cutC p0) 0)) ((avD (cutC p0) 0)) ((dWn (cutC p0))))).length < 9223372036854775808) && decide (((msS ((avS (cutC p0) 0)) ((avD (cutC p0) 0)) ((dWn (cutC p0))))).length < 9223372036854775808) && decide (((msD ((avS (cutC p0) 0)) ((avD (cutC p0) 0)) ((dWn (cutC p0))))).length < 9223372036854775808) then
  (bif (decide (((msS ((avS (cutC p0) 0)) ((avD (cutC p0) 0)) ((dWn (cutC p0))))) = ((msS ((avS (cutC p0) 0)) ((avD (cutC p0) 0)) ((dWn (cutC p0)))))) && decide (((msD ((avS (cutC p0) 0)) ((avD (cutC p0) 0)) ((dWn (cutC p0))))) = ((msD ((avS (cutC p0) 0)) ((avD (cutC p0) 0)) ((dWn (cutC p0))))))) then
  some ([.one ((.bool ((wiK ((avS (cutC p0) 0)) ((avD (cutC p0) 0)) ((dWn (cutC p0)))) == (wiK ((avS (cutC p0) 0)) ((avD (cutC p0) 0)) ((dWn (cutC p0)))))), false)], [])
  else
  some ([.one ((.bool false), false)], []))
  else
  none)
  else
  (bif (!((wiK ((avS (cutC p0) 0)) ((avD (cutC p0) 0)) ((dWn (cutC p0)))) == (wiK ((avS (cutC p0) 0)) ((avD (cutC p0) 0)) ((dWn (cutC p0)))))) then
  (bif decide (((msS ((avS (cutC p0) 0)) ((avD (cutC p0) 0)) ((dWn (cutC p0))))).length < 9223372036854775808) && decide (((msD ((avS (cutC p0) 0)) ((avD (cutC p0) 0)) ((dWn (cutC p0))))).length < 9223372036854775808) && decide (((msS ((avS (cutC p0) 0)) ((avD (cutC p0) 0)) ((dWn (cutC p0))))).length < 9223372036854775808) && decide (((msD ((avS (cutC p0) 0)) ((avD (cutC p0) 0)) ((dWn (cutC p0))))).length < 9223372036854775808) then
  (bif (decide (((msS ((avS (cutC p0) 0)) ((avD (cutC p0) 0)) ((dWn (cutC p0))))) = ((msS ((avS (cutC p0) 0)) ((avD (cutC p0) 0)) ((dWn (cutC p0)))))) && decide (((msD ((avS (cutC p0) 0)) ((avD (cutC p0) 0)) ((dWn (cutC p0))))) = ((msD ((avS (cutC p0) 0)) ((avD (cutC p0) 0)) ((dWn (cutC p0))))))) then
  some ([.one ((.bool ((wiK ((avS (cutC p0) 0)) ((avD (cutC p0) 0)) ((dWn (cutC p0)))) == (wiK ((avS (cutC p0) 0)) ((avD (cutC p0) 0)) ((dWn (cutC p0)))))), false)], [])
  else
  some ([.one ((.bool false), false)], []))
  else
  none)
  else
  (bif (!(wiK ((avS (cutC p0) 0)) ((avD (cutC p0) 0)) ((dWn (cutC p0))))) then
  (bif decide (((msS ((avS (cutC p0) 0)) ((avD (cutC p0) 0)) ((dWn (cutC p0))))).length < 9223372036854775808) && decide (((msD ((avS (cutC p0) 0)) ((avD (cutC p0) 0)) ((dWn (cutC p0))))).length < 9223372036854775808) && decide (((msS ((avS (cutC p0) 0)) ((avD (cutC p0) 0)) ((dWn (cutC p0))))).length < 9223372036854775808) && decide (((msD ((avS (cutC p0) 0)) ((avD (cutC p0) 0)) ((dWn (cutC p0))))).length < 9223372036854775808) then
  (bif (decide (((msS ((avS (cutC p0) 0)) ((avD (cutC p0) 0)) ((dWn (cutC p0))))) = ((msS ((avS (cutC p0) 0)) ((avD (cutC p0) 0)) ((dWn (cutC p0)))))) && decide (((msD ((avS (cutC p0) 0)) ((avD (cutC p0) 0)) ((dWn (cutC p0))))) = ((msD ((avS (cutC p0) 0)) ((avD (cutC p0) 0)) ((dWn (cutC p0))))))) then
  some ([.one ((.bool ((wiK ((avS (cutC p0) 0)) ((avD (cutC p0) 0)) ((dWn (cutC p0)))) == (wiK ((avS (cutC p0) 0)) ((avD (cutC p0) 0)) ((dWn (cutC p0)))))), false)], [])
  else
  some ([.one ((.bool false), false)], []))
  else
  none)
  else
  (bif (((((avD (cutC p0) 0).length : Nat) : Int) : Int) == 0) then
  (bif decide (((msS ((avS (cutC p0) 0)) ((avD (cutC p0) 0)) ((dWn (cutC p0))))).length < 9223372036854775808) && decide (((msD ((avS (cutC p0) 0)) ((avD (cutC p0) 0)) ((dWn (cutC p0))))).length < 9223372036854775808) && decide (((msS ((avS (cutC p0) 0)) ((avD (cutC p0) 0)) ((dWn (cutC p0))))).length < 9223372036854775808) && decide (((msD ((avS (cutC p0) 0)) ((avD (cutC p0) 0)) ((dWn (cutC p0))))).length < 9223372036854775808) then
  (bif (decide (((msS ((avS (cutC p0) 0)) ((avD (cutC p0) 0)) ((dWn (cutC p0))))) = ((msS ((avS (cutC p0) 0)) ((avD (cutC p0) 0)) ((dWn (cutC p0)))))) && decide (((msD ((avS (cutC p0) 0)) ((avD (cutC p0) 0)) ((dWn (cutC p0))))) = ((msD ((avS (cutC p0) 0)) ((avD (cutC p0) 0)) ((dWn (cutC p0))))))) then
  some ([.one ((.bool ((wiK ((avS (cutC p0) 0)) ((avD (cutC p0) 0)) ((dWn (cutC p0)))) == (wiK ((avS (cutC p0) 0)) ((avD (cutC p0) 0)) ((dWn (cutC p0)))))), false)], [])
  else
  some ([.one ((.bool false), false)], []))
  else
  none)
  else
  (bif decide (((avS (cutC p0) 0)).length < 9223372036854775808) && decide (((avD (cutC p0) 0)).length < 9223372036854775808) then
  (bif decide (((avS (cutC p0) 0)).length < 9223372036854775808) && decide (((avD (cutC p0) 0)).length < 9223372036854775808) then
  (bif (wiK ((avS (cutC p0) 0)) ((avD (cutC p0) 0)) 1) then
  (bif decide (((msS ((avS (cutC p0) 0)) ((avD (cutC p0) 0)) 1)).length < 9223372036854775808) && decide (((msD ((avS (cutC p0) 0)) ((avD (cutC p0) 0)) 1)).length < 9223372036854775808) && decide (((avS (cutC p0) 0)).length < 9223372036854775808) && decide (((avD (cutC p0) 0)).length < 9223372036854775808) then
  (bif (decide (((msS ((avS (cutC p0) 0)) ((avD (cutC p0) 0)) 1)) = ((avS (cutC p0) 0))) && decide (((msD ((avS (cutC p0) 0)) ((avD (cutC p0) 0)) 1)) = ((avD (cutC p0) 0)))) then
  (bif (wiK ((avS (cutC p0) 0)) ((avD (cutC p0) 0)) ((((avD (cutC p0) 0).length : Nat) : Int))) then
  (bif (((((msD ((avS (cutC p0) 0)) ((avD (cutC p0) 0)) ((((avD (cutC p0) 0).length : Nat) : Int))).length : Nat) : Int) : Int) == 1) then
  some ([.one ((.bool (((((msD ((avS (cutC p0) 0)) ((avD (cutC p0) 0)) ((dWn (cutC p0)))).length : Nat) : Int) : Int) == (IntKind.wrap .i64 ((IntKind.wrap .i64 ((((avD (cutC p0) 0).length : Nat) : Int) - (dWn (cutC p0)))) + 1)))), false)], [])
  else
  some ([.one ((.bool false), false)], []))
  else
  some ([.one ((.bool false), false)], []))
  else
  some ([.one ((.bool false), false)], []))
  else
  none)
  else
  some ([.one ((.bool false), false)], []))
  else
  none)
  else
  none)))))
  else
  none)
  else
  none)
  else
  none)
  else
  none)) := by kernel_rfl
end laws_FnMoveSumsOne
theorem laws_FnMoveSumsOne.ok_of (hX : ∀ E ∈ laws_FnMoveSumsOne.X, CallSpec Try.prog E) (h : ∀ (bs : List Int), (bytesB bs) = true → ∃ fuel, runF Try.prog laws_FnMoveSumsOne.X laws_FnMoveSumsOne.I 0 fuel 6 Try.f6 [.d (.ints .u8 bs)] = some ([.one ((.bool true), false)], [])) : CallSpec Try.prog laws_FnMoveSumsOne.E :=
  callSpec_of (d := 0) hX (by kernel_rfl) laws_FnMoveSumsOne.I_ok (by kernel_rfl) (by kernel_rfl) (by kernel_rfl) (fun _ _ _ _ h => by dsimp only [laws_FnMoveSumsOne.E] at h; cases h) (fun xs hp => by
    dsimp only [laws_FnMoveSumsOne.E] at hp ⊢
    split at hp
    · exact h _ hp
    · cases hp)
theorem laws_FnMoveSumsOne.ok : CallSpec Try.prog laws_FnMoveSumsOne.E := laws_FnMoveSumsOne.ok_of (by simp [laws_FnMoveSumsOne.X, spec_DrawMoveSums.ok, impl_MoveSums.ok, spec_MoveSums.ok, laws_equalArray.ok]) fun bs h => by
  obtain ⟨F, hF⟩ : ∃ F : Nat, 4000 < F := ⟨4001, by omega⟩
  refine ⟨F, ?_⟩
  rw [laws_FnMoveSumsOne.e]
  by_cases hl : ((bs.length : Nat) : Int) > 1048576
  · rw [decide_eq_true hl]; rfl
  rw [decide_eq_false hl, cond_false, h, cond_true]
  have r0 := cut_ok h (p := 0) (by omega) (by omega)
  obtain ⟨a1, a2, a3, a4⟩ := av_bd r0 (by omega)
  have hsm : vcB (avS (cutC bs) 0) (avD (cutC bs) 0) = true → (avD (cutC bs) 0).length ≤ 20 := fun h => av_small r0 h
  obtain ⟨sh, hsh⟩ : ∃ x, avS (cutC bs) 0 = x := ⟨_, rfl⟩
  obtain ⟨da, hda⟩ : ∃ x, avD (cutC bs) 0 = x := ⟨_, rfl⟩
  obtain ⟨n, hn⟩ : ∃ x, dWn (cutC bs) = x := ⟨_, rfl⟩
  rw [hsh] at a1
  rw [hda] at a2
  rw [hsh, hda] at hsm
  have g1 := lt_of (xs := sh) (by omega)
  have g2 := lt_of (xs := da) (by omega)
  have w := ms_len sh da n
  have g3 := lt_of (xs := msS sh da n) (by omega)
  have g4 := lt_of (xs := msD sh da n) (by omega)
  simp only [hsh, hda, hn]
  cases hb : wiK sh da n with
  | false => simp only [Bool.and_self, Bool.and_true, Bool.true_and, cond_true, cond_false, Bool.not_true, Bool.not_false, bne_self_eq_false, beq_self_eq_true, decide_true, eq_self, g1, g2, g3, g4]
  | true =>
    obtain ⟨k, rfl, k1, k2, hvc⟩ := wiK_inv hb
    have hl := hsm hvc
    have hvo := vcB_vec hvc
    have hS : ∀ q : Nat, 1 ≤ q → q ≤ da.length + 1 → wiK sh da (q : Int) = true ∧ msS sh da (q : Int) = [((da.length + 1 - q : Nat) : Int)] ∧ msD sh da (q : Int) = msN da q := fun q h1 h2 => by
      have h3 := wiK_of hvc h1 h2
      exact ⟨h3, by simp only [msS, h3, cond_true, Int.toNat_natCast], by simp only [msD, h3, cond_true, Int.toNat_natCast]⟩
    by_cases h0 : da.length = 0
    · have e0 : ((((da.length : Nat) : Int) : Int) == 0) = true := by rw [beq_iff_eq]; omega
      simp only [Bool.and_self, Bool.and_true, Bool.true_and, cond_true, cond_false, Bool.not_true, Bool.not_false, bne_self_eq_false, beq_self_eq_true, decide_true, eq_self, g1, g2, g3, g4, e0]
    · have e0 : ((((da.length : Nat) : Int) : Int) == 0) = false := beq0 (by omega)
      obtain ⟨o0, o1, o2⟩ := hS 1 (by omega) (by omega)
      obtain ⟨l0, l1, l2⟩ := hS da.length (by omega) (by omega)
      obtain ⟨_, s1, s2⟩ := hS k k1 k2
      have o0' : wiK sh da 1 = true := o0
      have o1' : msS sh da 1 = sh := by
        have : msS sh da 1 = [((da.length + 1 - 1 : Nat) : Int)] := o1
        rw [this, Nat.add_sub_cancel]; exact (vcB_inv hvc).2.1.symm
      have o2' : msD sh da 1 = da := by
        have : msD sh da 1 = msN da 1 := o2
        rw [this, ms_one hvo]
      have g5 := lt_of (xs := sh) (by omega)
      have e1 : (((msD sh da ((da.length : Nat) : Int)).length : Nat) : Int) = 1 := by rw [l2, msN_length]; omega
      have e2 : (((msD sh da ((k : Nat) : Int)).length : Nat) : Int) = IntKind.wrap .i64 (IntKind.wrap .i64 (((da.length : Nat) : Int) - (k : Int)) + 1) := by
        rw [s2, msN_length, wS (x := ((da.length : Nat) : Int) - (k : Int)) (by omega) (by omega), wS (by omega) (by omega)]; omega
      rw [o0', o1', o2', l0, e1, e2]
      simp only [Bool.and_self, Bool.and_true, Bool.true_and, cond_true, cond_false, Bool.not_true, Bool.not_false, bne_self_eq_false, beq_self_eq_true, decide_true, eq_self, g1, g2, g3, g4, e0]

end Go.Ab
