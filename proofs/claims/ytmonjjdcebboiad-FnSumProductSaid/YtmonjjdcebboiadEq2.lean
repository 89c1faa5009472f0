import Derived.Test.YtmonjjdcebboiadEq1
import Derived.Test.YtmonjjdcebboiadProg
import Derived.Test.YtmonjjdcebboiadChecked
open Go Go.Ab Go.Proofs
set_option maxRecDepth 100000
set_option linter.unusedVariables false
set_option linter.unusedSimpArgs false
namespace Go.Ab
namespace impl_foldRight_int_int
noncomputable def E : Entry := ⟨78, true, false, fun | [.d (.ints .i64 xs), .d (.int .i64 s), .d (.fn false dom G)] => decide (xs.length < 9223372036854775808) && fdB dom G xs s | _ => false, fun | [.d (.ints .i64 xs), .d (.int .i64 s), .d (.fn false dom G)] => ([.one ((.int .i64 (foldW G xs s)), false)], []) | _ => ([], []), fun _ => [], false, fun _ => none⟩
end impl_foldRight_int_int
namespace impl_foldRight_int_int
noncomputable def X : List Entry := []
noncomputable def I : List Inl := [⟨78, Try.f78, ⟨[], [(1, [1, 2, 3, 7, 8, 9, 10, 11, 12, 13, 14, 15, 16, 17])], [], [], [], []⟩⟩, ⟨107, Try.f107, ⟨[], [], [(1, [1])], [], [], []⟩⟩, ⟨116, Try.f116, ⟨[], [(1000001, [2, 4, 5, 6, 7, 8, 9, 10, 11, 12, 13, 14, 15, 16, 17, 18])], [], [], [], []⟩⟩]
theorem I_ok : ∀ i ∈ I, Try.prog.funcs[i.f]? = some i.fn ∧ (i.fn.name == "runtime.NumGoroutine") = false := by
  intro i hi
  simp only [I, List.mem_cons, List.not_mem_nil, or_false] at hi
  rcases hi with rfl | rfl | rfl
  all_goals exact ⟨by kernel_rfl, by kernel_rfl⟩
noncomputable abbrev L0 (fuel n : Nat) (s : St) (k : Kont) := lAt Try.prog X I fuel true 3 false 116 (bodyOf Try.f116) [1, 0] n s k
noncomputable abbrev k0  (fuel : Nat) : Kont := (kAt Try.prog X I fuel true 3 false 116 (bodyOf Try.f116) [1, 0] [] (endFn Try.prog Try.f116 18 (kRange (kAt Try.prog X I fuel true 4 false 78 (bodyOf Try.f78) [1, 0, 1, 0] [] (endK Try.prog Try.f78)))))
noncomputable def t0 (p0 : List Int) (p2d : List Q → Bool) (p2g : List Q → Int) (x0q1 : Int) (x0q6 : Int) : St := ⟨[(.yld 1000000001), (.imm (.pbox [(.ints .i64 p0)])), .dead, (.imm (.int .i64 x0q1)), .dead, .dead, .dead, .dead, .dead, .dead, .dead, .dead, .dead, .dead, .dead, .dead, .dead, .dead, .dead], hOf [(1000000000, .dfr), (1000000001, (.loop 78 [(.imm (.ints .i64 p0)), .dead, .dead, .dead, (.ptr 1000000002 0 0), (.ptr 1000000003 0 0), (.imm (.int .i64 0)), .dead, .dead, (.imm (.ints .i64 p0)), (.imm (.clo 116 [(.pbox [(.ints .i64 p0)])])), .dead, .dead, .dead, .dead, .dead, .dead, .dead] [11, 12] (cAt (bodyOf Try.f78) [1, 0, 1, 0, 0]) (cAt (bodyOf Try.f78) [1, 0, 1, 0, 1]) .ready)), (1000000002, (.box [(.imm (.int .i64 x0q6))])), (1000000003, (.box [(.imm (.fn false p2d p2g))]))], [(.imm (.ints .i64 p0)), .dead, .dead, .dead, (.ptr 1000000002 0 0), (.ptr 1000000003 0 0), (.imm (.int .i64 0)), .dead, .dead, (.imm (.ints .i64 p0)), (.imm (.clo 116 [(.pbox [(.ints .i64 p0)])])), .dead, .dead, .dead, .dead, .dead, .dead, .dead, (.tup [(.dfr 1000000000)]), (.yld 1000000001)], []⟩
theorem e (fuel : Nat) (p0 : List Int) (p1 : Int) (p2d : List Q → Bool) (p2g : List Q → Int) : runF Try.prog X I 4 fuel 78 Try.f78 [.d (.ints .i64 p0), .d (.int .i64 p1), .d (.fn false p2d p2g)] =
  L0 fuel fuel (t0 p0 p2d p2g ((IntKind.wrap .i64 (((p0.length : Nat) : Int) - 1))) p1) (k0  fuel) := by kernel_rfl
theorem s0 (fuel n0 : Nat) (p0 : List Int) (p2d : List Q → Bool) (p2g : List Q → Int) (x0q1 : Int) (x0q6 : Int) : L0 fuel (n0 + 1) (t0 p0 p2d p2g x0q1 x0q6) (k0  fuel) =
  (bif (decide ((x0q1 : Int) ≥ 0)) then
  (idx x0q1 p0.length).bind fun j5 =>
  (p0[j5]?).bind fun v6 =>
  (bif (p2d [Q.i v6, Q.i x0q6]) then
  L0 fuel n0 (t0 p0 p2d p2g ((IntKind.wrap .i64 (x0q1 - 1))) ((p2g [Q.i v6, Q.i x0q6]))) (k0  fuel)
  else
  none)
  else
  some ([.one ((.int .i64 x0q6), false)], [])) := by kernel_rfl
end impl_foldRight_int_int
theorem impl_foldRight_int_int.ok_of (hX : ∀ E ∈ impl_foldRight_int_int.X, CallSpec Try.prog E) (h : ∀ (xs : List Int) (s : Int) (dom : List Q → Bool) (G : List Q → Int), (decide (xs.length < 9223372036854775808) && fdB dom G xs s) = true → ∃ fuel, runF Try.prog impl_foldRight_int_int.X impl_foldRight_int_int.I 4 fuel 78 Try.f78 [.d (.ints .i64 xs), .d (.int .i64 s), .d (.fn false dom G)] = some ([.one ((.int .i64 (foldW G xs s)), false)], [])) : CallSpec Try.prog impl_foldRight_int_int.E :=
  callSpec_of (d := 4) hX (by kernel_rfl) impl_foldRight_int_int.I_ok (by kernel_rfl) (by kernel_rfl) (by kernel_rfl) (fun _ _ _ _ h => by dsimp only [impl_foldRight_int_int.E] at h; cases h) (fun xs hp => by
    dsimp only [impl_foldRight_int_int.E] at hp ⊢
    split at hp
    · exact h _ _ _ _ hp
    · cases hp)
theorem impl_foldRight_int_int.ok : CallSpec Try.prog impl_foldRight_int_int.E := impl_foldRight_int_int.ok_of (by simp [impl_foldRight_int_int.X]) fun xs s dom G h => ⟨xs.length + 1, by
  simp only [Bool.and_eq_true, decide_eq_true_eq] at h
  rw [impl_foldRight_int_int.e, wS (by omega) (by omega), show ((xs.length : Nat) : Int) - 1 = ((xs.length : Nat) : Int) - 1 - ((0 : Nat) : Int) by omega]
  have hd : ∀ i, i < xs.length → fdB dom G (xs.drop i) s = true := by
    intro i hi
    clear hi
    induction i with
    | zero => simpa using h.2
    | succ i ih =>
      by_cases hl : i < xs.length
      · rw [dropS hl] at ih
        simp only [fdB, Bool.and_eq_true] at ih
        exact ih.1
      · rw [dropE (by omega)]; rfl
  refine run_loop (N := xs.length) (fun n j acc => impl_foldRight_int_int.L0 (xs.length + 1) n (impl_foldRight_int_int.t0 xs dom G (((xs.length : Nat) : Int) - 1 - (j : Int)) acc) (impl_foldRight_int_int.k0 (xs.length + 1))) (fun j acc => acc = foldW G (xs.drop (xs.length - j)) s) ?_ ?_ (xs.length + 1) 0 _ (by omega) (by omega) (by simp [foldW])
  · intro n acc ho
    rw [impl_foldRight_int_int.s0, decide_eq_false (by omega), ho, Nat.sub_self, List.drop_zero]
    rfl
  · intro n j acc hj ho
    obtain ⟨k, hk⟩ : ∃ k, xs.length - j = k + 1 := ⟨xs.length - j - 1, by omega⟩
    have hkl : k < xs.length := by omega
    have e1 : ((xs.length : Nat) : Int) - 1 - (j : Int) = (k : Int) := by omega
    have hdk := hd k hkl
    rw [dropS hkl] at hdk
    simp only [fdB, Bool.and_eq_true] at hdk
    have hg : xs.getD k 0 = xs[k] := by simp [hkl]
    rw [e1, impl_foldRight_int_int.s0, decide_eq_true (by omega), idx_nat hkl, wS (by omega) (by omega)]
    simp only [cond_true, Option.bind_some, getD_get hkl]
    rw [ho, hk, hg, hdk.2, cond_true]
    refine ⟨_, ?_, by rw [show ((xs.length : Nat) : Int) - 1 - ((j + 1 : Nat) : Int) = (k : Int) - 1 by omega]⟩
    rw [show xs.length - (j + 1) = k by omega, dropS hkl]
    rfl⟩

namespace impl_reductionOf_1
noncomputable def E : Entry := ⟨76, true, false, fun | [.d (.ints .i64 xs), .d (.pbox [(.int .i64 op)]), .d (.pbox [(.fn false dom G)])] => rdB dom G xs | _ => false, fun | [.d (.ints .i64 xs), .d (.pbox [(.int .i64 op)]), .d (.pbox [(.fn false dom G)])] => ([.one ((.int .i64 (redG op G xs)), false)], []) | _ => ([], []), fun _ => [], false, fun | [(.pbox [(.int .i64 op)]), (.pbox [(.fn false dom G)])] => some (false, (qlB dom G), (qlv (redG op G))) | _ => none⟩
end impl_reductionOf_1
namespace impl_reductionOf_1
noncomputable def X : List Entry := [impl_NeutralOf.E, impl_foldRight_int_int.E]
noncomputable def I : List Inl := [⟨76, Try.f76, ⟨[], [], [], [(4, [0, 1, 3, 4, 2, 5, 6, 7, 8, 9])], [], []⟩⟩]
theorem I_ok : ∀ i ∈ I, Try.prog.funcs[i.f]? = some i.fn ∧ (i.fn.name == "runtime.NumGoroutine") = false := by
  intro i hi
  simp only [I, List.mem_cons, List.not_mem_nil, or_false] at hi
  subst hi
  exact ⟨by kernel_rfl, by kernel_rfl⟩
theorem e (fuel : Nat) (p0 : List Int) (f0q0 : Int) (f1q0d : List Q → Bool) (f1q0g : List Q → Int) : runF Try.prog X I 0 fuel 76 Try.f76 [.d (.ints .i64 p0), .d (.pbox [(.int .i64 f0q0)]), .d (.pbox [(.fn false f1q0d f1q0g)])] =
  (bif (decide (((IntKind.wrap .i64 (((p0.length : Nat) : Int) - 1)) : Int) < 0)) then
  some ([.one ((.int .i64 (neuV f0q0)), false)], [])
  else
  (cutEnds p0.length (none) (some (.imm (.int .i64 (IntKind.wrap .i64 (((p0.length : Nat) : Int) - 1)))))).bind fun cq1 =>
  (idx (IntKind.wrap .i64 (((p0.length : Nat) : Int) - 1)) p0.length).bind fun j2 =>
  (p0[j2]?).bind fun v3 =>
  (bif decide ((((p0.drop cq1.1).take (cq1.2 - cq1.1))).length < 9223372036854775808) && fdB f1q0d f1q0g (((p0.drop cq1.1).take (cq1.2 - cq1.1))) v3 then
  some ([.one ((.int .i64 (foldW f1q0g (((p0.drop cq1.1).take (cq1.2 - cq1.1))) v3)), false)], [])
  else
  none)) := by kernel_rfl
end impl_reductionOf_1
theorem impl_reductionOf_1.ok_of (hX : ∀ E ∈ impl_reductionOf_1.X, CallSpec Try.prog E) (hfn : ∀ ds rb dom G, impl_reductionOf_1.E.fnOf ds = some (rb, dom, G) → ∀ qs, dom qs = true → impl_reductionOf_1.E.m ((qs.map fun q => .d q.d) ++ ds.map .d) = some ([.one (fnD rb (G qs), false)], [])) (h : ∀ (xs : List Int) (op : Int) (dom : List Q → Bool) (G : List Q → Int), (rdB dom G xs) = true → ∃ fuel, runF Try.prog impl_reductionOf_1.X impl_reductionOf_1.I 0 fuel 76 Try.f76 [.d (.ints .i64 xs), .d (.pbox [(.int .i64 op)]), .d (.pbox [(.fn false dom G)])] = some ([.one ((.int .i64 (redG op G xs)), false)], [])) : CallSpec Try.prog impl_reductionOf_1.E :=
  callSpec_of (d := 0) hX (by kernel_rfl) impl_reductionOf_1.I_ok (by kernel_rfl) (by kernel_rfl) (by kernel_rfl) hfn (fun xs hp => by
    dsimp only [impl_reductionOf_1.E] at hp ⊢
    split at hp
    · exact h _ _ _ _ hp
    · cases hp)
theorem impl_reductionOf_1.ok : CallSpec Try.prog impl_reductionOf_1.E := impl_reductionOf_1.ok_of (by simp [impl_reductionOf_1.X, impl_NeutralOf.ok, impl_foldRight_int_int.ok]) (fun ds rb dom G h qs hq => by
  dsimp only [impl_reductionOf_1.E] at h
  split at h
  case h_2 => cases h
  cases h
  match qs, hq with
  | [.l xs], hq =>
    show Entry.m impl_reductionOf_1.E [.d (.ints .i64 xs), _, _] = _
    simp only [Entry.m, impl_reductionOf_1.E]
    rw [show rdB _ _ xs = true from hq]
    rfl) fun xs op dom G h => ⟨0, by
  simp only [rdB, Bool.and_eq_true, decide_eq_true_eq] at h
  rw [impl_reductionOf_1.e, wS (by omega) (by omega)]
  unfold redG
  by_cases h0 : xs.length = 0
  · rw [decide_eq_true (by omega), decide_eq_true h0]; rfl
  · obtain ⟨k, hk⟩ : ∃ k, xs.length = k + 1 := ⟨xs.length - 1, by omega⟩
    have e1 : ((xs.length : Nat) : Int) - 1 = (k : Int) := by omega
    have hkl : k < xs.length := by omega
    have e2 : xs.length - 1 = k := by omega
    rw [e2] at h
    rw [decide_eq_false (by omega), decide_eq_false h0, cond_false, e1, cut_hi (by omega), idx_nat hkl]
    simp only [Option.bind_some, getD_get hkl, List.drop_zero, Nat.sub_zero]
    rw [decide_eq_true (by simp; omega), h.2, e2]
    rfl⟩

namespace impl_reductionOf
noncomputable def E : Entry := ⟨49, true, false, fun | [.d (.int .i64 op)] => true | _ => false, fun | [.d (.int .i64 op)] => ([.one (.nilf, false)], []) | _ => ([], []), fun | [.d (.int .i64 op)] => [(opOk op, ([.one ((.fn false ql ((qlv (redF op)))), false)], []))] | _ => [], false, fun _ => none⟩
end impl_reductionOf
namespace impl_reductionOf
noncomputable def X : List Entry := [impl_functionOfTwo_f.E, impl_reductionOf_1.E]
noncomputable def I : List Inl := [⟨49, Try.f49, ⟨[], [], [(4, [1, 3])], [], [], []⟩⟩]
theorem I_ok : ∀ i ∈ I, Try.prog.funcs[i.f]? = some i.fn ∧ (i.fn.name == "runtime.NumGoroutine") = false := by
  intro i hi
  simp only [I, List.mem_cons, List.not_mem_nil, or_false] at hi
  subst hi
  exact ⟨by kernel_rfl, by kernel_rfl⟩
theorem e (fuel : Nat) (p0 : Int) : runF Try.prog X I 0 fuel 49 Try.f49 [.d (.int .i64 p0)] =
  (bif opOk p0 then
  some ([.one ((.fn false ((qlB q2 ((q2v (operF p0))))) ((qlv (redG p0 ((q2v (operF p0))))))), false)], [])
  else
  some ([.one (.nilf, false)], [])) := by kernel_rfl
end impl_reductionOf
theorem impl_reductionOf.ok_of (hX : ∀ E ∈ impl_reductionOf.X, CallSpec Try.prog E) (h : ∀ (op : Int), (true) = true → ∃ fuel, runF Try.prog impl_reductionOf.X impl_reductionOf.I 0 fuel 49 Try.f49 [.d (.int .i64 op)] = some (bif opOk op then ([.one ((.fn false ql ((qlv (redF op)))), false)], []) else ([.one (.nilf, false)], []))) : CallSpec Try.prog impl_reductionOf.E :=
  callSpec_of (d := 0) hX (by kernel_rfl) impl_reductionOf.I_ok (by kernel_rfl) (by kernel_rfl) (by kernel_rfl) (fun _ _ _ _ h => by dsimp only [impl_reductionOf.E] at h; cases h) (fun xs hp => by
    dsimp only [impl_reductionOf.E] at hp ⊢
    split at hp
    · exact h _ hp
    · cases hp)
theorem impl_reductionOf.ok : CallSpec Try.prog impl_reductionOf.E := impl_reductionOf.ok_of (by simp [impl_reductionOf.X, impl_functionOfTwo_f.ok, impl_reductionOf_1.ok]) fun op _ => ⟨0, by
  rw [impl_reductionOf.e, qlB_q2, redG_eq]
  cases opOk op <;> rfl⟩

namespace impl_axisLength
noncomputable def E : Entry := ⟨50, true, false, fun | [.d (.agg [(.ints .i64 sh), (.ints .i64 da)]), .d (.int .i64 k)] => decide (sh.length < 9223372036854775808) && decide (da.length < 9223372036854775808) | _ => false, fun | [.d (.agg [(.ints .i64 sh), (.ints .i64 da)]), .d (.int .i64 k)] => ([.one ((.int .i64 (axL sh da k)), false), .one ((.bool (axB sh da k)), false)], []) | _ => ([], []), fun _ => [], false, fun _ => none⟩
end impl_axisLength
namespace impl_axisLength
noncomputable def X : List Entry := [impl_ValidArray.E]
noncomputable def I : List Inl := [⟨50, Try.f50, ⟨[], [], [], [], [], []⟩⟩]
theorem I_ok : ∀ i ∈ I, Try.prog.funcs[i.f]? = some i.fn ∧ (i.fn.name == "runtime.NumGoroutine") = false := by
  intro i hi
  simp only [I, List.mem_cons, List.not_mem_nil, or_false] at hi
  subst hi
  exact ⟨by kernel_rfl, by kernel_rfl⟩
theorem e (fuel : Nat) (p0q0 : List Int) (p0q1 : List Int) (p1 : Int) : runF Try.prog X I 0 fuel 50 Try.f50 [.d (.agg [(.ints .i64 p0q0), (.ints .i64 p0q1)]), .d (.int .i64 p1)] =
  (bif decide (p0q0.length < 9223372036854775808) && decide (p0q1.length < 9223372036854775808) then
  (bif (!(validA p0q0 p0q1)) then
  some ([.one ((.int .i64 0), false), .one ((.bool false), false)], [])
  else
  (bif (decide ((p1 : Int) < 0)) then
  some ([.one ((.int .i64 0), false), .one ((.bool false), false)], [])
  else
  (bif (decide ((p1 : Int) ≥ ((p0q0.length : Nat) : Int))) then
  some ([.one ((.int .i64 0), false), .one ((.bool false), false)], [])
  else
  (idx p1 p0q0.length).bind fun j1 =>
  (p0q0[j1]?).bind fun v2 =>
  some ([.one ((.int .i64 v2), false), .one ((.bool true), false)], []))))
  else
  none) := by kernel_rfl
end impl_axisLength
theorem impl_axisLength.ok_of (hX : ∀ E ∈ impl_axisLength.X, CallSpec Try.prog E) (h : ∀ (sh : List Int) (da : List Int) (k : Int), (decide (sh.length < 9223372036854775808) && decide (da.length < 9223372036854775808)) = true → ∃ fuel, runF Try.prog impl_axisLength.X impl_axisLength.I 0 fuel 50 Try.f50 [.d (.agg [(.ints .i64 sh), (.ints .i64 da)]), .d (.int .i64 k)] = some ([.one ((.int .i64 (axL sh da k)), false), .one ((.bool (axB sh da k)), false)], [])) : CallSpec Try.prog impl_axisLength.E :=
  callSpec_of (d := 0) hX (by kernel_rfl) impl_axisLength.I_ok (by kernel_rfl) (by kernel_rfl) (by kernel_rfl) (fun _ _ _ _ h => by dsimp only [impl_axisLength.E] at h; cases h) (fun xs hp => by
    dsimp only [impl_axisLength.E] at hp ⊢
    split at hp
    · exact h _ _ _ hp
    · cases hp)
theorem impl_axisLength.ok : CallSpec Try.prog impl_axisLength.E := impl_axisLength.ok_of (by simp [impl_axisLength.X, impl_ValidArray.ok]) fun sh da k h => ⟨0, by
  rw [impl_axisLength.e, h]
  unfold axL axB
  cases hv : validA sh da with
  | false => rfl
  | true =>
    by_cases h0 : k < 0
    · rw [decide_eq_true h0, show axOk sh k = false by simp [axOk]; omega]; rfl
    by_cases h1 : k ≥ ((sh.length : Nat) : Int)
    · rw [decide_eq_false h0, decide_eq_true h1, show axOk sh k = false by simp [axOk]; omega]; rfl
    obtain ⟨j, rfl⟩ : ∃ j : Nat, k = j := ⟨k.toNat, by omega⟩
    have hj : j < sh.length := by omega
    rw [decide_eq_false h0, decide_eq_false h1, show axOk sh j = true by simp [axOk]; omega, idx_nat hj]
    simp [hj]⟩

namespace slices_Concat_int_int
noncomputable def E : Entry := ⟨51, false, false, fun | [.d (.seq 1 [(.ints .i64 xs), (.ints .i64 ys)])] => szB xs && szB ys | _ => false, fun | [.d (.seq 1 [(.ints .i64 xs), (.ints .i64 ys)])] => ([.one ((.ints .i64 (xs ++ ys)), true)], []) | _ => ([], []), fun _ => [], true, fun _ => none⟩
end slices_Concat_int_int
namespace slices_Concat_int_int
noncomputable def X : List Entry := []
noncomputable def I : List Inl := [⟨51, Try.f51, ⟨[24], [(9, [1, 2, 4, 5, 6, 7, 8, 9, 10, 11, 12, 13, 14, 15, 16, 17, 18, 19, 20, 21, 22, 23, 24, 25, 26, 27, 28, 29, 30, 31, 32, 33, 34, 35]), (1000003, [1, 2, 4, 5, 6, 7, 8, 12, 13, 14, 15, 16, 17, 18, 19, 20, 21, 22, 23, 24, 25, 26, 27, 28, 29, 30, 31, 32, 33, 34, 35]), (1000011, [0, 1, 2, 3, 4, 5, 7, 8, 9, 10, 11, 12, 13, 14, 15, 16, 17, 18, 19, 20, 21, 22, 23, 24, 28, 29, 30, 31, 32, 33, 34, 35])], [], [], [], []⟩⟩, ⟨79, Try.f79, ⟨[], [], [], [], [], []⟩⟩]
theorem I_ok : ∀ i ∈ I, Try.prog.funcs[i.f]? = some i.fn ∧ (i.fn.name == "runtime.NumGoroutine") = false := by
  intro i hi
  simp only [I, List.mem_cons, List.not_mem_nil, or_false] at hi
  rcases hi with rfl | rfl
  all_goals exact ⟨by kernel_rfl, by kernel_rfl⟩
theorem e (p0e0 : List Int) (p0e1 : List Int) : runF Try.prog X I 4 8 51 Try.f51 [.d (.seq 1 [(.ints .i64 p0e0), (.ints .i64 p0e1)])] =
  (bif (decide (((IntKind.wrap .i64 (0 + ((p0e0.length : Nat) : Int))) : Int) < 0)) then
  none
  else
  (bif (decide (((IntKind.wrap .i64 ((IntKind.wrap .i64 (0 + ((p0e0.length : Nat) : Int))) + ((p0e1.length : Nat) : Int))) : Int) < 0)) then
  none
  else
  (bif (decide (((IntKind.wrap .i64 ((IntKind.wrap .i64 (0 + ((p0e0.length : Nat) : Int))) + ((p0e1.length : Nat) : Int))) : Int) < 0)) then
  none
  else
  (bif (decide (((IntKind.wrap .i64 ((IntKind.wrap .i64 ((IntKind.wrap .i64 (0 + ((p0e0.length : Nat) : Int))) + ((p0e1.length : Nat) : Int))) - 0)) : Int) > 0)) then
  (cutEnds 0 (none) (some (.imm (.int .i64 0)))).bind fun cq3 =>
  (bif decide (0 ≤ ((IntKind.wrap .i64 ((IntKind.wrap .i64 ((IntKind.wrap .i64 (0 + ((p0e0.length : Nat) : Int))) + ((p0e1.length : Nat) : Int))) - 0)) : Int)) && fits ((IntKind.wrap .i64 ((IntKind.wrap .i64 ((IntKind.wrap .i64 (0 + ((p0e0.length : Nat) : Int))) + ((p0e1.length : Nat) : Int))) - 0))).toNat 8 then
  (cutEnds (List.replicate ((IntKind.wrap .i64 ((IntKind.wrap .i64 ((IntKind.wrap .i64 (0 + ((p0e0.length : Nat) : Int))) + ((p0e1.length : Nat) : Int))) - 0))).toNat (0 : Int)).length (none) (some (.imm (.int .i64 0)))).bind fun cq4 =>
  (bif decide (cq4.1 = 0) && decide ((cq4.2 - cq4.1) ≤ (List.replicate ((IntKind.wrap .i64 ((IntKind.wrap .i64 ((IntKind.wrap .i64 (0 + ((p0e0.length : Nat) : Int))) + ((p0e1.length : Nat) : Int))) - 0))).toNat (0 : Int)).length) && fits ((cq4.2 - cq4.1) + p0e0.length) 8 then
  (bif fits (((List.replicate ((IntKind.wrap .i64 ((IntKind.wrap .i64 ((IntKind.wrap .i64 (0 + ((p0e0.length : Nat) : Int))) + ((p0e1.length : Nat) : Int))) - 0))).toNat (0 : Int)).take ((cq4.2 - cq4.1)) ++ p0e0).length + p0e1.length) 8 then
  some ([.one ((.ints .i64 (((List.replicate ((IntKind.wrap .i64 ((IntKind.wrap .i64 ((IntKind.wrap .i64 (0 + ((p0e0.length : Nat) : Int))) + ((p0e1.length : Nat) : Int))) - 0))).toNat (0 : Int)).take ((cq4.2 - cq4.1)) ++ p0e0) ++ p0e1)), true)], [])
  else
  none)
  else
  none)
  else
  none)
  else
  (bif fits p0e0.length 8 then
  (bif fits (p0e0.length + p0e1.length) 8 then
  some ([.one ((.ints .i64 (p0e0 ++ p0e1)), true)], [])
  else
  none)
  else
  none))))) := by kernel_rfl
end slices_Concat_int_int
theorem slices_Concat_int_int.ok_of (hX : ∀ E ∈ slices_Concat_int_int.X, CallSpec Try.prog E) (h : ∀ (xs : List Int) (ys : List Int), (szB xs && szB ys) = true → ∃ fuel, runF Try.prog slices_Concat_int_int.X slices_Concat_int_int.I 4 fuel 51 Try.f51 [.d (.seq 1 [(.ints .i64 xs), (.ints .i64 ys)])] = some ([.one ((.ints .i64 (xs ++ ys)), true)], [])) : CallSpec Try.prog slices_Concat_int_int.E :=
  callSpec_of (d := 4) hX (by kernel_rfl) slices_Concat_int_int.I_ok (by kernel_rfl) (by kernel_rfl) (by kernel_rfl) (fun _ _ _ _ h => by dsimp only [slices_Concat_int_int.E] at h; cases h) (fun xs hp => by
    dsimp only [slices_Concat_int_int.E] at hp ⊢
    split at hp
    · exact h _ _ hp
    · cases hp)
theorem slices_Concat_int_int.ok : CallSpec Try.prog slices_Concat_int_int.E := slices_Concat_int_int.ok_of (by simp [slices_Concat_int_int.X]) fun xs ys h => ⟨8, by
  simp only [Bool.and_eq_true] at h
  have h1 := szB_le h.1
  have h2 := szB_le h.2
  have e0 : IntKind.wrap .i64 (0 + ((xs.length : Nat) : Int)) = ((xs.length : Nat) : Int) := by rw [Int.zero_add, wN (by omega)]
  have e1 : IntKind.wrap .i64 (((xs.length : Nat) : Int) + ((ys.length : Nat) : Int)) = ((xs.length + ys.length : Nat) : Int) := wAdd (by omega)
  have e2 : IntKind.wrap .i64 (((xs.length + ys.length : Nat) : Int) - 0) = ((xs.length + ys.length : Nat) : Int) := by rw [Int.sub_zero, wN (by omega)]
  rw [slices_Concat_int_int.e, e0, e1, e2, decide_eq_false (p := ((xs.length : Nat) : Int) < 0) (by omega), decide_eq_false (p := ((xs.length + ys.length : Nat) : Int) < 0) (by omega), cond_false, cond_false, cond_false]
  by_cases h0 : ((xs.length + ys.length : Nat) : Int) > 0
  · rw [decide_eq_true h0, cond_true, Int.toNat_natCast, show (some (AV.imm (.int .i64 0)) : Option AV) = some (.imm (.int .i64 ((0 : Nat) : Int))) from rfl, cut_hi (Nat.le_refl 0), cut_hi (Nat.zero_le _)]
    simp only [Option.bind_some]
    rw [decide_eq_true (p := (0 : Int) ≤ ((xs.length + ys.length : Nat) : Int)) (by omega), fitsOk (by omega)]
    simp only [Nat.sub_self, List.take_zero, List.nil_append, Nat.zero_le, decide_true, Bool.and_self, Bool.true_and, cond_true, Nat.zero_add]
    rw [fitsOk (by omega), cond_true, fitsOk (by omega), cond_true]
  · rw [decide_eq_false h0, cond_false, fitsOk (by omega), cond_true, fitsOk (by omega), cond_true]⟩

namespace impl_lineOf
noncomputable def E : Entry := ⟨53, false, false, fun | [.d (.agg [(.ints .i64 sh), (.ints .i64 da)]), .d (.int .i64 k), .d (.int .i64 n)] => axB sh da k && lnB sh k n | _ => false, fun | [.d (.agg [(.ints .i64 sh), (.ints .i64 da)]), .d (.int .i64 k), .d (.int .i64 n)] => ([.one ((.ints .i64 (lnN sh da k n)), true)], []) | _ => ([], []), fun _ => [], true, fun _ => none⟩
end impl_lineOf
namespace impl_lineOf
noncomputable def X : List Entry := [impl_layoutOf.E]
noncomputable def I : List Inl := [⟨53, Try.f53, ⟨[16], [(1000006, [0, 1, 2, 4, 5, 6, 7, 8, 12, 13, 14, 15, 16, 17, 18, 19, 20, 21, 22, 23, 24, 25, 26, 27, 28, 29, 30, 31, 32, 33, 34, 35, 36, 37, 38, 39, 40, 41, 44, 45, 46, 47, 48, 49, 50, 51, 52, 53, 54, 55, 56, 57, 58, 59])], [], [(4, [0, 1, 2, 3, 4, 5, 8, 9, 10, 6, 7, 11, 12])], [], []⟩⟩]
theorem I_ok : ∀ i ∈ I, Try.prog.funcs[i.f]? = some i.fn ∧ (i.fn.name == "runtime.NumGoroutine") = false := by
  intro i hi
  simp only [I, List.mem_cons, List.not_mem_nil, or_false] at hi
  subst hi
  exact ⟨by kernel_rfl, by kernel_rfl⟩
noncomputable abbrev L0 (fuel n : Nat) (s : St) (k : Kont) := lAt Try.prog X I fuel true 0 false 53 (bodyOf Try.f53) [1, 1, 1, 1, 1, 0, 1, 0] n s k
noncomputable abbrev k0  (fuel : Nat) : Kont := (kAt Try.prog X I fuel true 0 false 53 (bodyOf Try.f53) [1, 1, 1, 1, 1, 0, 1, 0] [] (endK Try.prog Try.f53))
noncomputable def t0 (p0q0 : List Int) (p0q1 : List Int) (x0q0 : Int) (x0q1 : Int) (x0q2 : Int) (x0q3 : Int) (x0q6 : List Int) : St := ⟨[.dead, .dead, .dead, (.ptr 1000000000 0 0), .dead, .dead, .dead, .dead, .dead, (.imm (.int .i64 x0q0)), (.all 1000000001 1), (.imm (.int .i64 x0q1)), .dead, .dead, .dead, .dead, .dead, .dead, .dead, .dead, .dead, .dead, .dead, .dead, .dead, .dead, .dead, .dead, .dead, .dead, .dead, .dead, .dead, .dead, .dead, .dead, .dead, .dead, .dead, .dead, .dead, .dead, (.imm (.int .i64 x0q2)), (.imm (.int .i64 x0q3)), .dead, .dead, .dead, .dead, .dead, .dead, .dead, .dead, .dead, .dead, .dead, .dead, .dead, .dead, .dead, .dead], hOf [(1000000000, (.box [(.imm (.ints .i64 p0q0)), (.imm (.ints .i64 p0q1))])), (1000000001, (.ints .i64 x0q6))], [], []⟩
theorem e (fuel : Nat) (p0q0 : List Int) (p0q1 : List Int) (p1 : Int) (p2 : Int) : runF Try.prog X I 0 fuel 53 Try.f53 [.d (.agg [(.ints .i64 p0q0), (.ints .i64 p0q1)]), .d (.int .i64 p1), .d (.int .i64 p2)] =
  (bif decide (p0q0.length < 9223372036854775808) then
  (bif validS p0q0 then
  (bif decide (p1 = ((0 : Nat) : Int)) then
  (idx p1 p0q0.length).bind fun j17 =>
  (p0q0[j17]?).bind fun v18 =>
  (bif decide (0 ≤ (v18 : Int)) && decide ((v18 : Int) ≤ v18) && decide ((v18 : Int) ≤ 1152921504606846976) && decide (((8 : Nat) : Int) * v18 ≤ 281474976710656) then
  (bif decide (((strd p0q0 0) : Int) = 0) then
  none
  else
  (bif decide (((strd p0q0 0) : Int) = 0) then
  none
  else
  L0 fuel fuel (t0 p0q0 p0q1 ((strd p0q0 0)) ((IntKind.wrap .i64 ((IntKind.wrap .i64 ((IntKind.wrap .i64 ((IntKind.wrap .i64 (Int.tdiv p2 (strd p0q0 0))) * (strd p0q0 0))) * (((List.replicate (v18).toNat (0 : Int)).length : Nat) : Int))) + (Int.tmod p2 (strd p0q0 0))))) ((((List.replicate (v18).toNat (0 : Int)).length : Nat) : Int)) 0 ((List.replicate (v18).toNat (0 : Int)))) (k0  fuel)))
  else
  none)
  else
  (bif decide (p1 = ((1 : Nat) : Int)) then
  (idx p1 p0q0.length).bind fun j15 =>
  (p0q0[j15]?).bind fun v16 =>
  (bif decide (0 ≤ (v16 : Int)) && decide ((v16 : Int) ≤ v16) && decide ((v16 : Int) ≤ 1152921504606846976) && decide (((8 : Nat) : Int) * v16 ≤ 281474976710656) then
  (bif decide (((strd p0q0 1) : Int) = 0) then
  none
  else
  (bif decide (((strd p0q0 1) : Int) = 0) then
  none
  else
  L0 fuel fuel (t0 p0q0 p0q1 ((strd p0q0 1)) ((IntKind.wrap .i64 ((IntKind.wrap .i64 ((IntKind.wrap .i64 ((IntKind.wrap .i64 (Int.tdiv p2 (strd p0q0 1))) * (strd p0q0 1))) * (((List.replicate (v16).toNat (0 : Int)).length : Nat) : Int))) + (Int.tmod p2 (strd p0q0 1))))) ((((List.replicate (v16).toNat (0 : Int)).length : Nat) : Int)) 0 ((List.replicate (v16).toNat (0 : Int)))) (k0  fuel)))
  else
  none)
  else
  (bif decide (p1 = ((2 : Nat) : Int)) then
  (idx p1 p0q0.length).bind fun j13 =>
  (p0q0[j13]?).bind fun v14 =>
  (bif decide (0 ≤ (v14 : Int)) && decide ((v14 : Int) ≤ v14) && decide ((v14 : Int) ≤ 1152921504606846976) && decide (((8 : Nat) : Int) * v14 ≤ 281474976710656) then
  (bif decide (((strd p0q0 2) : Int) = 0) then
  none
  else
  (bif decide (((strd p0q0 2) : Int) = 0) then
  none
  else
  L0 fuel fuel (t0 p0q0 p0q1 ((strd p0q0 2)) ((IntKind.wrap .i64 ((IntKind.wrap .i64 ((IntKind.wrap .i64 ((IntKind.wrap .i64 (Int.tdiv p2 (strd p0q0 2))) * (strd p0q0 2))) * (((List.replicate (v14).toNat (0 : Int)).length : Nat) : Int))) + (Int.tmod p2 (strd p0q0 2))))) ((((List.replicate (v14).toNat (0 : Int)).length : Nat) : Int)) 0 ((List.replicate (v14).toNat (0 : Int)))) (k0  fuel)))
  else
  none)
  else
  none)))
  else
  (bif decide (p1 = ((0 : Nat) : Int)) then
  (idx p1 p0q0.length).bind fun j11 =>
  (p0q0[j11]?).bind fun v12 =>
  (bif decide (0 ≤ (v12 : Int)) && decide ((v12 : Int) ≤ v12) && decide ((v12 : Int) ≤ 1152921504606846976) && decide (((8 : Nat) : Int) * v12 ≤ 281474976710656) then
  (bif decide ((0 : Int) = 0) then
  none
  else
  (bif decide ((0 : Int) = 0) then
  none
  else
  L0 fuel fuel (t0 p0q0 p0q1 0 ((IntKind.wrap .i64 ((IntKind.wrap .i64 ((IntKind.wrap .i64 ((IntKind.wrap .i64 (Int.tdiv p2 0)) * 0)) * (((List.replicate (v12).toNat (0 : Int)).length : Nat) : Int))) + (Int.tmod p2 0)))) ((((List.replicate (v12).toNat (0 : Int)).length : Nat) : Int)) 0 ((List.replicate (v12).toNat (0 : Int)))) (k0  fuel)))
  else
  none)
  else
  (bif decide (p1 = ((1 : Nat) : Int)) then
  (idx p1 p0q0.length).bind fun j9 =>
  (p0q0[j9]?).bind fun v10 =>
  (bif decide (0 ≤ (v10 : Int)) && decide ((v10 : Int) ≤ v10) && decide ((v10 : Int) ≤ 1152921504606846976) && decide (((8 : Nat) : Int) * v10 ≤ 281474976710656) then
  (bif decide ((0 : Int) = 0) then
  none
  else
  (bif decide ((0 : Int) = 0) then
  none
  else
  L0 fuel fuel (t0 p0q0 p0q1 0 ((IntKind.wrap .i64 ((IntKind.wrap .i64 ((IntKind.wrap .i64 ((IntKind.wrap .i64 (Int.tdiv p2 0)) * 0)) * (((List.replicate (v10).toNat (0 : Int)).length : Nat) : Int))) + (Int.tmod p2 0)))) ((((List.replicate (v10).toNat (0 : Int)).length : Nat) : Int)) 0 ((List.replicate (v10).toNat (0 : Int)))) (k0  fuel)))
  else
  none)
  else
  (bif decide (p1 = ((2 : Nat) : Int)) then
  (idx p1 p0q0.length).bind fun j1 =>
  (p0q0[j1]?).bind fun v2 =>
  (bif decide (0 ≤ (v2 : Int)) && decide ((v2 : Int) ≤ v2) && decide ((v2 : Int) ≤ 1152921504606846976) && decide (((8 : Nat) : Int) * v2 ≤ 281474976710656) then
  (bif decide ((0 : Int) = 0) then
  none
  else
  (bif decide ((0 : Int) = 0) then
  none
  else
  L0 fuel fuel (t0 p0q0 p0q1 0 ((IntKind.wrap .i64 ((IntKind.wrap .i64 ((IntKind.wrap .i64 ((IntKind.wrap .i64 (Int.tdiv p2 0)) * 0)) * (((List.replicate (v2).toNat (0 : Int)).length : Nat) : Int))) + (Int.tmod p2 0)))) ((((List.replicate (v2).toNat (0 : Int)).length : Nat) : Int)) 0 ((List.replicate (v2).toNat (0 : Int)))) (k0  fuel)))
  else
  none)
  else
  none))))
  else
  none) := by kernel_rfl
theorem s0 (fuel n0 : Nat) (p0q0 : List Int) (p0q1 : List Int) (x0q0 : Int) (x0q1 : Int) (x0q2 : Int) (x0q3 : Int) (x0q6 : List Int) : L0 fuel (n0 + 1) (t0 p0q0 p0q1 x0q0 x0q1 x0q2 x0q3 x0q6) (k0  fuel) =
  (bif (decide ((x0q3 : Int) < x0q2)) then
  (idx (IntKind.wrap .i64 (x0q1 + (IntKind.wrap .i64 (x0q3 * x0q0)))) p0q1.length).bind fun j6 =>
  (p0q1[j6]?).bind fun v7 =>
  (idx x0q3 x0q6.length).bind fun j8 =>
  (bif decide (j8 < x0q6.length) then
  L0 fuel n0 (t0 p0q0 p0q1 x0q0 x0q1 x0q2 ((IntKind.wrap .i64 (x0q3 + 1))) ((x0q6.set j8 v7))) (k0  fuel)
  else
  none)
  else
  some ([.one ((.ints .i64 x0q6), true)], [])) := by kernel_rfl
end impl_lineOf
theorem impl_lineOf.ok_of (hX : ∀ E ∈ impl_lineOf.X, CallSpec Try.prog E) (h : ∀ (sh : List Int) (da : List Int) (k : Int) (n : Int), (axB sh da k && lnB sh k n) = true → ∃ fuel, runF Try.prog impl_lineOf.X impl_lineOf.I 0 fuel 53 Try.f53 [.d (.agg [(.ints .i64 sh), (.ints .i64 da)]), .d (.int .i64 k), .d (.int .i64 n)] = some ([.one ((.ints .i64 (lnN sh da k n)), true)], [])) : CallSpec Try.prog impl_lineOf.E :=
  callSpec_of (d := 0) hX (by kernel_rfl) impl_lineOf.I_ok (by kernel_rfl) (by kernel_rfl) (by kernel_rfl) (fun _ _ _ _ h => by dsimp only [impl_lineOf.E] at h; cases h) (fun xs hp => by
    dsimp only [impl_lineOf.E] at hp ⊢
    split at hp
    · exact h _ _ _ _ hp
    · cases hp)
theorem impl_lineOf.loop (fuel : Nat) (sh da : List Int) (k i m : Nat) (ax : Ax sh k) (hd : da.length = befN sh k * lenN sh k * behN sh k) (hi : i < befN sh k) (hm : m < behN sh k) (hf : 60 < fuel) :
    impl_lineOf.L0 fuel fuel (impl_lineOf.t0 sh da ((behN sh k : Nat) : Int) ((i * behN sh k * lenN sh k + m : Nat) : Int) ((lenN sh k : Nat) : Int) 0 (List.replicate (lenN sh k) 0)) (impl_lineOf.k0 fuel) = some ([.one ((.ints .i64 (lnD (lenN sh k) (behN sh k) da i m)), true)], []) := by
  have hL := ax.len_le
  have hlk := ax.lt
  have hle := ax.le
  have hA := lnD_length (lenN sh k) (behN sh k) da i m
  refine run_loop (N := lenN sh k) (fun n j out => impl_lineOf.L0 fuel n (impl_lineOf.t0 sh da ((behN sh k : Nat) : Int) ((i * behN sh k * lenN sh k + m : Nat) : Int) ((lenN sh k : Nat) : Int) (j : Int) out) (impl_lineOf.k0 fuel)) (fun j out => out = part (lnD (lenN sh k) (behN sh k) da i m) j) ?_ ?_ fuel 0 _ (by omega) (by omega) (by rw [part_zero, hA])
  · intro n out ho
    rw [show lenN sh k = (lnD (lenN sh k) (behN sh k) da i m).length from hA.symm] at ho
    simp only [hA] at ho
    have hall := part_all (lnD (lenN sh k) (behN sh k) da i m)
    rw [hA] at hall
    rw [hall] at ho
    rw [impl_lineOf.s0, decide_eq_false (by omega), ho]
    rfl
  · intro n j out hj ho
    have hol : out.length = lenN sh k := by rw [ho, part_length (by omega), hA]
    obtain ⟨e1, _, _, _⟩ := enc3 hi hj hm
    have hix : i * behN sh k * lenN sh k + m + j * behN sh k = (i * lenN sh k + j) * behN sh k + m := by
      rw [Nat.add_mul, Nat.mul_right_comm]; omega
    rw [impl_lineOf.s0, dlt hj, cond_true, wMul (by omega), wAdd (by omega), hix, idx_nat (by omega), idx_nat (by omega), w1 (by omega)]
    simp only [Option.bind_some, getD_get (show (i * lenN sh k + j) * behN sh k + m < da.length by omega)]
    rw [decide_eq_true (by omega), cond_true]
    refine ⟨_, ?_, rfl⟩
    rw [ho, part_set (by omega)]
    exact tab_getD hj
theorem impl_lineOf.ok : CallSpec Try.prog impl_lineOf.E := impl_lineOf.ok_of (by simp [impl_lineOf.X, impl_layoutOf.ok]) fun sh da k n h => by
  obtain ⟨F, hF⟩ : ∃ F : Nat, 60 < F := ⟨61, by omega⟩
  refine ⟨F, ?_⟩
  simp only [Bool.and_eq_true, lnB, decide_eq_true_eq] at h
  obtain ⟨j, rfl, hj, hv, ax, hd, hl⟩ := axB_inv h.1
  rw [Int.toNat_natCast] at h
  have hB := validA_inv hv
  have hr := ax.rank
  have hL := ax.len_le
  have hM := ax.beh_le
  have hBe := ax.bef_le
  have hst := strd_beh ax
  obtain ⟨n', rfl⟩ : ∃ n' : Nat, n = n' := ⟨n.toNat, by omega⟩
  have hn : n' < befN sh j * behN sh j := by omega
  obtain ⟨d1, d2, d3⟩ := dec2 hn
  have hbm : befN sh j * behN sh j ≤ 3600 * 3600 := Nat.mul_le_mul hBe hM
  have hdm : n' / behN sh j * behN sh j ≤ 3600 * 3600 := by omega
  have hdl : n' / behN sh j * behN sh j * lenN sh j ≤ 3600 * 3600 * 60 := Nat.mul_le_mul hdm hL
  have key := impl_lineOf.loop F sh da j (n' / behN sh j) (n' % behN sh j) ax hd d1 d2 (by omega)
  rw [impl_lineOf.e, lt_of (by omega), cond_true, hB.1, cond_true]
  simp only [lnN, lnK, Int.toNat_natCast]
  have main : ∀ m, m = strd sh j → ((idx (j : Int) sh.length).bind fun j17 => (sh[j17]?).bind fun v18 =>
      (bif decide (0 ≤ (v18 : Int)) && decide ((v18 : Int) ≤ v18) && decide ((v18 : Int) ≤ 1152921504606846976) && decide (((8 : Nat) : Int) * v18 ≤ 281474976710656) then
      (bif decide ((m : Int) = 0) then none else (bif decide ((m : Int) = 0) then none else
      impl_lineOf.L0 F F (impl_lineOf.t0 sh da m ((IntKind.wrap .i64 ((IntKind.wrap .i64 ((IntKind.wrap .i64 ((IntKind.wrap .i64 (Int.tdiv (n' : Int) m)) * m)) * (((List.replicate (v18).toNat (0 : Int)).length : Nat) : Int))) + (Int.tmod (n' : Int) m)))) ((((List.replicate (v18).toNat (0 : Int)).length : Nat) : Int)) 0 ((List.replicate (v18).toNat (0 : Int)))) (impl_lineOf.k0 F)))
      else none)) = some ([.one ((.ints .i64 (lnD (lenN sh j) (behN sh j) da (n' / behN sh j) (n' % behN sh j))), true)], []) := by
    rintro m rfl
    rw [idx_nat hj]
    simp only [Option.bind_some, getD_get hj, ax.len]
    rw [mkOk (by omega) (by omega), cond_true, hst, decide_eq_false (by omega), cond_false, cond_false, Int.toNat_natCast, List.length_replicate, tdivN, tmodN, wN (n := n' / behN sh j) (by omega), wMul (by omega), wMul (by omega), wAdd (by omega)]
    exact key
  match j, main, hj with
  | 0, main, _ => rw [decide_eq_true (p := ((0 : Nat) : Int) = ((0 : Nat) : Int)) rfl, cond_true]; exact main _ rfl
  | 1, main, _ => rw [decide_eq_false (p := ((1 : Nat) : Int) = ((0 : Nat) : Int)) (by omega), cond_false, decide_eq_true (p := ((1 : Nat) : Int) = ((1 : Nat) : Int)) rfl, cond_true]; exact main _ rfl
  | 2, main, _ => rw [decide_eq_false (p := ((2 : Nat) : Int) = ((0 : Nat) : Int)) (by omega), cond_false, decide_eq_false (p := ((2 : Nat) : Int) = ((1 : Nat) : Int)) (by omega), cond_false, decide_eq_true (p := ((2 : Nat) : Int) = ((2 : Nat) : Int)) rfl, cond_true]; exact main _ rfl
  | j + 3, _, hj => exact absurd hj (by omega)

namespace impl_pairwise
noncomputable def E : Entry := ⟨66, false, false, fun | [.d (.fn false dom G), .d (.ints .i64 xs), .d (.ints .i64 ys)] => szB xs && decide (xs.length ≤ ys.length) && pwB dom xs ys | _ => false, fun | [.d (.fn false dom G), .d (.ints .i64 xs), .d (.ints .i64 ys)] => ([.one ((.ints .i64 (pwD G xs ys)), true)], []) | _ => ([], []), fun _ => [], true, fun _ => none⟩
end impl_pairwise
namespace impl_pairwise
noncomputable def X : List Entry := []
noncomputable def I : List Inl := [⟨66, Try.f66, ⟨[], [(1000003, [3, 4, 5, 6, 8, 9, 10, 11, 12, 15, 16, 17, 18, 19, 20, 21, 22, 23, 24, 25, 26, 27, 28, 29, 30, 31])], [], [(5, [0, 1, 2, 3, 4, 7, 8, 5, 6, 9, 10, 11, 12, 13])], [], []⟩⟩]
theorem I_ok : ∀ i ∈ I, Try.prog.funcs[i.f]? = some i.fn ∧ (i.fn.name == "runtime.NumGoroutine") = false := by
  intro i hi
  simp only [I, List.mem_cons, List.not_mem_nil, or_false] at hi
  subst hi
  exact ⟨by kernel_rfl, by kernel_rfl⟩
noncomputable abbrev L0 (fuel n : Nat) (s : St) (k : Kont) := lAt Try.prog X I fuel true 0 false 66 (bodyOf Try.f66) [1, 1, 0, 1, 0] n s k
noncomputable abbrev k0  (fuel : Nat) : Kont := (kAt Try.prog X I fuel true 0 false 66 (bodyOf Try.f66) [1, 1, 0, 1, 0] [] (endK Try.prog Try.f66))
noncomputable def t0 (p0d : List Q → Bool) (p0g : List Q → Int) (p1 : List Int) (p2 : List Int) (x0q5 : Int) (x0q6 : List Int) : St := ⟨[(.imm (.fn false p0d p0g)), (.imm (.ints .i64 p1)), (.imm (.ints .i64 p2)), .dead, .dead, .dead, .dead, (.all 1000000000 1), .dead, .dead, .dead, .dead, .dead, (.imm (.int .i64 (((List.replicate (((p1.length : Nat) : Int)).toNat (0 : Int)).length : Nat) : Int))), (.imm (.int .i64 x0q5)), .dead, .dead, .dead, .dead, .dead, .dead, .dead, .dead, .dead, .dead, .dead, .dead, .dead, .dead, .dead, .dead, .dead], hOf [(1000000000, (.ints .i64 x0q6))], [], []⟩
theorem e (fuel : Nat) (p0d : List Q → Bool) (p0g : List Q → Int) (p1 : List Int) (p2 : List Int) : runF Try.prog X I 0 fuel 66 Try.f66 [.d (.fn false p0d p0g), .d (.ints .i64 p1), .d (.ints .i64 p2)] =
  (bif decide (0 ≤ (((p1.length : Nat) : Int) : Int)) && decide ((((p1.length : Nat) : Int) : Int) ≤ ((p1.length : Nat) : Int)) && decide ((((p1.length : Nat) : Int) : Int) ≤ 1152921504606846976) && decide (((8 : Nat) : Int) * ((p1.length : Nat) : Int) ≤ 281474976710656) then
  L0 fuel fuel (t0 p0d p0g p1 p2 0 ((List.replicate (((p1.length : Nat) : Int)).toNat (0 : Int)))) (k0  fuel)
  else
  none) := by kernel_rfl
theorem s0 (fuel n0 : Nat) (p0d : List Q → Bool) (p0g : List Q → Int) (p1 : List Int) (p2 : List Int) (x0q5 : Int) (x0q6 : List Int) : L0 fuel (n0 + 1) (t0 p0d p0g p1 p2 x0q5 x0q6) (k0  fuel) =
  (bif (decide ((x0q5 : Int) < (((List.replicate (((p1.length : Nat) : Int)).toNat (0 : Int)).length : Nat) : Int))) then
  (idx x0q5 p1.length).bind fun j11 =>
  (p1[j11]?).bind fun v12 =>
  (idx x0q5 p2.length).bind fun j13 =>
  (p2[j13]?).bind fun v14 =>
  (bif (p0d [Q.i v12, Q.i v14]) then
  (idx x0q5 x0q6.length).bind fun j15 =>
  (bif decide (j15 < x0q6.length) then
  L0 fuel n0 (t0 p0d p0g p1 p2 ((IntKind.wrap .i64 (x0q5 + 1))) ((x0q6.set j15 (p0g [Q.i v12, Q.i v14])))) (k0  fuel)
  else
  none)
  else
  none)
  else
  some ([.one ((.ints .i64 x0q6), true)], [])) := by kernel_rfl
end impl_pairwise
theorem impl_pairwise.ok_of (hX : ∀ E ∈ impl_pairwise.X, CallSpec Try.prog E) (h : ∀ (dom : List Q → Bool) (G : List Q → Int) (xs : List Int) (ys : List Int), (szB xs && decide (xs.length ≤ ys.length) && pwB dom xs ys) = true → ∃ fuel, runF Try.prog impl_pairwise.X impl_pairwise.I 0 fuel 66 Try.f66 [.d (.fn false dom G), .d (.ints .i64 xs), .d (.ints .i64 ys)] = some ([.one ((.ints .i64 (pwD G xs ys)), true)], [])) : CallSpec Try.prog impl_pairwise.E :=
  callSpec_of (d := 0) hX (by kernel_rfl) impl_pairwise.I_ok (by kernel_rfl) (by kernel_rfl) (by kernel_rfl) (fun _ _ _ _ h => by dsimp only [impl_pairwise.E] at h; cases h) (fun xs hp => by
    dsimp only [impl_pairwise.E] at hp ⊢
    split at hp
    · exact h _ _ _ _ hp
    · cases hp)
theorem impl_pairwise.ok : CallSpec Try.prog impl_pairwise.E := impl_pairwise.ok_of (by simp [impl_pairwise.X]) fun dom G xs ys h => ⟨xs.length + 1, by
  simp only [Bool.and_eq_true, decide_eq_true_eq] at h
  have hx := szB_le h.1.1
  have hA : (pwD G xs ys).length = xs.length := tab_length _ _
  rw [impl_pairwise.e, mkOk (by omega) (by omega), cond_true]
  refine run_loop (N := xs.length) (fun n j out => impl_pairwise.L0 (xs.length + 1) n (impl_pairwise.t0 dom G xs ys (j : Int) out) (impl_pairwise.k0 (xs.length + 1))) (fun j out => out = part (pwD G xs ys) j) ?_ ?_ (xs.length + 1) 0 _ (by omega) (by omega) (by rw [part_zero, hA]; rfl)
  · intro n out ho
    rw [← hA, part_all] at ho
    rw [impl_pairwise.s0, List.length_replicate, Int.toNat_natCast, dge (by omega), ho]
    rfl
  · intro n j out hj ho
    have hol : out.length = xs.length := by rw [ho, part_length (by omega), hA]
    have hy : j < ys.length := by omega
    rw [impl_pairwise.s0, List.length_replicate, Int.toNat_natCast, dlt hj, idx_nat hj, idx_nat hy, idx_nat (by omega), w1 (by omega)]
    simp only [cond_true, Option.bind_some, getD_get hj, getD_get hy]
    rw [pwB_get h.2 hj, decide_eq_true (by omega)]
    refine ⟨_, ?_, rfl⟩
    rw [ho, part_set (by omega)]
    exact tab_getD hj⟩

namespace impl_InnerProduct_1
noncomputable def E : Entry := ⟨65, true, false, fun | [.d (.int .i64 n), .d (.pbox [(.ints .i64 sa), (.ints .i64 da)]), .d (.pbox [(.int .i64 la)]), .d (.pbox [(.int .i64 co)]), .d (.pbox [(.ints .i64 sb), (.ints .i64 db)]), .d (.pbox [(.fn false dr Gr)]), .d (.pbox [(.fn false dp Gp)])] => inP dr dp Gp sa da la co sb db n | _ => false, fun | [.d (.int .i64 n), .d (.pbox [(.ints .i64 sa), (.ints .i64 da)]), .d (.pbox [(.int .i64 la)]), .d (.pbox [(.int .i64 co)]), .d (.pbox [(.ints .i64 sb), (.ints .i64 db)]), .d (.pbox [(.fn false dr Gr)]), .d (.pbox [(.fn false dp Gp)])] => ([.one ((.int .i64 (Gr [.l (inL Gp sa da sb db n.toNat)])), false)], []) | _ => ([], []), fun _ => [], false, fun _ => none⟩
end impl_InnerProduct_1
namespace impl_InnerProduct_1
noncomputable def X : List Entry := [impl_lineOf.E, impl_pairwise.E]
noncomputable def I : List Inl := [⟨65, Try.f65, ⟨[16, 21, 26], [], [], [(1, [2, 7, 0, 1, 3, 4, 6, 8, 9, 5, 10, 11, 12]), (2, [2, 3, 0, 1, 4, 5, 6])], [], []⟩⟩]
theorem I_ok : ∀ i ∈ I, Try.prog.funcs[i.f]? = some i.fn ∧ (i.fn.name == "runtime.NumGoroutine") = false := by
  intro i hi
  simp only [I, List.mem_cons, List.not_mem_nil, or_false] at hi
  subst hi
  exact ⟨by kernel_rfl, by kernel_rfl⟩
theorem e (fuel : Nat) (p0 : Int) (f0q0 : List Int) (f0q1 : List Int) (f1q0 : Int) (f2q0 : Int) (f3q0 : List Int) (f3q1 : List Int) (f4q0d : List Q → Bool) (f4q0g : List Q → Int) (f5q0d : List Q → Bool) (f5q0g : List Q → Int) : runF Try.prog X I 0 fuel 65 Try.f65 [.d (.int .i64 p0), .d (.pbox [(.ints .i64 f0q0), (.ints .i64 f0q1)]), .d (.pbox [(.int .i64 f1q0)]), .d (.pbox [(.int .i64 f2q0)]), .d (.pbox [(.ints .i64 f3q0), (.ints .i64 f3q1)]), .d (.pbox [(.fn false f4q0d f4q0g)]), .d (.pbox [(.fn false f5q0d f5q0g)])] =
  (bif decide ((f2q0 : Int) = 0) then
  none
  else
  (bif decide ((f2q0 : Int) = 0) then
  none
  else
  (bif axB f0q0 f0q1 f1q0 && lnB f0q0 f1q0 ((IntKind.wrap .i64 (Int.tdiv p0 f2q0))) then
  (bif axB f3q0 f3q1 0 && lnB f3q0 0 ((Int.tmod p0 f2q0)) then
  (bif szB ((lnN f0q0 f0q1 f1q0 ((IntKind.wrap .i64 (Int.tdiv p0 f2q0))))) && decide (((lnN f0q0 f0q1 f1q0 ((IntKind.wrap .i64 (Int.tdiv p0 f2q0))))).length ≤ ((lnN f3q0 f3q1 0 ((Int.tmod p0 f2q0)))).length) && pwB f5q0d ((lnN f0q0 f0q1 f1q0 ((IntKind.wrap .i64 (Int.tdiv p0 f2q0))))) ((lnN f3q0 f3q1 0 ((Int.tmod p0 f2q0)))) then
  (bif (f4q0d [Q.l ((pwD f5q0g ((lnN f0q0 f0q1 f1q0 ((IntKind.wrap .i64 (Int.tdiv p0 f2q0))))) ((lnN f3q0 f3q1 0 ((Int.tmod p0 f2q0))))))]) then
  some ([.one ((.int .i64 (f4q0g [Q.l ((pwD f5q0g ((lnN f0q0 f0q1 f1q0 ((IntKind.wrap .i64 (Int.tdiv p0 f2q0))))) ((lnN f3q0 f3q1 0 ((Int.tmod p0 f2q0))))))])), false)], [])
  else
  none)
  else
  none)
  else
  none)
  else
  none))) := by kernel_rfl
end impl_InnerProduct_1
theorem impl_InnerProduct_1.ok_of (hX : ∀ E ∈ impl_InnerProduct_1.X, CallSpec Try.prog E) (h : ∀ (n : Int) (sa : List Int) (da : List Int) (la : Int) (co : Int) (sb : List Int) (db : List Int) (dr : List Q → Bool) (Gr : List Q → Int) (dp : List Q → Bool) (Gp : List Q → Int), (inP dr dp Gp sa da la co sb db n) = true → ∃ fuel, runF Try.prog impl_InnerProduct_1.X impl_InnerProduct_1.I 0 fuel 65 Try.f65 [.d (.int .i64 n), .d (.pbox [(.ints .i64 sa), (.ints .i64 da)]), .d (.pbox [(.int .i64 la)]), .d (.pbox [(.int .i64 co)]), .d (.pbox [(.ints .i64 sb), (.ints .i64 db)]), .d (.pbox [(.fn false dr Gr)]), .d (.pbox [(.fn false dp Gp)])] = some ([.one ((.int .i64 (Gr [.l (inL Gp sa da sb db n.toNat)])), false)], [])) : CallSpec Try.prog impl_InnerProduct_1.E :=
  callSpec_of (d := 0) hX (by kernel_rfl) impl_InnerProduct_1.I_ok (by kernel_rfl) (by kernel_rfl) (by kernel_rfl) (fun _ _ _ _ h => by dsimp only [impl_InnerProduct_1.E] at h; cases h) (fun xs hp => by
    dsimp only [impl_InnerProduct_1.E] at hp ⊢
    split at hp
    · exact h _ _ _ _ _ _ _ _ _ _ _ hp
    · cases hp)
theorem impl_InnerProduct_1.ok : CallSpec Try.prog impl_InnerProduct_1.E := impl_InnerProduct_1.ok_of (by simp [impl_InnerProduct_1.X, impl_lineOf.ok, impl_pairwise.ok]) fun n sa da la co sb db dr Gr dp Gp h => ⟨0, by
  simp only [inP, Bool.and_eq_true, decide_eq_true_eq] at h
  obtain ⟨⟨⟨⟨⟨⟨rfl, rfl⟩, hA⟩, h0⟩, h1⟩, hp⟩, hd⟩ := h
  obtain ⟨n', rfl⟩ : ∃ n' : Nat, n = n' := ⟨n.toNat, by omega⟩
  rw [Int.toNat_natCast] at hp hd
  have hn : n' < prodN (inSh sa sb) := by omega
  obtain ⟨a1, a2, a3, a4, a5, a6, a7⟩ := inA_inv hA
  obtain ⟨e1, e2, e3, e4⟩ := inN_at hA hn
  obtain ⟨b1, b2, b3, b4, b5⟩ := inX_eq hA hn
  have hle : n' / behN sb 0 ≤ n' := Nat.div_le_self _ _
  have f1 := wN (n := n' / behN sb 0) (by omega)
  have p1 : ¬ (((behN sb 0 : Nat) : Int) = 0) := by omega
  have l1 := inX_length (sa := sa) (da := da) (sb := sb) (n := n') a5
  have l2 := inY_length (sb := sb) (db := db) (n := n')
  obtain ⟨j, hj, hj2, hv, ax, _⟩ := axB_inv a2
  have hj0 : j = 0 := by omega
  subst hj0
  have hL := ax.len_le
  have z1 := szB_of (xs := inX sa da sb n') (by omega)
  have z2 : decide ((inX sa da sb n').length ≤ (inY sb db n').length) = true := decide_eq_true (by omega)
  rw [impl_InnerProduct_1.e]
  simp only [tdivN, tmodN, f1, e1, e2, e3, e4, a1, a2, z1, z2, hp, Bool.and_self, cond_true, Int.toNat_natCast]
  rw [decide_eq_false p1, cond_false, cond_false]
  rw [inL] at hd
  rw [hd]
  rfl⟩

namespace impl_InnerProduct
noncomputable def E : Entry := ⟨29, false, false, fun | [.d (.int .i64 f), .d (.int .i64 g), .d (.agg [(.ints .i64 sa), (.ints .i64 da)]), .d (.agg [(.ints .i64 sb), (.ints .i64 db)])] => decide (sa.length < 9223372036854775808) && decide (da.length < 9223372036854775808) && decide (sb.length < 9223372036854775808) && decide (db.length < 9223372036854775808) | _ => false, fun | [.d (.int .i64 f), .d (.int .i64 g), .d (.agg [(.ints .i64 sa), (.ints .i64 da)]), .d (.agg [(.ints .i64 sb), (.ints .i64 db)])] => ([.agg [((.ints .i64 (inS f g sa da sb db)), true), ((.ints .i64 (inD f g sa da sb db)), true)], .one ((.bool (inB f g sa da sb db)), false)], []) | _ => ([], []), fun _ => [], true, fun _ => none⟩
end impl_InnerProduct
namespace impl_InnerProduct
noncomputable def X : List Entry := [impl_reductionOf.E, impl_functionOfTwo_f.E, impl_axisLength.E, impl_layoutOf_j.E, slices_Concat_int_int.E, impl_InnerProduct_1.E]
noncomputable def I : List Inl := [⟨29, Try.f29, ⟨[62, 76, 78], [(9, [0, 1, 2, 3, 4, 5, 9, 13, 14, 15, 16, 17, 18, 20, 21, 22, 23, 24, 25, 26, 27, 28, 29, 30, 31, 32, 33, 34, 35, 36, 37, 38, 39, 40, 41, 42, 43, 44, 45, 46, 47, 48, 49, 50, 51, 52, 53, 54, 55, 56, 57, 58, 59, 60, 61, 62, 63, 64, 65, 66, 67, 68, 69, 70, 71, 72, 73, 74, 75, 76, 77, 78, 79, 80])], [(9, [6, 12, 19, 7, 10, 11])], [(9, [0, 4, 9, 1, 2, 3, 5, 6, 7, 8, 10, 11, 12, 13, 14])], [75], [78]⟩⟩, ⟨47, Try.f47, ⟨[12], [(1000006, [2, 3, 5, 6, 7, 9, 10, 11, 12, 13, 14, 15, 16, 17, 18, 19, 20, 21, 24, 25, 26, 27, 28, 29, 30, 31, 32, 33, 34, 35])], [], [], [], []⟩⟩]
theorem I_ok : ∀ i ∈ I, Try.prog.funcs[i.f]? = some i.fn ∧ (i.fn.name == "runtime.NumGoroutine") = false := by
  intro i hi
  simp only [I, List.mem_cons, List.not_mem_nil, or_false] at hi
  rcases hi with rfl | rfl
  all_goals exact ⟨by kernel_rfl, by kernel_rfl⟩
noncomputable abbrev L0 (fuel n : Nat) (s : St) (k : Kont) := lAt Try.prog X I fuel true 3 false 47 (bodyOf Try.f47) [1, 1, 1, 1, 0, 1, 0] n s k
noncomputable abbrev k0  (fuel : Nat) : Kont := (kAt Try.prog X I fuel true 3 false 47 (bodyOf Try.f47) [1, 1, 1, 1, 0, 1, 0] [] (endFn Try.prog Try.f47 81 (kOp Try.prog X I fuel true 4 29 (cAt (bodyOf Try.f29) [1, 1, 1, 1, 1, 1, 1, 1, 0]) 10 (kAt Try.prog X I fuel true 4 false 29 (bodyOf Try.f29) [1, 1, 1, 1, 1, 1, 1, 1, 0] [] (endK Try.prog Try.f29)))))
noncomputable def t0 (p2q0 : List Int) (p2q1 : List Int) (p3q0 : List Int) (p3q1 : List Int) (p0 : Int) (p1 : Int) (x0q3 : Int) (x0q10 : Int) (x0q11 : Int) (x0q12 : List Int) (x0q13 : List Int) (x0q23 : Int) (x0q28 : List Int) (x0q32 : List Int) (x0q33 : List Int) (x0q34 : List Int) (x0q38 : Int) : St := ⟨[(.all 1000000001 1), (.imm (.clo 65 [(.pbox [(.ints .i64 p2q0), (.ints .i64 p2q1)]), (.pbox [(.int .i64 (IntKind.wrap .i64 (((p2q0.length : Nat) : Int) - 1)))]), (.pbox [(.int .i64 x0q3)]), (.pbox [(.ints .i64 p3q0), (.ints .i64 p3q1)]), (.pbox [(.fn false ql ((qlv (redF p0))))]), (.pbox [(.fn false q2 ((q2v (operF p1))))])])), .dead, .dead, (.ptr 1000000002 0 0), .dead, .dead, .dead, (.all 1000000003 1), .dead, .dead, .dead, .dead, .dead, .dead, .dead, .dead, .dead, .dead, .dead, .dead, .dead, (.imm (.int .i64 x0q10)), (.imm (.int .i64 x0q11)), .dead, .dead, .dead, .dead, .dead, .dead, .dead, .dead, .dead, .dead, .dead, .dead], hOf [(1000000000, (.box [(.imm .nils), (.imm .nils)])), (1000000001, (.ints .i64 x0q12)), (1000000002, (.box [(.imm .nils), (.imm .nils)])), (1000000003, (.ints .i64 x0q13))], [.dead, .dead, .dead, .dead, .dead, .dead, (.dptr [(.ints .i64 p2q0), (.ints .i64 p2q1)] 0), (.dptr [(.ints .i64 p3q0), (.ints .i64 p3q1)] 0), (.ptr 1000000000 0 0), .dead, (.dptr [(.fn false ql ((qlv (redF p0))))] 0), (.dptr [(.fn false q2 ((q2v (operF p1))))] 0), (.dptr [(.int .i64 (IntKind.wrap .i64 (((p2q0.length : Nat) : Int) - 1)))] 0), .dead, .dead, .dead, .dead, .dead, .dead, (.dptr [(.int .i64 x0q23)] 0), .dead, .dead, .dead, .dead, .dead, .dead, .dead, .dead, .dead, .dead, .dead, .dead, .dead, .dead, .dead, .dead, .dead, .dead, .dead, .dead, .dead, .dead, .dead, .dead, .dead, .dead, .dead, .dead, .dead, .dead, .dead, .dead, .dead, .dead, .dead, .dead, .dead, .dead, .dead, .dead, .dead, .dead, .dead, .dead, .dead, .dead, .dead, .dead, (.dptr [(.ints .i64 p2q0), (.ints .i64 p2q1)] 0), (.imm (.ints .i64 p2q0)), (.imm (.int .i64 (IntKind.wrap .i64 (((p2q0.length : Nat) : Int) - 1)))), (.imm (.ints .i64 x0q28)), (.dptr [(.ints .i64 p3q0), (.ints .i64 p3q1)] 0), (.imm (.ints .i64 p3q0)), (.imm (.ints .i64 x0q32)), (.imm (.seq 1 [(.ints .i64 x0q33), (.ints .i64 x0q34)])), (.all 1000000001 1), (.imm (.clo 65 [(.pbox [(.ints .i64 p2q0), (.ints .i64 p2q1)]), (.pbox [(.int .i64 (IntKind.wrap .i64 (((p2q0.length : Nat) : Int) - 1)))]), (.pbox [(.int .i64 x0q38)]), (.pbox [(.ints .i64 p3q0), (.ints .i64 p3q1)]), (.pbox [(.fn false ql ((qlv (redF p0))))]), (.pbox [(.fn false q2 ((q2v (operF p1))))])])), .dead, .dead, .dead, (.tup [])], []⟩
theorem e (fuel : Nat) (p0 : Int) (p1 : Int) (p2q0 : List Int) (p2q1 : List Int) (p3q0 : List Int) (p3q1 : List Int) : runF Try.prog X I 4 fuel 29 Try.f29 [.d (.int .i64 p0), .d (.int .i64 p1), .d (.agg [(.ints .i64 p2q0), (.ints .i64 p2q1)]), .d (.agg [(.ints .i64 p3q0), (.ints .i64 p3q1)])] =
  (bif opOk p0 then
  (bif opOk p1 then
  (bif decide (p2q0.length < 9223372036854775808) && decide (p2q1.length < 9223372036854775808) then
  (bif decide (p3q0.length < 9223372036854775808) && decide (p3q1.length < 9223372036854775808) then
  (bif (!(axB p2q0 p2q1 ((IntKind.wrap .i64 (((p2q0.length : Nat) : Int) - 1))))) then
  some ([.agg [((.ints .i64 []), true), ((.ints .i64 []), true)], .one ((.bool false), false)], [])
  else
  (bif (!(axB p3q0 p3q1 0)) then
  some ([.agg [((.ints .i64 []), true), ((.ints .i64 []), true)], .one ((.bool false), false)], [])
  else
  (bif (((axL p2q0 p2q1 ((IntKind.wrap .i64 (((p2q0.length : Nat) : Int) - 1)))) : Int) != (axL p3q0 p3q1 0)) then
  some ([.agg [((.ints .i64 []), true), ((.ints .i64 []), true)], .one ((.bool false), false)], [])
  else
  (bif decide (p3q0.length < 9223372036854775808) then
  (bif validS p3q0 then
  (cutEnds p2q0.length (none) (some (.imm (.int .i64 (IntKind.wrap .i64 (((p2q0.length : Nat) : Int) - 1)))))).bind fun cq5 =>
  (cutEnds p3q0.length (some (.imm (.int .i64 1))) (none)).bind fun cq6 =>
  (bif szB (((p2q0.drop cq5.1).take (cq5.2 - cq5.1))) && szB (((p3q0.drop cq6.1).take (cq6.2 - cq6.1))) then
  (bif decide ((((((p2q0.drop cq5.1).take (cq5.2 - cq5.1))) ++ (((p3q0.drop cq6.1).take (cq6.2 - cq6.1))))).length < 9223372036854775808) then
  (bif validS (((((p2q0.drop cq5.1).take (cq5.2 - cq5.1))) ++ (((p3q0.drop cq6.1).take (cq6.2 - cq6.1))))) then
  (bif decide (0 ≤ ((volW (((((p2q0.drop cq5.1).take (cq5.2 - cq5.1))) ++ (((p3q0.drop cq6.1).take (cq6.2 - cq6.1)))))) : Int)) && decide (((volW (((((p2q0.drop cq5.1).take (cq5.2 - cq5.1))) ++ (((p3q0.drop cq6.1).take (cq6.2 - cq6.1)))))) : Int) ≤ (volW (((((p2q0.drop cq5.1).take (cq5.2 - cq5.1))) ++ (((p3q0.drop cq6.1).take (cq6.2 - cq6.1))))))) && decide (((volW (((((p2q0.drop cq5.1).take (cq5.2 - cq5.1))) ++ (((p3q0.drop cq6.1).take (cq6.2 - cq6.1)))))) : Int) ≤ 1152921504606846976) && decide (((8 : Nat) : Int) * (volW (((((p2q0.drop cq5.1).take (cq5.2 - cq5.1))) ++ (((p3q0.drop cq6.1).take (cq6.2 - cq6.1)))))) ≤ 281474976710656) then
  L0 fuel fuel (t0 p2q0 p2q1 p3q0 p3q1 p0 p1 ((strd p3q0 0)) ((((List.replicate ((volW (((((p2q0.drop cq5.1).take (cq5.2 - cq5.1))) ++ (((p3q0.drop cq6.1).take (cq6.2 - cq6.1))))))).toNat (0 : Int)).length : Nat) : Int)) 0 (((((p2q0.drop cq5.1).take (cq5.2 - cq5.1))) ++ (((p3q0.drop cq6.1).take (cq6.2 - cq6.1))))) ((List.replicate ((volW (((((p2q0.drop cq5.1).take (cq5.2 - cq5.1))) ++ (((p3q0.drop cq6.1).take (cq6.2 - cq6.1))))))).toNat (0 : Int))) ((strd p3q0 0)) (((p2q0.drop cq5.1).take (cq5.2 - cq5.1))) (((p3q0.drop cq6.1).take (cq6.2 - cq6.1))) (((p2q0.drop cq5.1).take (cq5.2 - cq5.1))) (((p3q0.drop cq6.1).take (cq6.2 - cq6.1))) ((strd p3q0 0))) (k0  fuel)
  else
  none)
  else
  some ([.agg [((.ints .i64 []), true), ((.ints .i64 []), true)], .one ((.bool false), false)], []))
  else
  none)
  else
  none)
  else
  (cutEnds p2q0.length (none) (some (.imm (.int .i64 (IntKind.wrap .i64 (((p2q0.length : Nat) : Int) - 1)))))).bind fun cq1 =>
  (cutEnds p3q0.length (some (.imm (.int .i64 1))) (none)).bind fun cq2 =>
  (bif szB (((p2q0.drop cq1.1).take (cq1.2 - cq1.1))) && szB (((p3q0.drop cq2.1).take (cq2.2 - cq2.1))) then
  (bif decide ((((((p2q0.drop cq1.1).take (cq1.2 - cq1.1))) ++ (((p3q0.drop cq2.1).take (cq2.2 - cq2.1))))).length < 9223372036854775808) then
  (bif validS (((((p2q0.drop cq1.1).take (cq1.2 - cq1.1))) ++ (((p3q0.drop cq2.1).take (cq2.2 - cq2.1))))) then
  (bif decide (0 ≤ ((volW (((((p2q0.drop cq1.1).take (cq1.2 - cq1.1))) ++ (((p3q0.drop cq2.1).take (cq2.2 - cq2.1)))))) : Int)) && decide (((volW (((((p2q0.drop cq1.1).take (cq1.2 - cq1.1))) ++ (((p3q0.drop cq2.1).take (cq2.2 - cq2.1)))))) : Int) ≤ (volW (((((p2q0.drop cq1.1).take (cq1.2 - cq1.1))) ++ (((p3q0.drop cq2.1).take (cq2.2 - cq2.1))))))) && decide (((volW (((((p2q0.drop cq1.1).take (cq1.2 - cq1.1))) ++ (((p3q0.drop cq2.1).take (cq2.2 - cq2.1)))))) : Int) ≤ 1152921504606846976) && decide (((8 : Nat) : Int) * (volW (((((p2q0.drop cq1.1).take (cq1.2 - cq1.1))) ++ (((p3q0.drop cq2.1).take (cq2.2 - cq2.1)))))) ≤ 281474976710656) then
  L0 fuel fuel (t0 p2q0 p2q1 p3q0 p3q1 p0 p1 0 ((((List.replicate ((volW (((((p2q0.drop cq1.1).take (cq1.2 - cq1.1))) ++ (((p3q0.drop cq2.1).take (cq2.2 - cq2.1))))))).toNat (0 : Int)).length : Nat) : Int)) 0 (((((p2q0.drop cq1.1).take (cq1.2 - cq1.1))) ++ (((p3q0.drop cq2.1).take (cq2.2 - cq2.1))))) ((List.replicate ((volW (((((p2q0.drop cq1.1).take (cq1.2 - cq1.1))) ++ (((p3q0.drop cq2.1).take (cq2.2 - cq2.1))))))).toNat (0 : Int))) 0 (((p2q0.drop cq1.1).take (cq1.2 - cq1.1))) (((p3q0.drop cq2.1).take (cq2.2 - cq2.1))) (((p2q0.drop cq1.1).take (cq1.2 - cq1.1))) (((p3q0.drop cq2.1).take (cq2.2 - cq2.1))) 0) (k0  fuel)
  else
  none)
  else
  some ([.agg [((.ints .i64 []), true), ((.ints .i64 []), true)], .one ((.bool false), false)], []))
  else
  none)
  else
  none))
  else
  none))))
  else
  none)
  else
  none)
  else
  (bif decide (p2q0.length < 9223372036854775808) && decide (p2q1.length < 9223372036854775808) then
  (bif decide (p3q0.length < 9223372036854775808) && decide (p3q1.length < 9223372036854775808) then
  some ([.agg [((.ints .i64 []), true), ((.ints .i64 []), true)], .one ((.bool false), false)], [])
  else
  none)
  else
  none))
  else
  (bif opOk p1 then
  (bif decide (p2q0.length < 9223372036854775808) && decide (p2q1.length < 9223372036854775808) then
  (bif decide (p3q0.length < 9223372036854775808) && decide (p3q1.length < 9223372036854775808) then
  some ([.agg [((.ints .i64 []), true), ((.ints .i64 []), true)], .one ((.bool false), false)], [])
  else
  none)
  else
  none)
  else
  (bif decide (p2q0.length < 9223372036854775808) && decide (p2q1.length < 9223372036854775808) then
  (bif decide (p3q0.length < 9223372036854775808) && decide (p3q1.length < 9223372036854775808) then
  some ([.agg [((.ints .i64 []), true), ((.ints .i64 []), true)], .one ((.bool false), false)], [])
  else
  none)
  else
  none))) := by kernel_rfl
theorem s0 (fuel n0 : Nat) (p2q0 : List Int) (p2q1 : List Int) (p3q0 : List Int) (p3q1 : List Int) (p0 : Int) (p1 : Int) (x0q3 : Int) (x0q10 : Int) (x0q11 : Int) (x0q12 : List Int) (x0q13 : List Int) (x0q23 : Int) (x0q28 : List Int) (x0q32 : List Int) (x0q33 : List Int) (x0q34 : List Int) (x0q38 : Int) : L0 fuel (n0 + 1) (t0 p2q0 p2q1 p3q0 p3q1 p0 p1 x0q3 x0q10 x0q11 x0q12 x0q13 x0q23 x0q28 x0q32 x0q33 x0q34 x0q38) (k0  fuel) =
  (bif (decide ((x0q11 : Int) < x0q10)) then
  (bif inP ql q2 ((q2v (operF p1))) p2q0 p2q1 ((IntKind.wrap .i64 (((p2q0.length : Nat) : Int) - 1))) x0q3 p3q0 p3q1 x0q11 then
  (idx x0q11 x0q13.length).bind fun j4 =>
  (bif decide (j4 < x0q13.length) then
  L0 fuel n0 (t0 p2q0 p2q1 p3q0 p3q1 p0 p1 x0q3 x0q10 ((IntKind.wrap .i64 (x0q11 + 1))) x0q12 ((x0q13.set j4 (((qlv (redF p0))) [.l (inL ((q2v (operF p1))) p2q0 p2q1 p3q0 p3q1 x0q11.toNat)]))) x0q23 x0q28 x0q32 x0q33 x0q34 x0q38) (k0  fuel)
  else
  none)
  else
  none)
  else
  some ([.agg [((.ints .i64 x0q12), true), ((.ints .i64 x0q13), true)], .one ((.bool true), false)], [])) := by kernel_rfl
end impl_InnerProduct
theorem impl_InnerProduct.ok_of (hX : ∀ E ∈ impl_InnerProduct.X, CallSpec Try.prog E) (h : ∀ (f : Int) (g : Int) (sa : List Int) (da : List Int) (sb : List Int) (db : List Int), (decide (sa.length < 9223372036854775808) && decide (da.length < 9223372036854775808) && decide (sb.length < 9223372036854775808) && decide (db.length < 9223372036854775808)) = true → ∃ fuel, runF Try.prog impl_InnerProduct.X impl_InnerProduct.I 4 fuel 29 Try.f29 [.d (.int .i64 f), .d (.int .i64 g), .d (.agg [(.ints .i64 sa), (.ints .i64 da)]), .d (.agg [(.ints .i64 sb), (.ints .i64 db)])] = some ([.agg [((.ints .i64 (inS f g sa da sb db)), true), ((.ints .i64 (inD f g sa da sb db)), true)], .one ((.bool (inB f g sa da sb db)), false)], [])) : CallSpec Try.prog impl_InnerProduct.E :=
  callSpec_of (d := 4) hX (by kernel_rfl) impl_InnerProduct.I_ok (by kernel_rfl) (by kernel_rfl) (by kernel_rfl) (fun _ _ _ _ h => by dsimp only [impl_InnerProduct.E] at h; cases h) (fun xs hp => by
    dsimp only [impl_InnerProduct.E] at hp ⊢
    split at hp
    · exact h _ _ _ _ _ _ hp
    · cases hp)
theorem impl_InnerProduct.loop (fuel : Nat) (f g : Int) (sa da sb db : List Int) (hb : inB f g sa da sb db = true) (hf : 60 < fuel) (st : Int) (hst : st = ((behN sb 0 : Nat) : Int)) (shp : List Int) (hs : shp = inSh sa sb) (j1 j2 : Int) (z1 z2 z3 z4 : List Int) (M : Int) (hM : M = ((prodN (inSh sa sb) : Nat) : Int)) :
    impl_InnerProduct.L0 fuel fuel (impl_InnerProduct.t0 sa da sb db f g st M 0 shp (List.replicate (prodN (inSh sa sb)) 0) j1 z1 z2 z3 z4 j2) (impl_InnerProduct.k0 fuel) = some ([.agg [((.ints .i64 (inSh sa sb)), true), ((.ints .i64 (inN f g sa da sb db)), true)], .one ((.bool true), false)], []) := by
  subst hs
  subst hM
  obtain ⟨hA, hvs, hvol, h60⟩ := inB_A hb
  obtain ⟨a1, a2, a3, a4, a5, a6, a7⟩ := inA_inv hA
  obtain ⟨jj, hjj, hj2, hvb, ax, _⟩ := axB_inv a2
  have hjj0 : jj = 0 := by omega
  subst hjj0
  have hL := ax.len_le
  have hlN : (inN f g sa da sb db).length = prodN (inSh sa sb) := by simp only [inN, tab_length]
  have hr : sa.length ≤ 3 := by
    obtain ⟨q, _, hq, hv, _⟩ := axB_inv a1
    exact (validS_inv (validA_inv hv).1).1
  have hK : IntKind.wrap .i64 (((sa.length : Nat) : Int) - 1) = inK sa := by unfold inK; rw [wS (by omega) (by omega)]
  refine run_loop (N := prodN (inSh sa sb)) (fun n j out => impl_InnerProduct.L0 fuel n (impl_InnerProduct.t0 sa da sb db f g st ((prodN (inSh sa sb) : Nat) : Int) (j : Int) (inSh sa sb) out j1 z1 z2 z3 z4 j2) (impl_InnerProduct.k0 fuel)) (fun j out => out = part (inN f g sa da sb db) j) ?_ ?_ fuel 0 _ (by omega) (by omega) (by rw [part_zero, hlN])
  · intro n out ho
    have hall := part_all (inN f g sa da sb db)
    rw [hlN] at hall
    rw [hall] at ho
    rw [impl_InnerProduct.s0, dge (by omega), cond_false, ho]
  · intro n j out hj ho
    have hol : out.length = prodN (inSh sa sb) := by rw [ho, part_length (by omega), hlN]
    have l1 := inX_length (sa := sa) (da := da) (sb := sb) (n := j) a5
    have hq : inP ql q2 (q2v (operF g)) sa da (inK sa) st sb db (j : Int) = true := by
      simp only [inP, hst, Int.toNat_natCast, hA, pwB_q2, ql, inL, pwD_q2, tab_length, Bool.and_eq_true, decide_eq_true_eq]
      refine ⟨⟨⟨⟨⟨⟨trivial, trivial⟩, trivial⟩, by omega⟩, by omega⟩, trivial⟩, by omega⟩
    rw [impl_InnerProduct.s0, dlt hj, cond_true, hK, hq, idx_nat (by omega), w1 (by omega)]
    simp only [cond_true, Option.bind_some, Int.toNat_natCast]
    rw [decide_eq_true (by omega), cond_true]
    refine ⟨_, ?_, rfl⟩
    rw [ho, part_set (by omega)]
    simp only [inN]
    rw [tab_getD hj]
    rfl
theorem impl_InnerProduct.ok : CallSpec Try.prog impl_InnerProduct.E := impl_InnerProduct.ok_of (by simp [impl_InnerProduct.X, impl_reductionOf.ok, impl_functionOfTwo_f.ok, impl_axisLength.ok, impl_layoutOf_j.ok, slices_Concat_int_int.ok, impl_InnerProduct_1.ok]) fun f g sa da sb db h => by
  obtain ⟨F, hF⟩ : ∃ F : Nat, 60 < F := ⟨61, by omega⟩
  refine ⟨F, ?_⟩
  simp only [Bool.and_eq_true] at h
  rw [impl_InnerProduct.e, h.1.1.1, h.1.1.2, h.1.2, h.2]
  have hK : IntKind.wrap .i64 (((sa.length : Nat) : Int) - 1) = inK sa := by
    have := of_decide_eq_true h.1.1.1
    unfold inK; rw [wS (by omega) (by omega)]
  unfold inS inD
  cases h1 : opOk f with
  | false =>
    simp only [inB, h1]
    cases opOk g <;> rfl
  | true =>
    cases h2 : opOk g with
    | false => simp only [inB, h1, h2]; rfl
    | true =>
      rw [hK]
      cases h3 : axB sa da (inK sa) with
      | false => simp only [inB, h1, h2, h3]; rfl
      | true =>
        cases h4 : axB sb db 0 with
        | false => simp only [inB, h1, h2, h3, h4]; rfl
        | true =>
          obtain ⟨ja, hja, hja2, hva, axa, hda, hla⟩ := axB_inv h3
          obtain ⟨jb, hjb, hjb2, hvb, axb, hdb, hlb⟩ := axB_inv h4
          have hja3 : ja = sa.length - 1 := by unfold inK at hja; omega
          have hjb3 : jb = 0 := by omega
          subst hja3
          subst hjb3
          by_cases h5 : lenN sa (sa.length - 1) = lenN sb 0
          · have hr := axa.rank
            have hrb := axb.rank
            have c1 : cutEnds sa.length none (some (.imm (.int .i64 (inK sa)))) = some (0, sa.length - 1) := by rw [hja]; exact cut_hi (by omega)
            have c2 := cut_one (n := sb.length) (by omega)
            have hne : (((lenN sb 0 : Nat) : Int) != ((lenN sb 0 : Nat) : Int)) = false := by simp
            rw [hla, hlb, h5, hne, (validA_inv hvb).1, c1, c2]
            simp only [Bool.not_true, cond_true, cond_false, Option.bind_some, Bool.and_self]
            rw [in_parts, szB_of (by simp; omega), szB_of (by simp; omega), Bool.and_self, cond_true, lt_of (by simp only [inSh, List.length_append, List.length_take, List.length_drop]; omega), cond_true]
            cases h6 : validS (inSh sa sb) with
            | false =>
              have : inB f g sa da sb db = false := by simp only [inB, h6, Bool.and_false]
              rw [this]; rfl
            | true =>
              have hb : inB f g sa da sb db = true := by simp only [inB, h1, h2, h3, h4, h6, h5, decide_true, Bool.and_self]
              obtain ⟨_, _, hvol, h60⟩ := inB_A hb
              have hvbd := vol_bd h6
              rw [mkOk hvbd.1 (by omega), hb, hvol, Int.toNat_natCast, List.length_replicate]
              simp only [cond_true]
              exact impl_InnerProduct.loop F f g sa da sb db hb hF _ (strd_beh axb) _ rfl _ _ _ _ _ _ _ rfl
          · have hne : (((lenN sa (sa.length - 1) : Nat) : Int) != ((lenN sb 0 : Nat) : Int)) = true := by simp; omega
            have : inB f g sa da sb db = false := by simp only [inB, decide_eq_false h5, Bool.and_false, Bool.false_and]
            rw [hla, hlb, hne, this]; rfl

namespace impl_SumProduct
noncomputable def E : Entry := ⟨25, false, false, fun | [.d (.agg [(.ints .i64 sa), (.ints .i64 da)]), .d (.agg [(.ints .i64 sb), (.ints .i64 db)])] => decide (sa.length < 9223372036854775808) && decide (da.length < 9223372036854775808) && decide (sb.length < 9223372036854775808) && decide (db.length < 9223372036854775808) | _ => false, fun | [.d (.agg [(.ints .i64 sa), (.ints .i64 da)]), .d (.agg [(.ints .i64 sb), (.ints .i64 db)])] => ([.agg [((.ints .i64 (inS 1 3 sa da sb db)), true), ((.ints .i64 (inD 1 3 sa da sb db)), true)], .one ((.bool (inB 1 3 sa da sb db)), false)], []) | _ => ([], []), fun _ => [], true, fun _ => none⟩
end impl_SumProduct
namespace impl_SumProduct
noncomputable def X : List Entry := [impl_InnerProduct.E]
noncomputable def I : List Inl := [⟨25, Try.f25, ⟨[8], [], [], [], [], []⟩⟩]
theorem I_ok : ∀ i ∈ I, Try.prog.funcs[i.f]? = some i.fn ∧ (i.fn.name == "runtime.NumGoroutine") = false := by
  intro i hi
  simp only [I, List.mem_cons, List.not_mem_nil, or_false] at hi
  subst hi
  exact ⟨by kernel_rfl, by kernel_rfl⟩
theorem e (fuel : Nat) (p0q0 : List Int) (p0q1 : List Int) (p1q0 : List Int) (p1q1 : List Int) : runF Try.prog X I 0 fuel 25 Try.f25 [.d (.agg [(.ints .i64 p0q0), (.ints .i64 p0q1)]), .d (.agg [(.ints .i64 p1q0), (.ints .i64 p1q1)])] =
  (bif decide (p0q0.length < 9223372036854775808) && decide (p0q1.length < 9223372036854775808) && decide (p1q0.length < 9223372036854775808) && decide (p1q1.length < 9223372036854775808) then
  some ([.agg [((.ints .i64 (inS 1 3 p0q0 p0q1 p1q0 p1q1)), true), ((.ints .i64 (inD 1 3 p0q0 p0q1 p1q0 p1q1)), true)], .one ((.bool (inB 1 3 p0q0 p0q1 p1q0 p1q1)), false)], [])
  else
  none) := by kernel_rfl
end impl_SumProduct
theorem impl_SumProduct.ok_of (hX : ∀ E ∈ impl_SumProduct.X, CallSpec Try.prog E) (h : ∀ (sa : List Int) (da : List Int) (sb : List Int) (db : List Int), (decide (sa.length < 9223372036854775808) && decide (da.length < 9223372036854775808) && decide (sb.length < 9223372036854775808) && decide (db.length < 9223372036854775808)) = true → ∃ fuel, runF Try.prog impl_SumProduct.X impl_SumProduct.I 0 fuel 25 Try.f25 [.d (.agg [(.ints .i64 sa), (.ints .i64 da)]), .d (.agg [(.ints .i64 sb), (.ints .i64 db)])] = some ([.agg [((.ints .i64 (inS 1 3 sa da sb db)), true), ((.ints .i64 (inD 1 3 sa da sb db)), true)], .one ((.bool (inB 1 3 sa da sb db)), false)], [])) : CallSpec Try.prog impl_SumProduct.E :=
  callSpec_of (d := 0) hX (by kernel_rfl) impl_SumProduct.I_ok (by kernel_rfl) (by kernel_rfl) (by kernel_rfl) (fun _ _ _ _ h => by dsimp only [impl_SumProduct.E] at h; cases h) (fun xs hp => by
    dsimp only [impl_SumProduct.E] at hp ⊢
    split at hp
    · exact h _ _ _ _ hp
    · cases hp)
theorem impl_SumProduct.ok : CallSpec Try.prog impl_SumProduct.E := impl_SumProduct.ok_of (by simp [impl_SumProduct.X, impl_InnerProduct.ok]) fun sa da sb db h => ⟨0, by
  rw [impl_SumProduct.e, h]
  rfl⟩

namespace laws_FnTraceOfPower
noncomputable def E : Entry := ⟨7, true, false, fun | [.d (.ints .u8 bs)] => bytesB bs | _ => false, fun | [.d (.ints .u8 bs)] => ([.one ((.bool true), false)], []) | _ => ([], []), fun _ => [], false, fun _ => none⟩
end laws_FnTraceOfPower
namespace laws_FnTraceOfPower
noncomputable def X : List Entry := [spec_DrawTraceOf.E, impl_TraceOf.E, spec_TraceOf.E, impl_Transpose.E, impl_SumProduct.E]
noncomputable def I : List Inl := [⟨7, Try.f7, ⟨[18, 86, 87], [(1000010, [0, 1, 2, 4, 5, 6, 7, 10, 11, 12, 13, 14, 15, 16, 17, 18, 19, 20, 21, 22, 23, 24, 25, 26, 27, 28, 29, 30, 31, 32, 33, 34, 35, 36, 37, 38, 39, 40, 41, 42, 43, 44, 45, 46, 47, 48, 49, 50, 51, 52, 53, 54, 55, 56, 57, 58, 59, 60, 61, 62, 63, 64, 65, 66, 67, 68, 69, 70, 71, 72, 73, 74, 75, 76, 77, 78, 79, 80, 81, 82, 83, 84, 85, 86, 87, 88, 89, 90, 91, 92, 93, 94, 95, 96, 97, 98, 99, 100, 101, 102, 103])], [], [(14, [0, 1, 3, 6, 8, 2, 4, 5, 7, 9, 10, 11, 12, 13])], [], []⟩⟩]
theorem I_ok : ∀ i ∈ I, Try.prog.funcs[i.f]? = some i.fn ∧ (i.fn.name == "runtime.NumGoroutine") = false := by
  intro i hi
  simp only [I, List.mem_cons, List.not_mem_nil, or_false] at hi
  subst hi
  exact ⟨by kernel_rfl, by kernel_rfl⟩
noncomputable abbrev L0 (fuel n : Nat) (s : St) (k : Kont) := lAt Try.prog X I fuel true 0 false 7 (bodyOf Try.f7) [1, 1, 1, 1, 1, 1, 1, 0, 1, 0] n s k
noncomputable abbrev k0  (fuel : Nat) : Kont := (kAt Try.prog X I fuel true 0 false 7 (bodyOf Try.f7) [1, 1, 1, 1, 1, 1, 1, 0, 1, 0] [] (endK Try.prog Try.f7))
noncomputable def t0 (p0 : List Int) (x0q0 : Int) (x0q1 : Int) : St := ⟨[.dead, .dead, .dead, (.ptr 1000000000 0 0), .dead, .dead, .dead, .dead, (.imm (.int .i64 x0q0)), (.imm (.int .i64 x0q1)), .dead, .dead, .dead, .dead, .dead, .dead, .dead, .dead, .dead, .dead, .dead, .dead, .dead, .dead, .dead, .dead, .dead, .dead, .dead, .dead, .dead, .dead, .dead, .dead, .dead, .dead, .dead, .dead, .dead, .dead, .dead, .dead, .dead, .dead, .dead, .dead, .dead, .dead, .dead, .dead, .dead, .dead, .dead, .dead, .dead, .dead, .dead, .dead, .dead, .dead, .dead, .dead, .dead, .dead, .dead, .dead, .dead, .dead, .dead, .dead, .dead, .dead, .dead, .dead, .dead, .dead, .dead, .dead, .dead, .dead, .dead, .dead, .dead, .dead, .dead, .dead, .dead, .dead, .dead, .dead, .dead, .dead, .dead, .dead, .dead, .dead, .dead, .dead, .dead, .dead, .dead, .dead, .dead, .dead], hOf [(1000000000, (.box [(.imm (.ints .i64 (asS (cutC p0) 0))), (.imm (.ints .i64 (asD (cutC p0) 0)))]))], [], []⟩
theorem e (fuel : Nat) (p0 : List Int) : runF Try.prog X I 0 fuel 7 Try.f7 [.d (.ints .u8 p0)] =
  (bif (decide ((((p0.length : Nat) : Int) : Int) > 1048576)) then
  some ([.one ((.bool true), false)], [])
  else
  (bif bytesB p0 then
  (bif decide (((asS (cutC p0) 0)).length < 9223372036854775808) && decide (((asD (cutC p0) 0)).length < 9223372036854775808) then
  (bif decide (((asS (cutC p0) 0)).length < 9223372036854775808) && decide (((asD (cutC p0) 0)).length < 9223372036854775808) then
  (bif (((traV ((asS (cutC p0) 0)) ((asD (cutC p0) 0))) : Int) != (traV ((asS (cutC p0) 0)) ((asD (cutC p0) 0)))) then
  (bif (((traV ((asS (cutC p0) 0)) ((asD (cutC p0) 0))) : Int) == (traV ((asS (cutC p0) 0)) ((asD (cutC p0) 0)))) then
  some ([.one ((.bool ((sqB ((asS (cutC p0) 0)) ((asD (cutC p0) 0))) == (sqB ((asS (cutC p0) 0)) ((asD (cutC p0) 0))))), false)], [])
  else
  some ([.one ((.bool false), false)], []))
  else
  (bif (!((sqB ((asS (cutC p0) 0)) ((asD (cutC p0) 0))) == (sqB ((asS (cutC p0) 0)) ((asD (cutC p0) 0))))) then
  (bif (((traV ((asS (cutC p0) 0)) ((asD (cutC p0) 0))) : Int) == (traV ((asS (cutC p0) 0)) ((asD (cutC p0) 0)))) then
  some ([.one ((.bool ((sqB ((asS (cutC p0) 0)) ((asD (cutC p0) 0))) == (sqB ((asS (cutC p0) 0)) ((asD (cutC p0) 0))))), false)], [])
  else
  some ([.one ((.bool false), false)], []))
  else
  (bif (!(sqB ((asS (cutC p0) 0)) ((asD (cutC p0) 0)))) then
  (bif (((traV ((asS (cutC p0) 0)) ((asD (cutC p0) 0))) : Int) == (traV ((asS (cutC p0) 0)) ((asD (cutC p0) 0)))) then
  some ([.one ((.bool ((sqB ((asS (cutC p0) 0)) ((asD (cutC p0) 0))) == (sqB ((asS (cutC p0) 0)) ((asD (cutC p0) 0))))), false)], [])
  else
  some ([.one ((.bool false), false)], []))
  else
  L0 fuel fuel (t0 p0 0 0) (k0  fuel))))
  else
  none)
  else
  none)
  else
  none)) := by kernel_rfl
theorem s0 (fuel n0 : Nat) (p0 : List Int) (x0q0 : Int) (x0q1 : Int) : L0 fuel (n0 + 1) (t0 p0 x0q0 x0q1) (k0  fuel) =
  (bif (decide ((x0q1 : Int) < (((asD (cutC p0) 0).length : Nat) : Int))) then
  (idx x0q1 (asD (cutC p0) 0).length).bind fun j17 =>
  ((asD (cutC p0) 0)[j17]?).bind fun v18 =>
  (bif (decide ((v18 : Int) > 5)) then
  some ([.one ((.bool true), false)], [])
  else
  (idx x0q1 (asD (cutC p0) 0).length).bind fun j19 =>
  ((asD (cutC p0) 0)[j19]?).bind fun v20 =>
  (bif (decide ((v20 : Int) < (-5))) then
  some ([.one ((.bool true), false)], [])
  else
  (idx x0q1 (asD (cutC p0) 0).length).bind fun j21 =>
  ((asD (cutC p0) 0)[j21]?).bind fun v22 =>
  (idx x0q1 (asD (cutC p0) 0).length).bind fun j23 =>
  ((asD (cutC p0) 0)[j23]?).bind fun v24 =>
  L0 fuel n0 (t0 p0 ((IntKind.wrap .i64 (x0q0 + (IntKind.wrap .i64 (v22 * v24))))) ((IntKind.wrap .i64 (x0q1 + 1)))) (k0  fuel)))
  else
  (bif decide (((asS (cutC p0) 0)).length < 9223372036854775808) && decide (((asD (cutC p0) 0)).length < 9223372036854775808) then
  (bif decide (((asS (cutC p0) 0)).length < 9223372036854775808) && decide (((asD (cutC p0) 0)).length < 9223372036854775808) && decide (((trS ((asS (cutC p0) 0)) ((asD (cutC p0) 0)))).length < 9223372036854775808) && decide (((trD ((asS (cutC p0) 0)) ((asD (cutC p0) 0)))).length < 9223372036854775808) then
  (bif decide (((inS 1 3 ((asS (cutC p0) 0)) ((asD (cutC p0) 0)) ((trS ((asS (cutC p0) 0)) ((asD (cutC p0) 0)))) ((trD ((asS (cutC p0) 0)) ((asD (cutC p0) 0)))))).length < 9223372036854775808) && decide (((inD 1 3 ((asS (cutC p0) 0)) ((asD (cutC p0) 0)) ((trS ((asS (cutC p0) 0)) ((asD (cutC p0) 0)))) ((trD ((asS (cutC p0) 0)) ((asD (cutC p0) 0)))))).length < 9223372036854775808) then
  (bif (inB 1 3 ((asS (cutC p0) 0)) ((asD (cutC p0) 0)) ((trS ((asS (cutC p0) 0)) ((asD (cutC p0) 0)))) ((trD ((asS (cutC p0) 0)) ((asD (cutC p0) 0))))) then
  (bif (sqB ((inS 1 3 ((asS (cutC p0) 0)) ((asD (cutC p0) 0)) ((trS ((asS (cutC p0) 0)) ((asD (cutC p0) 0)))) ((trD ((asS (cutC p0) 0)) ((asD (cutC p0) 0)))))) ((inD 1 3 ((asS (cutC p0) 0)) ((asD (cutC p0) 0)) ((trS ((asS (cutC p0) 0)) ((asD (cutC p0) 0)))) ((trD ((asS (cutC p0) 0)) ((asD (cutC p0) 0))))))) then
  some ([.one ((.bool (((traV ((inS 1 3 ((asS (cutC p0) 0)) ((asD (cutC p0) 0)) ((trS ((asS (cutC p0) 0)) ((asD (cutC p0) 0)))) ((trD ((asS (cutC p0) 0)) ((asD (cutC p0) 0)))))) ((inD 1 3 ((asS (cutC p0) 0)) ((asD (cutC p0) 0)) ((trS ((asS (cutC p0) 0)) ((asD (cutC p0) 0)))) ((trD ((asS (cutC p0) 0)) ((asD (cutC p0) 0))))))) : Int) == x0q0)), false)], [])
  else
  some ([.one ((.bool false), false)], []))
  else
  some ([.one ((.bool false), false)], []))
  else
  none)
  else
  none)
  else
  none)) := by kernel_rfl
end laws_FnTraceOfPower
theorem laws_FnTraceOfPower.ok_of (hX : ∀ E ∈ laws_FnTraceOfPower.X, CallSpec Try.prog E) (h : ∀ (bs : List Int), (bytesB bs) = true → ∃ fuel, runF Try.prog laws_FnTraceOfPower.X laws_FnTraceOfPower.I 0 fuel 7 Try.f7 [.d (.ints .u8 bs)] = some ([.one ((.bool true), false)], [])) : CallSpec Try.prog laws_FnTraceOfPower.E :=
  callSpec_of (d := 0) hX (by kernel_rfl) laws_FnTraceOfPower.I_ok (by kernel_rfl) (by kernel_rfl) (by kernel_rfl) (fun _ _ _ _ h => by dsimp only [laws_FnTraceOfPower.E] at h; cases h) (fun xs hp => by
    dsimp only [laws_FnTraceOfPower.E] at hp ⊢
    split at hp
    · exact h _ hp
    · cases hp)
theorem laws_FnTraceOfPower.ok : CallSpec Try.prog laws_FnTraceOfPower.E := laws_FnTraceOfPower.ok_of (by simp [laws_FnTraceOfPower.X, spec_DrawTraceOf.ok, impl_TraceOf.ok, spec_TraceOf.ok, impl_Transpose.ok, impl_SumProduct.ok]) fun bs h => by
  obtain ⟨F, hF⟩ : ∃ F : Nat, 4000 < F := ⟨4001, by omega⟩
  refine ⟨F, ?_⟩
  rw [laws_FnTraceOfPower.e]
  by_cases hl : ((bs.length : Nat) : Int) > 1048576
  · rw [decide_eq_true hl]; rfl
  rw [decide_eq_false hl, cond_false, h, cond_true]
  have r0 := cut_ok h (p := 0) (by omega) (by omega)
  obtain ⟨a1, a2, a3, a4⟩ := as_bd r0 (by omega)
  obtain ⟨sh, hsh⟩ : ∃ x, asS (cutC bs) 0 = x := ⟨_, rfl⟩
  obtain ⟨da, hda⟩ : ∃ x, asD (cutC bs) 0 = x := ⟨_, rfl⟩
  rw [hsh] at a1
  rw [hda] at a2
  have g1 := lt_of (xs := sh) (by omega)
  have g2 := lt_of (xs := da) (by omega)
  have wt := tr_len sh da
  have g3 := lt_of (xs := trS sh da) (by omega)
  have g4 := lt_of (xs := trD sh da) (by omega)
  simp only [hsh, hda]
  cases hb : sqB sh da with
  | false => simp only [Bool.and_self, Bool.and_true, Bool.true_and, cond_true, cond_false, Bool.not_true, Bool.not_false, bne_self_eq_false, beq_self_eq_true, decide_true, eq_self, g1, g2]
  | true =>
    obtain ⟨k, hk, rfl, hl, hv, ha⟩ := sqB_inv hb
    have h4 := sq4 hk
    simp only [Bool.and_self, Bool.and_true, Bool.true_and, cond_true, cond_false, Bool.not_true, Bool.not_false, bne_self_eq_false, beq_self_eq_true, decide_true, eq_self, g1, g2]
    refine cnt_loop (N := da.length) (fun n j a => laws_FnTraceOfPower.L0 F n (laws_FnTraceOfPower.t0 bs a (j : Int)) (laws_FnTraceOfPower.k0 F)) (fun j a => a = (tab j fun n => da.getD n 0 * da.getD n 0).sum ∧ -(25 * (j : Int)) ≤ a ∧ a ≤ 25 * (j : Int) ∧ ∀ i, i < j → -5 ≤ da.getD i 0 ∧ da.getD i 0 ≤ 5) ?_ ?_ F 0 0 (by omega) (by omega) ⟨rfl, by omega, by omega, fun i hi => by omega⟩
    · rintro n a ⟨e, _, _, h5⟩
      have h5' : ∀ i, -5 ≤ da.getD i 0 ∧ da.getD i 0 ≤ 5 := fun i => by
        by_cases hi : i < da.length
        · exact h5 i hi
        · rw [show da.getD i 0 = 0 by simp [List.getD, List.getElem?_eq_none (Nat.le_of_not_lt hi)]]; omega
      obtain ⟨t1, t2⟩ := tr_power hk hl hv h5'
      obtain ⟨q1, q2, q3⟩ := tr_two hv
      have hin := inB_sq hk hv q2
      have i1 : inS 1 3 [(k : Int), (k : Int)] da [(k : Int), (k : Int)] (trD [(k : Int), (k : Int)] da) = [(k : Int), (k : Int)] := by simp only [inS, hin, cond_true]; rfl
      have i2 : inD 1 3 [(k : Int), (k : Int)] da [(k : Int), (k : Int)] (trD [(k : Int), (k : Int)] da) = inN 1 3 [(k : Int), (k : Int)] da [(k : Int), (k : Int)] (trD [(k : Int), (k : Int)] da) := by simp only [inD, hin, cond_true]
      have g5 := lt_of (xs := inN 1 3 [(k : Int), (k : Int)] da [(k : Int), (k : Int)] (trD [(k : Int), (k : Int)] da)) (by have := (validA_len (in_valid hin)).2; omega)
      rw [laws_FnTraceOfPower.s0]
      simp only [hsh, hda]
      rw [← hl] at t2
      rw [dge (by omega), cond_false, q1, hin, i1, i2, t1, t2, e]
      rw [q1] at g3
      simp only [Bool.and_self, Bool.and_true, Bool.true_and, cond_true, cond_false, Bool.not_true, Bool.not_false, bne_self_eq_false, beq_self_eq_true, decide_true, eq_self, g1, g2, g3, g4, g5]
    · rintro n j a hj ⟨e, h1, h2, h5⟩
      rw [laws_FnTraceOfPower.s0]
      simp only [hsh, hda]
      rw [dlt hj, cond_true, idx_nat hj]
      simp only [Option.bind_some, getD_get hj]
      by_cases c1 : da.getD j 0 > 5
      · refine .inl ?_
        rw [decide_eq_true c1]; rfl
      by_cases c2 : da.getD j 0 < -5
      · refine .inl ?_
        rw [decide_eq_false c1, decide_eq_true c2]; rfl
      rw [decide_eq_false c1, decide_eq_false c2]
      have hx : da.getD j 0 = -5 ∨ da.getD j 0 = -4 ∨ da.getD j 0 = -3 ∨ da.getD j 0 = -2 ∨ da.getD j 0 = -1 ∨ da.getD j 0 = 0 ∨ da.getD j 0 = 1 ∨ da.getD j 0 = 2 ∨ da.getD j 0 = 3 ∨ da.getD j 0 = 4 ∨ da.getD j 0 = 5 := by omega
      have hsq : 0 ≤ da.getD j 0 * da.getD j 0 ∧ da.getD j 0 * da.getD j 0 ≤ 25 := by
        rcases hx with h | h | h | h | h | h | h | h | h | h | h <;> rw [h] <;> omega
      refine .inr ⟨a + da.getD j 0 * da.getD j 0, ⟨?_, by omega, by omega, fun i hi => ?_⟩, ?_⟩
      · rw [tab_succ, List.sum_append, e]; simp
      · by_cases hij : i = j
        · subst hij; omega
        · exact h5 i (by omega)
      · rw [wS (x := da.getD j 0 * da.getD j 0) (by omega) (by omega), wS (x := a + da.getD j 0 * da.getD j 0) (by omega) (by omega), w1 (by omega)]
        rfl

namespace spec_matrixPair
noncomputable def E : Entry := ⟨61, false, false, fun | [.box [(.ints .u8 bs), (.int .i64 p)]] => rdOk bs p && decide ((p : Int) ≤ 900000) | _ => false, fun | [.box [(.ints .u8 bs), (.int .i64 p)]] => ([.agg [((.ints .i64 (mpS1 bs p)), false), ((.ints .i64 (mpD1 bs p)), false)], .agg [((.ints .i64 (mpS2 bs p)), false), ((.ints .i64 (mpD2 bs p)), false)]], [[(.ints .u8 bs), (.int .i64 (mpP bs p))]]) | _ => ([], []), fun _ => [], false, fun _ => none⟩
end spec_matrixPair
namespace spec_matrixPair
noncomputable def X : List Entry := [spec_reader_pick.E, spec_someShape.E, spec_fill.E]
noncomputable def I : List Inl := [⟨61, Try.f61, ⟨[], [], [(3000044, [43]), (3000047, [46])], [], [], [44, 47]⟩⟩]
theorem I_ok : ∀ i ∈ I, Try.prog.funcs[i.f]? = some i.fn ∧ (i.fn.name == "runtime.NumGoroutine") = false := by
  intro i hi
  simp only [I, List.mem_cons, List.not_mem_nil, or_false] at hi
  subst hi
  exact ⟨by kernel_rfl, by kernel_rfl⟩
theorem e (fuel : Nat) (p0q0 : List Int) (p0q1 : Int) : runF Try.prog X I 0 fuel 61 Try.f61 [.box [(.ints .u8 p0q0), (.int .i64 p0q1)]] =
  (bif rdOk p0q0 p0q1 && decide ((4 : Int) ≤ 1048576) then
  (bif rdOk p0q0 ((p0q1 + 1)) && decide ((4 : Int) ≤ 1048576) then
  (bif (decide (((pickV p0q0 ((p0q1 + 1)) 4) : Int) > 0)) then
  (bif rdOk p0q0 ((((p0q1 + 1)) + 1)) && decide ((4 : Int) ≤ 1048576) then
  (bif fits (([] : List Int).length + ([(pickV p0q0 ((((p0q1 + 1)) + 1)) 4)] : List Int).length) 8 then
  (bif rdOk p0q0 ((((((p0q1 + 1)) + 1)) + 1)) && decide ((4 : Int) ≤ 1048576) then
  (bif (decide (((pickV p0q0 ((((((p0q1 + 1)) + 1)) + 1)) 4) : Int) > 0)) then
  (bif rdOk p0q0 ((((((((p0q1 + 1)) + 1)) + 1)) + 1)) && decide ((4 : Int) ≤ 1048576) then
  (bif fits (([(pickV p0q0 p0q1 4)] : List Int).length + ([(pickV p0q0 ((((((((p0q1 + 1)) + 1)) + 1)) + 1)) 4)] : List Int).length) 8 then
  (bif fits ((([] : List Int) ++ [(pickV p0q0 ((((p0q1 + 1)) + 1)) 4)]).length + ([(pickV p0q0 p0q1 4)] : List Int).length) 8 then
  (bif rdOk p0q0 ((((((((((p0q1 + 1)) + 1)) + 1)) + 1)) + 1)) && decide ((12 : Int) ≤ 1048576) then
  (bif (((pickV p0q0 ((((((((((p0q1 + 1)) + 1)) + 1)) + 1)) + 1)) 12) : Int) == 0) then
  (bif rdOk p0q0 ((((((((((((p0q1 + 1)) + 1)) + 1)) + 1)) + 1)) + 1)) && decide ((((((((((((((p0q1 + 1)) + 1)) + 1)) + 1)) + 1)) + 1)) : Int) ≤ 2000000) then
  (bif rdOk p0q0 ((sShP p0q0 ((((((((((((p0q1 + 1)) + 1)) + 1)) + 1)) + 1)) + 1)))) && decide ((((sShP p0q0 ((((((((((((p0q1 + 1)) + 1)) + 1)) + 1)) + 1)) + 1)))) : Int) ≤ 2000000) && validS ((sShV p0q0 ((((((((((((p0q1 + 1)) + 1)) + 1)) + 1)) + 1)) + 1)))) then
  (bif rdOk p0q0 ((((sShP p0q0 ((((((((((((p0q1 + 1)) + 1)) + 1)) + 1)) + 1)) + 1)))) + volW ((sShV p0q0 ((((((((((((p0q1 + 1)) + 1)) + 1)) + 1)) + 1)) + 1)))))) && decide ((((((sShP p0q0 ((((((((((((p0q1 + 1)) + 1)) + 1)) + 1)) + 1)) + 1)))) + volW ((sShV p0q0 ((((((((((((p0q1 + 1)) + 1)) + 1)) + 1)) + 1)) + 1)))))) : Int) ≤ 2000000) && validS ((([(pickV p0q0 p0q1 4)] : List Int) ++ [(pickV p0q0 ((((((((p0q1 + 1)) + 1)) + 1)) + 1)) 4)])) then
  some ([.agg [((.ints .i64 ((sShV p0q0 ((((((((((((p0q1 + 1)) + 1)) + 1)) + 1)) + 1)) + 1))))), false), ((.ints .i64 (fillV p0q0 ((sShP p0q0 ((((((((((((p0q1 + 1)) + 1)) + 1)) + 1)) + 1)) + 1)))) ((sShV p0q0 ((((((((((((p0q1 + 1)) + 1)) + 1)) + 1)) + 1)) + 1)))))), false)], .agg [((.ints .i64 ((([(pickV p0q0 p0q1 4)] : List Int) ++ [(pickV p0q0 ((((((((p0q1 + 1)) + 1)) + 1)) + 1)) 4)]))), false), ((.ints .i64 (fillV p0q0 ((((sShP p0q0 ((((((((((((p0q1 + 1)) + 1)) + 1)) + 1)) + 1)) + 1)))) + volW ((sShV p0q0 ((((((((((((p0q1 + 1)) + 1)) + 1)) + 1)) + 1)) + 1)))))) ((([(pickV p0q0 p0q1 4)] : List Int) ++ [(pickV p0q0 ((((((((p0q1 + 1)) + 1)) + 1)) + 1)) 4)])))), false)]], [[(.ints .u8 p0q0), (.int .i64 (((((sShP p0q0 ((((((((((((p0q1 + 1)) + 1)) + 1)) + 1)) + 1)) + 1)))) + volW ((sShV p0q0 ((((((((((((p0q1 + 1)) + 1)) + 1)) + 1)) + 1)) + 1)))))) + volW ((([(pickV p0q0 p0q1 4)] : List Int) ++ [(pickV p0q0 ((((((((p0q1 + 1)) + 1)) + 1)) + 1)) 4)]))))]])
  else
  none)
  else
  none)
  else
  none)
  else
  (bif (((pickV p0q0 ((((((((((p0q1 + 1)) + 1)) + 1)) + 1)) + 1)) 12) : Int) == 1) then
  (bif rdOk p0q0 ((((((((((((p0q1 + 1)) + 1)) + 1)) + 1)) + 1)) + 1)) && decide ((((((((((((((p0q1 + 1)) + 1)) + 1)) + 1)) + 1)) + 1)) : Int) ≤ 2000000) then
  (bif rdOk p0q0 ((sShP p0q0 ((((((((((((p0q1 + 1)) + 1)) + 1)) + 1)) + 1)) + 1)))) && decide ((((sShP p0q0 ((((((((((((p0q1 + 1)) + 1)) + 1)) + 1)) + 1)) + 1)))) : Int) ≤ 2000000) && validS (((([] : List Int) ++ [(pickV p0q0 ((((p0q1 + 1)) + 1)) 4)]) ++ [(pickV p0q0 p0q1 4)])) then
  (bif rdOk p0q0 ((((sShP p0q0 ((((((((((((p0q1 + 1)) + 1)) + 1)) + 1)) + 1)) + 1)))) + volW (((([] : List Int) ++ [(pickV p0q0 ((((p0q1 + 1)) + 1)) 4)]) ++ [(pickV p0q0 p0q1 4)])))) && decide ((((((sShP p0q0 ((((((((((((p0q1 + 1)) + 1)) + 1)) + 1)) + 1)) + 1)))) + volW (((([] : List Int) ++ [(pickV p0q0 ((((p0q1 + 1)) + 1)) 4)]) ++ [(pickV p0q0 p0q1 4)])))) : Int) ≤ 2000000) && validS ((sShV p0q0 ((((((((((((p0q1 + 1)) + 1)) + 1)) + 1)) + 1)) + 1)))) then
  some ([.agg [((.ints .i64 (((([] : List Int) ++ [(pickV p0q0 ((((p0q1 + 1)) + 1)) 4)]) ++ [(pickV p0q0 p0q1 4)]))), false), ((.ints .i64 (fillV p0q0 ((sShP p0q0 ((((((((((((p0q1 + 1)) + 1)) + 1)) + 1)) + 1)) + 1)))) (((([] : List Int) ++ [(pickV p0q0 ((((p0q1 + 1)) + 1)) 4)]) ++ [(pickV p0q0 p0q1 4)])))), false)], .agg [((.ints .i64 ((sShV p0q0 ((((((((((((p0q1 + 1)) + 1)) + 1)) + 1)) + 1)) + 1))))), false), ((.ints .i64 (fillV p0q0 ((((sShP p0q0 ((((((((((((p0q1 + 1)) + 1)) + 1)) + 1)) + 1)) + 1)))) + volW (((([] : List Int) ++ [(pickV p0q0 ((((p0q1 + 1)) + 1)) 4)]) ++ [(pickV p0q0 p0q1 4)])))) ((sShV p0q0 ((((((((((((p0q1 + 1)) + 1)) + 1)) + 1)) + 1)) + 1)))))), false)]], [[(.ints .u8 p0q0), (.int .i64 (((((sShP p0q0 ((((((((((((p0q1 + 1)) + 1)) + 1)) + 1)) + 1)) + 1)))) + volW (((([] : List Int) ++ [(pickV p0q0 ((((p0q1 + 1)) + 1)) 4)]) ++ [(pickV p0q0 p0q1 4)])))) + volW ((sShV p0q0 ((((((((((((p0q1 + 1)) + 1)) + 1)) + 1)) + 1)) + 1))))))]])
  else
  none)
  else
  none)
  else
  none)
  else
  (bif rdOk p0q0 ((((((((((((p0q1 + 1)) + 1)) + 1)) + 1)) + 1)) + 1)) && decide ((((((((((((((p0q1 + 1)) + 1)) + 1)) + 1)) + 1)) + 1)) : Int) ≤ 2000000) && validS (((([] : List Int) ++ [(pickV p0q0 ((((p0q1 + 1)) + 1)) 4)]) ++ [(pickV p0q0 p0q1 4)])) then
  (bif rdOk p0q0 ((((((((((((((p0q1 + 1)) + 1)) + 1)) + 1)) + 1)) + 1)) + volW (((([] : List Int) ++ [(pickV p0q0 ((((p0q1 + 1)) + 1)) 4)]) ++ [(pickV p0q0 p0q1 4)])))) && decide ((((((((((((((((p0q1 + 1)) + 1)) + 1)) + 1)) + 1)) + 1)) + volW (((([] : List Int) ++ [(pickV p0q0 ((((p0q1 + 1)) + 1)) 4)]) ++ [(pickV p0q0 p0q1 4)])))) : Int) ≤ 2000000) && validS ((([(pickV p0q0 p0q1 4)] : List Int) ++ [(pickV p0q0 ((((((((p0q1 + 1)) + 1)) + 1)) + 1)) 4)])) then
  some ([.agg [((.ints .i64 (((([] : List Int) ++ [(pickV p0q0 ((((p0q1 + 1)) + 1)) 4)]) ++ [(pickV p0q0 p0q1 4)]))), false), ((.ints .i64 (fillV p0q0 ((((((((((((p0q1 + 1)) + 1)) + 1)) + 1)) + 1)) + 1)) (((([] : List Int) ++ [(pickV p0q0 ((((p0q1 + 1)) + 1)) 4)]) ++ [(pickV p0q0 p0q1 4)])))), false)], .agg [((.ints .i64 ((([(pickV p0q0 p0q1 4)] : List Int) ++ [(pickV p0q0 ((((((((p0q1 + 1)) + 1)) + 1)) + 1)) 4)]))), false), ((.ints .i64 (fillV p0q0 ((((((((((((((p0q1 + 1)) + 1)) + 1)) + 1)) + 1)) + 1)) + volW (((([] : List Int) ++ [(pickV p0q0 ((((p0q1 + 1)) + 1)) 4)]) ++ [(pickV p0q0 p0q1 4)])))) ((([(pickV p0q0 p0q1 4)] : List Int) ++ [(pickV p0q0 ((((((((p0q1 + 1)) + 1)) + 1)) + 1)) 4)])))), false)]], [[(.ints .u8 p0q0), (.int .i64 (((((((((((((((p0q1 + 1)) + 1)) + 1)) + 1)) + 1)) + 1)) + volW (((([] : List Int) ++ [(pickV p0q0 ((((p0q1 + 1)) + 1)) 4)]) ++ [(pickV p0q0 p0q1 4)])))) + volW ((([(pickV p0q0 p0q1 4)] : List Int) ++ [(pickV p0q0 ((((((((p0q1 + 1)) + 1)) + 1)) + 1)) 4)]))))]])
  else
  none)
  else
  none)))
  else
  none)
  else
  none)
  else
  none)
  else
  none)
  else
  (bif fits ((([] : List Int) ++ [(pickV p0q0 ((((p0q1 + 1)) + 1)) 4)]).length + ([(pickV p0q0 p0q1 4)] : List Int).length) 8 then
  (bif rdOk p0q0 ((((((((p0q1 + 1)) + 1)) + 1)) + 1)) && decide ((12 : Int) ≤ 1048576) then
  (bif (((pickV p0q0 ((((((((p0q1 + 1)) + 1)) + 1)) + 1)) 12) : Int) == 0) then
  (bif rdOk p0q0 ((((((((((p0q1 + 1)) + 1)) + 1)) + 1)) + 1)) && decide ((((((((((((p0q1 + 1)) + 1)) + 1)) + 1)) + 1)) : Int) ≤ 2000000) then
  (bif rdOk p0q0 ((sShP p0q0 ((((((((((p0q1 + 1)) + 1)) + 1)) + 1)) + 1)))) && decide ((((sShP p0q0 ((((((((((p0q1 + 1)) + 1)) + 1)) + 1)) + 1)))) : Int) ≤ 2000000) && validS ((sShV p0q0 ((((((((((p0q1 + 1)) + 1)) + 1)) + 1)) + 1)))) then
  (bif rdOk p0q0 ((((sShP p0q0 ((((((((((p0q1 + 1)) + 1)) + 1)) + 1)) + 1)))) + volW ((sShV p0q0 ((((((((((p0q1 + 1)) + 1)) + 1)) + 1)) + 1)))))) && decide ((((((sShP p0q0 ((((((((((p0q1 + 1)) + 1)) + 1)) + 1)) + 1)))) + volW ((sShV p0q0 ((((((((((p0q1 + 1)) + 1)) + 1)) + 1)) + 1)))))) : Int) ≤ 2000000) && validS ([(pickV p0q0 p0q1 4)]) then
  some ([.agg [((.ints .i64 ((sShV p0q0 ((((((((((p0q1 + 1)) + 1)) + 1)) + 1)) + 1))))), false), ((.ints .i64 (fillV p0q0 ((sShP p0q0 ((((((((((p0q1 + 1)) + 1)) + 1)) + 1)) + 1)))) ((sShV p0q0 ((((((((((p0q1 + 1)) + 1)) + 1)) + 1)) + 1)))))), false)], .agg [((.ints .i64 ([(pickV p0q0 p0q1 4)])), false), ((.ints .i64 (fillV p0q0 ((((sShP p0q0 ((((((((((p0q1 + 1)) + 1)) + 1)) + 1)) + 1)))) + volW ((sShV p0q0 ((((((((((p0q1 + 1)) + 1)) + 1)) + 1)) + 1)))))) ([(pickV p0q0 p0q1 4)]))), false)]], [[(.ints .u8 p0q0), (.int .i64 (((((sShP p0q0 ((((((((((p0q1 + 1)) + 1)) + 1)) + 1)) + 1)))) + volW ((sShV p0q0 ((((((((((p0q1 + 1)) + 1)) + 1)) + 1)) + 1)))))) + volW ([(pickV p0q0 p0q1 4)])))]])
  else
  none)
  else
  none)
  else
  none)
  else
  (bif (((pickV p0q0 ((((((((p0q1 + 1)) + 1)) + 1)) + 1)) 12) : Int) == 1) then
  (bif rdOk p0q0 ((((((((((p0q1 + 1)) + 1)) + 1)) + 1)) + 1)) && decide ((((((((((((p0q1 + 1)) + 1)) + 1)) + 1)) + 1)) : Int) ≤ 2000000) then
  (bif rdOk p0q0 ((sShP p0q0 ((((((((((p0q1 + 1)) + 1)) + 1)) + 1)) + 1)))) && decide ((((sShP p0q0 ((((((((((p0q1 + 1)) + 1)) + 1)) + 1)) + 1)))) : Int) ≤ 2000000) && validS (((([] : List Int) ++ [(pickV p0q0 ((((p0q1 + 1)) + 1)) 4)]) ++ [(pickV p0q0 p0q1 4)])) then
  (bif rdOk p0q0 ((((sShP p0q0 ((((((((((p0q1 + 1)) + 1)) + 1)) + 1)) + 1)))) + volW (((([] : List Int) ++ [(pickV p0q0 ((((p0q1 + 1)) + 1)) 4)]) ++ [(pickV p0q0 p0q1 4)])))) && decide ((((((sShP p0q0 ((((((((((p0q1 + 1)) + 1)) + 1)) + 1)) + 1)))) + volW (((([] : List Int) ++ [(pickV p0q0 ((((p0q1 + 1)) + 1)) 4)]) ++ [(pickV p0q0 p0q1 4)])))) : Int) ≤ 2000000) && validS ((sShV p0q0 ((((((((((p0q1 + 1)) + 1)) + 1)) + 1)) + 1)))) then
  some ([.agg [((.ints .i64 (((([] : List Int) ++ [(pickV p0q0 ((((p0q1 + 1)) + 1)) 4)]) ++ [(pickV p0q0 p0q1 4)]))), false), ((.ints .i64 (fillV p0q0 ((sShP p0q0 ((((((((((p0q1 + 1)) + 1)) + 1)) + 1)) + 1)))) (((([] : List Int) ++ [(pickV p0q0 ((((p0q1 + 1)) + 1)) 4)]) ++ [(pickV p0q0 p0q1 4)])))), false)], .agg [((.ints .i64 ((sShV p0q0 ((((((((((p0q1 + 1)) + 1)) + 1)) + 1)) + 1))))), false), ((.ints .i64 (fillV p0q0 ((((sShP p0q0 ((((((((((p0q1 + 1)) + 1)) + 1)) + 1)) + 1)))) + volW (((([] : List Int) ++ [(pickV p0q0 ((((p0q1 + 1)) + 1)) 4)]) ++ [(pickV p0q0 p0q1 4)])))) ((sShV p0q0 ((((((((((p0q1 + 1)) + 1)) + 1)) + 1)) + 1)))))), false)]], [[(.ints .u8 p0q0), (.int .i64 (((((sShP p0q0 ((((((((((p0q1 + 1)) + 1)) + 1)) + 1)) + 1)))) + volW (((([] : List Int) ++ [(pickV p0q0 ((((p0q1 + 1)) + 1)) 4)]) ++ [(pickV p0q0 p0q1 4)])))) + volW ((sShV p0q0 ((((((((((p0q1 + 1)) + 1)) + 1)) + 1)) + 1))))))]])
  else
  none)
  else
  none)
  else
  none)
  else
  (bif rdOk p0q0 ((((((((((p0q1 + 1)) + 1)) + 1)) + 1)) + 1)) && decide ((((((((((((p0q1 + 1)) + 1)) + 1)) + 1)) + 1)) : Int) ≤ 2000000) && validS (((([] : List Int) ++ [(pickV p0q0 ((((p0q1 + 1)) + 1)) 4)]) ++ [(pickV p0q0 p0q1 4)])) then
  (bif rdOk p0q0 ((((((((((((p0q1 + 1)) + 1)) + 1)) + 1)) + 1)) + volW (((([] : List Int) ++ [(pickV p0q0 ((((p0q1 + 1)) + 1)) 4)]) ++ [(pickV p0q0 p0q1 4)])))) && decide ((((((((((((((p0q1 + 1)) + 1)) + 1)) + 1)) + 1)) + volW (((([] : List Int) ++ [(pickV p0q0 ((((p0q1 + 1)) + 1)) 4)]) ++ [(pickV p0q0 p0q1 4)])))) : Int) ≤ 2000000) && validS ([(pickV p0q0 p0q1 4)]) then
  some ([.agg [((.ints .i64 (((([] : List Int) ++ [(pickV p0q0 ((((p0q1 + 1)) + 1)) 4)]) ++ [(pickV p0q0 p0q1 4)]))), false), ((.ints .i64 (fillV p0q0 ((((((((((p0q1 + 1)) + 1)) + 1)) + 1)) + 1)) (((([] : List Int) ++ [(pickV p0q0 ((((p0q1 + 1)) + 1)) 4)]) ++ [(pickV p0q0 p0q1 4)])))), false)], .agg [((.ints .i64 ([(pickV p0q0 p0q1 4)])), false), ((.ints .i64 (fillV p0q0 ((((((((((((p0q1 + 1)) + 1)) + 1)) + 1)) + 1)) + volW (((([] : List Int) ++ [(pickV p0q0 ((((p0q1 + 1)) + 1)) 4)]) ++ [(pickV p0q0 p0q1 4)])))) ([(pickV p0q0 p0q1 4)]))), false)]], [[(.ints .u8 p0q0), (.int .i64 (((((((((((((p0q1 + 1)) + 1)) + 1)) + 1)) + 1)) + volW (((([] : List Int) ++ [(pickV p0q0 ((((p0q1 + 1)) + 1)) 4)]) ++ [(pickV p0q0 p0q1 4)])))) + volW ([(pickV p0q0 p0q1 4)])))]])
  else
  none)
  else
  none)))
  else
  none)
  else
  none))
  else
  none)
  else
  none)
  else
  none)
  else
  (bif rdOk p0q0 ((((p0q1 + 1)) + 1)) && decide ((4 : Int) ≤ 1048576) then
  (bif (decide (((pickV p0q0 ((((p0q1 + 1)) + 1)) 4) : Int) > 0)) then
  (bif rdOk p0q0 ((((((p0q1 + 1)) + 1)) + 1)) && decide ((4 : Int) ≤ 1048576) then
  (bif fits (([(pickV p0q0 p0q1 4)] : List Int).length + ([(pickV p0q0 ((((((p0q1 + 1)) + 1)) + 1)) 4)] : List Int).length) 8 then
  (bif fits (([] : List Int).length + ([(pickV p0q0 p0q1 4)] : List Int).length) 8 then
  (bif rdOk p0q0 ((((((((p0q1 + 1)) + 1)) + 1)) + 1)) && decide ((12 : Int) ≤ 1048576) then
  (bif (((pickV p0q0 ((((((((p0q1 + 1)) + 1)) + 1)) + 1)) 12) : Int) == 0) then
  (bif rdOk p0q0 ((((((((((p0q1 + 1)) + 1)) + 1)) + 1)) + 1)) && decide ((((((((((((p0q1 + 1)) + 1)) + 1)) + 1)) + 1)) : Int) ≤ 2000000) then
  (bif rdOk p0q0 ((sShP p0q0 ((((((((((p0q1 + 1)) + 1)) + 1)) + 1)) + 1)))) && decide ((((sShP p0q0 ((((((((((p0q1 + 1)) + 1)) + 1)) + 1)) + 1)))) : Int) ≤ 2000000) && validS ((sShV p0q0 ((((((((((p0q1 + 1)) + 1)) + 1)) + 1)) + 1)))) then
  (bif rdOk p0q0 ((((sShP p0q0 ((((((((((p0q1 + 1)) + 1)) + 1)) + 1)) + 1)))) + volW ((sShV p0q0 ((((((((((p0q1 + 1)) + 1)) + 1)) + 1)) + 1)))))) && decide ((((((sShP p0q0 ((((((((((p0q1 + 1)) + 1)) + 1)) + 1)) + 1)))) + volW ((sShV p0q0 ((((((((((p0q1 + 1)) + 1)) + 1)) + 1)) + 1)))))) : Int) ≤ 2000000) && validS ((([(pickV p0q0 p0q1 4)] : List Int) ++ [(pickV p0q0 ((((((p0q1 + 1)) + 1)) + 1)) 4)])) then
  some ([.agg [((.ints .i64 ((sShV p0q0 ((((((((((p0q1 + 1)) + 1)) + 1)) + 1)) + 1))))), false), ((.ints .i64 (fillV p0q0 ((sShP p0q0 ((((((((((p0q1 + 1)) + 1)) + 1)) + 1)) + 1)))) ((sShV p0q0 ((((((((((p0q1 + 1)) + 1)) + 1)) + 1)) + 1)))))), false)], .agg [((.ints .i64 ((([(pickV p0q0 p0q1 4)] : List Int) ++ [(pickV p0q0 ((((((p0q1 + 1)) + 1)) + 1)) 4)]))), false), ((.ints .i64 (fillV p0q0 ((((sShP p0q0 ((((((((((p0q1 + 1)) + 1)) + 1)) + 1)) + 1)))) + volW ((sShV p0q0 ((((((((((p0q1 + 1)) + 1)) + 1)) + 1)) + 1)))))) ((([(pickV p0q0 p0q1 4)] : List Int) ++ [(pickV p0q0 ((((((p0q1 + 1)) + 1)) + 1)) 4)])))), false)]], [[(.ints .u8 p0q0), (.int .i64 (((((sShP p0q0 ((((((((((p0q1 + 1)) + 1)) + 1)) + 1)) + 1)))) + volW ((sShV p0q0 ((((((((((p0q1 + 1)) + 1)) + 1)) + 1)) + 1)))))) + volW ((([(pickV p0q0 p0q1 4)] : List Int) ++ [(pickV p0q0 ((((((p0q1 + 1)) + 1)) + 1)) 4)]))))]])
  else
  none)
  else
  none)
  else
  none)
  else
  (bif (((pickV p0q0 ((((((((p0q1 + 1)) + 1)) + 1)) + 1)) 12) : Int) == 1) then
  (bif rdOk p0q0 ((((((((((p0q1 + 1)) + 1)) + 1)) + 1)) + 1)) && decide ((((((((((((p0q1 + 1)) + 1)) + 1)) + 1)) + 1)) : Int) ≤ 2000000) then
  (bif rdOk p0q0 ((sShP p0q0 ((((((((((p0q1 + 1)) + 1)) + 1)) + 1)) + 1)))) && decide ((((sShP p0q0 ((((((((((p0q1 + 1)) + 1)) + 1)) + 1)) + 1)))) : Int) ≤ 2000000) && validS ((([] : List Int) ++ [(pickV p0q0 p0q1 4)])) then
  (bif rdOk p0q0 ((((sShP p0q0 ((((((((((p0q1 + 1)) + 1)) + 1)) + 1)) + 1)))) + volW ((([] : List Int) ++ [(pickV p0q0 p0q1 4)])))) && decide ((((((sShP p0q0 ((((((((((p0q1 + 1)) + 1)) + 1)) + 1)) + 1)))) + volW ((([] : List Int) ++ [(pickV p0q0 p0q1 4)])))) : Int) ≤ 2000000) && validS ((sShV p0q0 ((((((((((p0q1 + 1)) + 1)) + 1)) + 1)) + 1)))) then
  some ([.agg [((.ints .i64 ((([] : List Int) ++ [(pickV p0q0 p0q1 4)]))), false), ((.ints .i64 (fillV p0q0 ((sShP p0q0 ((((((((((p0q1 + 1)) + 1)) + 1)) + 1)) + 1)))) ((([] : List Int) ++ [(pickV p0q0 p0q1 4)])))), false)], .agg [((.ints .i64 ((sShV p0q0 ((((((((((p0q1 + 1)) + 1)) + 1)) + 1)) + 1))))), false), ((.ints .i64 (fillV p0q0 ((((sShP p0q0 ((((((((((p0q1 + 1)) + 1)) + 1)) + 1)) + 1)))) + volW ((([] : List Int) ++ [(pickV p0q0 p0q1 4)])))) ((sShV p0q0 ((((((((((p0q1 + 1)) + 1)) + 1)) + 1)) + 1)))))), false)]], [[(.ints .u8 p0q0), (.int .i64 (((((sShP p0q0 ((((((((((p0q1 + 1)) + 1)) + 1)) + 1)) + 1)))) + volW ((([] : List Int) ++ [(pickV p0q0 p0q1 4)])))) + volW ((sShV p0q0 ((((((((((p0q1 + 1)) + 1)) + 1)) + 1)) + 1))))))]])
  else
  none)
  else
  none)
  else
  none)
  else
  (bif rdOk p0q0 ((((((((((p0q1 + 1)) + 1)) + 1)) + 1)) + 1)) && decide ((((((((((((p0q1 + 1)) + 1)) + 1)) + 1)) + 1)) : Int) ≤ 2000000) && validS ((([] : List Int) ++ [(pickV p0q0 p0q1 4)])) then
  (bif rdOk p0q0 ((((((((((((p0q1 + 1)) + 1)) + 1)) + 1)) + 1)) + volW ((([] : List Int) ++ [(pickV p0q0 p0q1 4)])))) && decide ((((((((((((((p0q1 + 1)) + 1)) + 1)) + 1)) + 1)) + volW ((([] : List Int) ++ [(pickV p0q0 p0q1 4)])))) : Int) ≤ 2000000) && validS ((([(pickV p0q0 p0q1 4)] : List Int) ++ [(pickV p0q0 ((((((p0q1 + 1)) + 1)) + 1)) 4)])) then
  some ([.agg [((.ints .i64 ((([] : List Int) ++ [(pickV p0q0 p0q1 4)]))), false), ((.ints .i64 (fillV p0q0 ((((((((((p0q1 + 1)) + 1)) + 1)) + 1)) + 1)) ((([] : List Int) ++ [(pickV p0q0 p0q1 4)])))), false)], .agg [((.ints .i64 ((([(pickV p0q0 p0q1 4)] : List Int) ++ [(pickV p0q0 ((((((p0q1 + 1)) + 1)) + 1)) 4)]))), false), ((.ints .i64 (fillV p0q0 ((((((((((((p0q1 + 1)) + 1)) + 1)) + 1)) + 1)) + volW ((([] : List Int) ++ [(pickV p0q0 p0q1 4)])))) ((([(pickV p0q0 p0q1 4)] : List Int) ++ [(pickV p0q0 ((((((p0q1 + 1)) + 1)) + 1)) 4)])))), false)]], [[(.ints .u8 p0q0), (.int .i64 (((((((((((((p0q1 + 1)) + 1)) + 1)) + 1)) + 1)) + volW ((([] : List Int) ++ [(pickV p0q0 p0q1 4)])))) + volW ((([(pickV p0q0 p0q1 4)] : List Int) ++ [(pickV p0q0 ((((((p0q1 + 1)) + 1)) + 1)) 4)]))))]])
  else
  none)
  else
  none)))
  else
  none)
  else
  none)
  else
  none)
  else
  none)
  else
  (bif fits (([] : List Int).length + ([(pickV p0q0 p0q1 4)] : List Int).length) 8 then
  (bif rdOk p0q0 ((((((p0q1 + 1)) + 1)) + 1)) && decide ((12 : Int) ≤ 1048576) then
  (bif (((pickV p0q0 ((((((p0q1 + 1)) + 1)) + 1)) 12) : Int) == 0) then
  (bif rdOk p0q0 ((((((((p0q1 + 1)) + 1)) + 1)) + 1)) && decide ((((((((((p0q1 + 1)) + 1)) + 1)) + 1)) : Int) ≤ 2000000) then
  (bif rdOk p0q0 ((sShP p0q0 ((((((((p0q1 + 1)) + 1)) + 1)) + 1)))) && decide ((((sShP p0q0 ((((((((p0q1 + 1)) + 1)) + 1)) + 1)))) : Int) ≤ 2000000) && validS ((sShV p0q0 ((((((((p0q1 + 1)) + 1)) + 1)) + 1)))) then
  (bif rdOk p0q0 ((((sShP p0q0 ((((((((p0q1 + 1)) + 1)) + 1)) + 1)))) + volW ((sShV p0q0 ((((((((p0q1 + 1)) + 1)) + 1)) + 1)))))) && decide ((((((sShP p0q0 ((((((((p0q1 + 1)) + 1)) + 1)) + 1)))) + volW ((sShV p0q0 ((((((((p0q1 + 1)) + 1)) + 1)) + 1)))))) : Int) ≤ 2000000) && validS ([(pickV p0q0 p0q1 4)]) then
  some ([.agg [((.ints .i64 ((sShV p0q0 ((((((((p0q1 + 1)) + 1)) + 1)) + 1))))), false), ((.ints .i64 (fillV p0q0 ((sShP p0q0 ((((((((p0q1 + 1)) + 1)) + 1)) + 1)))) ((sShV p0q0 ((((((((p0q1 + 1)) + 1)) + 1)) + 1)))))), false)], .agg [((.ints .i64 ([(pickV p0q0 p0q1 4)])), false), ((.ints .i64 (fillV p0q0 ((((sShP p0q0 ((((((((p0q1 + 1)) + 1)) + 1)) + 1)))) + volW ((sShV p0q0 ((((((((p0q1 + 1)) + 1)) + 1)) + 1)))))) ([(pickV p0q0 p0q1 4)]))), false)]], [[(.ints .u8 p0q0), (.int .i64 (((((sShP p0q0 ((((((((p0q1 + 1)) + 1)) + 1)) + 1)))) + volW ((sShV p0q0 ((((((((p0q1 + 1)) + 1)) + 1)) + 1)))))) + volW ([(pickV p0q0 p0q1 4)])))]])
  else
  none)
  else
  none)
  else
  none)
  else
  (bif (((pickV p0q0 ((((((p0q1 + 1)) + 1)) + 1)) 12) : Int) == 1) then
  (bif rdOk p0q0 ((((((((p0q1 + 1)) + 1)) + 1)) + 1)) && decide ((((((((((p0q1 + 1)) + 1)) + 1)) + 1)) : Int) ≤ 2000000) then
  (bif rdOk p0q0 ((sShP p0q0 ((((((((p0q1 + 1)) + 1)) + 1)) + 1)))) && decide ((((sShP p0q0 ((((((((p0q1 + 1)) + 1)) + 1)) + 1)))) : Int) ≤ 2000000) && validS ((([] : List Int) ++ [(pickV p0q0 p0q1 4)])) then
  (bif rdOk p0q0 ((((sShP p0q0 ((((((((p0q1 + 1)) + 1)) + 1)) + 1)))) + volW ((([] : List Int) ++ [(pickV p0q0 p0q1 4)])))) && decide ((((((sShP p0q0 ((((((((p0q1 + 1)) + 1)) + 1)) + 1)))) + volW ((([] : List Int) ++ [(pickV p0q0 p0q1 4)])))) : Int) ≤ 2000000) && validS ((sShV p0q0 ((((((((p0q1 + 1)) + 1)) + 1)) + 1)))) then
  some ([.agg [((.ints .i64 ((([] : List Int) ++ [(pickV p0q0 p0q1 4)]))), false), ((.ints .i64 (fillV p0q0 ((sShP p0q0 ((((((((p0q1 + 1)) + 1)) + 1)) + 1)))) ((([] : List Int) ++ [(pickV p0q0 p0q1 4)])))), false)], .agg [((.ints .i64 ((sShV p0q0 ((((((((p0q1 + 1)) + 1)) + 1)) + 1))))), false), ((.ints .i64 (fillV p0q0 ((((sShP p0q0 ((((((((p0q1 + 1)) + 1)) + 1)) + 1)))) + volW ((([] : List Int) ++ [(pickV p0q0 p0q1 4)])))) ((sShV p0q0 ((((((((p0q1 + 1)) + 1)) + 1)) + 1)))))), false)]], [[(.ints .u8 p0q0), (.int .i64 (((((sShP p0q0 ((((((((p0q1 + 1)) + 1)) + 1)) + 1)))) + volW ((([] : List Int) ++ [(pickV p0q0 p0q1 4)])))) + volW ((sShV p0q0 ((((((((p0q1 + 1)) + 1)) + 1)) + 1))))))]])
  else
  none)
  else
  none)
  else
  none)
  else
  (bif rdOk p0q0 ((((((((p0q1 + 1)) + 1)) + 1)) + 1)) && decide ((((((((((p0q1 + 1)) + 1)) + 1)) + 1)) : Int) ≤ 2000000) && validS ((([] : List Int) ++ [(pickV p0q0 p0q1 4)])) then
  (bif rdOk p0q0 ((((((((((p0q1 + 1)) + 1)) + 1)) + 1)) + volW ((([] : List Int) ++ [(pickV p0q0 p0q1 4)])))) && decide ((((((((((((p0q1 + 1)) + 1)) + 1)) + 1)) + volW ((([] : List Int) ++ [(pickV p0q0 p0q1 4)])))) : Int) ≤ 2000000) && validS ([(pickV p0q0 p0q1 4)]) then
  some ([.agg [((.ints .i64 ((([] : List Int) ++ [(pickV p0q0 p0q1 4)]))), false), ((.ints .i64 (fillV p0q0 ((((((((p0q1 + 1)) + 1)) + 1)) + 1)) ((([] : List Int) ++ [(pickV p0q0 p0q1 4)])))), false)], .agg [((.ints .i64 ([(pickV p0q0 p0q1 4)])), false), ((.ints .i64 (fillV p0q0 ((((((((((p0q1 + 1)) + 1)) + 1)) + 1)) + volW ((([] : List Int) ++ [(pickV p0q0 p0q1 4)])))) ([(pickV p0q0 p0q1 4)]))), false)]], [[(.ints .u8 p0q0), (.int .i64 (((((((((((p0q1 + 1)) + 1)) + 1)) + 1)) + volW ((([] : List Int) ++ [(pickV p0q0 p0q1 4)])))) + volW ([(pickV p0q0 p0q1 4)])))]])
  else
  none)
  else
  none)))
  else
  none)
  else
  none))
  else
  none))
  else
  none)
  else
  none) := by kernel_rfl
end spec_matrixPair
theorem spec_matrixPair.ok_of (hX : ∀ E ∈ spec_matrixPair.X, CallSpec Try.prog E) (h : ∀ (bs : List Int) (p : Int), (rdOk bs p && decide ((p : Int) ≤ 900000)) = true → ∃ fuel, runF Try.prog spec_matrixPair.X spec_matrixPair.I 0 fuel 61 Try.f61 [.box [(.ints .u8 bs), (.int .i64 p)]] = some ([.agg [((.ints .i64 (mpS1 bs p)), false), ((.ints .i64 (mpD1 bs p)), false)], .agg [((.ints .i64 (mpS2 bs p)), false), ((.ints .i64 (mpD2 bs p)), false)]], [[(.ints .u8 bs), (.int .i64 (mpP bs p))]])) : CallSpec Try.prog spec_matrixPair.E :=
  callSpec_of (d := 0) hX (by kernel_rfl) spec_matrixPair.I_ok (by kernel_rfl) (by kernel_rfl) (by kernel_rfl) (fun _ _ _ _ h => by dsimp only [spec_matrixPair.E] at h; cases h) (fun xs hp => by
    dsimp only [spec_matrixPair.E] at hp ⊢
    split at hp
    · exact h _ _ hp
    · cases hp)
theorem spec_matrixPair.ok : CallSpec Try.prog spec_matrixPair.E := spec_matrixPair.ok_of (by simp [spec_matrixPair.X, spec_reader_pick.ok, spec_someShape.ok, spec_fill.ok]) fun bs p h => ⟨0, by
  simp only [Bool.and_eq_true, decide_eq_true_eq] at h
  obtain ⟨h, hp⟩ := h
  have r : ∀ q, p ≤ q → q ≤ p + 1000 → rdOk bs q = true := fun q a b => rd_le h a (by omega)
  obtain ⟨vL, vR, v1, v2⟩ := mp_valid h hp
  obtain ⟨b1, b2, b3, b4, b5, b6⟩ := mpQ_bd bs p
  have w1 := vol_bd v1
  have w2 := vol_bd v2
  have vS := sShV_ok (r (mpQ2 bs p + 1) (by omega) (by omega)) (by omega)
  have l4 : decide ((4 : Int) ≤ 1048576) = true := rfl
  have l12 : decide ((12 : Int) ≤ 1048576) = true := rfl
  skip
  have r0 := r p (by omega) (by omega)
  have r1 := r (p + 1) (by omega) (by omega)
  have r2 := r (p + 1 + 1) (by omega) (by omega)
  have rq1 := r (mpQ1 bs p) (by omega) (by omega)
  have rq2 := r (mpQ2 bs p) (by omega) (by omega)
  have rq3 := r (mpQ3 bs p) (by omega) (by omega)
  have ra := r (mpQ1 bs p + 1) (by omega) (by omega)
  have rb := r (mpQ2 bs p + 1) (by omega) (by omega)
  have rc := r (mpQ3 bs p + volW (mpS1 bs p)) (by omega) (by omega)
  have e1 : decide (mpQ2 bs p + 1 ≤ 2000000) = true := decide_eq_true (by omega)
  have e2 : decide (mpQ3 bs p ≤ 2000000) = true := decide_eq_true (by omega)
  have e3 : decide (mpQ3 bs p + volW (mpS1 bs p) ≤ 2000000) = true := decide_eq_true (by omega)
  have f1 : ∀ (a : Int), fits (([] : List Int).length + ([a] : List Int).length) 8 = true := fun _ => rfl
  have f2 : ∀ (a b : Int), fits (([a] : List Int).length + ([b] : List Int).length) 8 = true := fun _ _ => rfl
  have f3 : ∀ (a b : Int), fits ((([] : List Int) ++ [a]).length + ([b] : List Int).length) 8 = true := fun _ _ => rfl
  rw [spec_matrixPair.e]
  unfold mpP mpD1 mpD2
  unfold mpQ3 mpS1 mpS2 at *
  unfold mpC at *
  unfold mpQ2 mpL mpR at *
  unfold mpB at *
  unfold mpQ1 at *
  unfold mpA at *
  cases hA : decide (pickV bs (p + 1) 4 > 0) <;> simp only [hA, cond_true, cond_false] at *
  · cases hB : decide (pickV bs (p + 1 + 1) 4 > 0) <;> simp only [hB, cond_true, cond_false] at *
    · cases h0 : (pickV bs (p + 1 + 1 + 1) 12 == 0) <;> cases h1 : (pickV bs (p + 1 + 1 + 1) 12 == 1) <;> simp only [h0, h1, cond_true, cond_false] at * <;>
        simp only [r0, r1, r2, rq1, rq2, rq3, ra, rb, rc, e1, e2, e3, l4, l12, hA, hB, h0, h1, f1, f2, f3, v1, v2, vS, vL, vR, cond_true, cond_false, Bool.and_self, List.nil_append, List.cons_append]
    · cases h0 : (pickV bs (p + 1 + 1 + 1 + 1) 12 == 0) <;> cases h1 : (pickV bs (p + 1 + 1 + 1 + 1) 12 == 1) <;> simp only [h0, h1, cond_true, cond_false] at * <;>
        simp only [r0, r1, r2, rq1, rq2, rq3, ra, rb, rc, e1, e2, e3, l4, l12, hA, hB, h0, h1, f1, f2, f3, v1, v2, vS, vL, vR, cond_true, cond_false, Bool.and_self, List.nil_append, List.cons_append]
  · cases hB : decide (pickV bs (p + 1 + 1 + 1) 4 > 0) <;> simp only [hB, cond_true, cond_false] at *
    · cases h0 : (pickV bs (p + 1 + 1 + 1 + 1) 12 == 0) <;> cases h1 : (pickV bs (p + 1 + 1 + 1 + 1) 12 == 1) <;> simp only [h0, h1, cond_true, cond_false] at * <;>
        simp only [r0, r1, r2, rq1, rq2, rq3, ra, rb, rc, e1, e2, e3, l4, l12, hA, hB, h0, h1, f1, f2, f3, v1, v2, vS, vL, vR, cond_true, cond_false, Bool.and_self, List.nil_append, List.cons_append]
    · cases h0 : (pickV bs (p + 1 + 1 + 1 + 1 + 1) 12 == 0) <;> cases h1 : (pickV bs (p + 1 + 1 + 1 + 1 + 1) 12 == 1) <;> simp only [h0, h1, cond_true, cond_false] at * <;>
        simp only [r0, r1, r2, rq1, rq2, rq3, ra, rb, rc, e1, e2, e3, l4, l12, hA, hB, h0, h1, f1, f2, f3, v1, v2, vS, vL, vR, cond_true, cond_false, Bool.and_self, List.nil_append, List.cons_append]⟩

namespace spec_DrawSumProduct
noncomputable def E : Entry := ⟨27, false, false, fun | [.d (.ints .u8 bs)] => bytesB bs | _ => false, fun | [.d (.ints .u8 bs)] => ([.agg [((.ints .i64 (mpS1 (cutC bs) 0)), false), ((.ints .i64 (mpD1 (cutC bs) 0)), false)], .agg [((.ints .i64 (mpS2 (cutC bs) 0)), false), ((.ints .i64 (mpD2 (cutC bs) 0)), false)]], []) | _ => ([], []), fun _ => [], true, fun _ => none⟩
end spec_DrawSumProduct
namespace spec_DrawSumProduct
noncomputable def X : List Entry := [spec_newReader.E, spec_matrixPair.E]
noncomputable def I : List Inl := [⟨27, Try.f27, ⟨[6], [], [], [], [], []⟩⟩]
theorem I_ok : ∀ i ∈ I, Try.prog.funcs[i.f]? = some i.fn ∧ (i.fn.name == "runtime.NumGoroutine") = false := by
  intro i hi
  simp only [I, List.mem_cons, List.not_mem_nil, or_false] at hi
  subst hi
  exact ⟨by kernel_rfl, by kernel_rfl⟩
theorem e (fuel : Nat) (p0 : List Int) : runF Try.prog X I 0 fuel 27 Try.f27 [.d (.ints .u8 p0)] =
  (bif rdOk ((cutC p0)) 0 && decide ((0 : Int) ≤ 900000) then
  some ([.agg [((.ints .i64 (mpS1 ((cutC p0)) 0)), false), ((.ints .i64 (mpD1 ((cutC p0)) 0)), false)], .agg [((.ints .i64 (mpS2 ((cutC p0)) 0)), false), ((.ints .i64 (mpD2 ((cutC p0)) 0)), false)]], [])
  else
  none) := by kernel_rfl
end spec_DrawSumProduct
theorem spec_DrawSumProduct.ok_of (hX : ∀ E ∈ spec_DrawSumProduct.X, CallSpec Try.prog E) (h : ∀ (bs : List Int), (bytesB bs) = true → ∃ fuel, runF Try.prog spec_DrawSumProduct.X spec_DrawSumProduct.I 0 fuel 27 Try.f27 [.d (.ints .u8 bs)] = some ([.agg [((.ints .i64 (mpS1 (cutC bs) 0)), false), ((.ints .i64 (mpD1 (cutC bs) 0)), false)], .agg [((.ints .i64 (mpS2 (cutC bs) 0)), false), ((.ints .i64 (mpD2 (cutC bs) 0)), false)]], [])) : CallSpec Try.prog spec_DrawSumProduct.E :=
  callSpec_of (d := 0) hX (by kernel_rfl) spec_DrawSumProduct.I_ok (by kernel_rfl) (by kernel_rfl) (by kernel_rfl) (fun _ _ _ _ h => by dsimp only [spec_DrawSumProduct.E] at h; cases h) (fun xs hp => by
    dsimp only [spec_DrawSumProduct.E] at hp ⊢
    split at hp
    · exact h _ hp
    · cases hp)
theorem spec_DrawSumProduct.ok : CallSpec Try.prog spec_DrawSumProduct.E := spec_DrawSumProduct.ok_of (by simp [spec_DrawSumProduct.X, spec_newReader.ok, spec_matrixPair.ok]) fun bs h => ⟨0, by
  have r0 := cut_ok h (p := 0) (by omega) (by omega)
  rw [spec_DrawSumProduct.e, r0]
  rfl⟩

namespace spec_validOp
noncomputable def E : Entry := ⟨91, true, false, fun | [.d (.int .i64 op)] => true | _ => false, fun | [.d (.int .i64 op)] => ([.one ((.bool (opOk op)), false)], []) | _ => ([], []), fun _ => [], false, fun _ => none⟩
end spec_validOp
namespace spec_validOp
noncomputable def X : List Entry := [spec_inRange.E]
noncomputable def I : List Inl := [⟨91, Try.f91, ⟨[], [], [], [], [], []⟩⟩]
theorem I_ok : ∀ i ∈ I, Try.prog.funcs[i.f]? = some i.fn ∧ (i.fn.name == "runtime.NumGoroutine") = false := by
  intro i hi
  simp only [I, List.mem_cons, List.not_mem_nil, or_false] at hi
  subst hi
  exact ⟨by kernel_rfl, by kernel_rfl⟩
theorem e (fuel : Nat) (p0 : Int) : runF Try.prog X I 0 fuel 91 Try.f91 [.d (.int .i64 p0)] =
  some ([.one ((.bool (decide (1 ≤ p0) && decide (p0 ≤ 8))), false)], []) := by kernel_rfl
end spec_validOp
theorem spec_validOp.ok_of (hX : ∀ E ∈ spec_validOp.X, CallSpec Try.prog E) (h : ∀ (op : Int), (true) = true → ∃ fuel, runF Try.prog spec_validOp.X spec_validOp.I 0 fuel 91 Try.f91 [.d (.int .i64 op)] = some ([.one ((.bool (opOk op)), false)], [])) : CallSpec Try.prog spec_validOp.E :=
  callSpec_of (d := 0) hX (by kernel_rfl) spec_validOp.I_ok (by kernel_rfl) (by kernel_rfl) (by kernel_rfl) (fun _ _ _ _ h => by dsimp only [spec_validOp.E] at h; cases h) (fun xs hp => by
    dsimp only [spec_validOp.E] at hp ⊢
    split at hp
    · exact h _ hp
    · cases hp)
theorem spec_validOp.ok : CallSpec Try.prog spec_validOp.E := spec_validOp.ok_of (by simp [spec_validOp.X, spec_inRange.ok]) fun op _ => ⟨0, by rw [spec_validOp.e]; rfl⟩

namespace spec_around
noncomputable def E : Entry := ⟨113, true, false, fun | [.d (.ints .i64 sh), .d (.int .i64 k)] => validS sh && axOk sh k | _ => false, fun | [.d (.ints .i64 sh), .d (.int .i64 k)] => ([.one ((.int .i64 ((befN sh k.toNat : Nat) : Int)), false), .one ((.int .i64 ((behN sh k.toNat : Nat) : Int)), false)], []) | _ => ([], []), fun _ => [], false, fun _ => none⟩
end spec_around
namespace spec_around
noncomputable def X : List Entry := [spec_volume.E]
noncomputable def I : List Inl := [⟨113, Try.f113, ⟨[], [], [], [(1, [0, 1, 4, 5, 6, 2, 3, 7, 8, 9, 10])], [], []⟩⟩]
theorem I_ok : ∀ i ∈ I, Try.prog.funcs[i.f]? = some i.fn ∧ (i.fn.name == "runtime.NumGoroutine") = false := by
  intro i hi
  simp only [I, List.mem_cons, List.not_mem_nil, or_false] at hi
  subst hi
  exact ⟨by kernel_rfl, by kernel_rfl⟩
theorem e (fuel : Nat) (p0 : List Int) (p1 : Int) : runF Try.prog X I 0 fuel 113 Try.f113 [.d (.ints .i64 p0), .d (.int .i64 p1)] =
  (cutEnds p0.length (none) (some (.imm (.int .i64 p1)))).bind fun cq1 =>
  (bif decide ((((p0.drop cq1.1).take (cq1.2 - cq1.1))).length < 9223372036854775808) then
  (cutEnds p0.length (some (.imm (.int .i64 (IntKind.wrap .i64 (p1 + 1))))) (none)).bind fun cq2 =>
  (bif decide ((((p0.drop cq2.1).take (cq2.2 - cq2.1))).length < 9223372036854775808) then
  some ([.one ((.int .i64 (volW (((p0.drop cq1.1).take (cq1.2 - cq1.1))))), false), .one ((.int .i64 (volW (((p0.drop cq2.1).take (cq2.2 - cq2.1))))), false)], [])
  else
  none)
  else
  none) := by kernel_rfl
end spec_around
theorem spec_around.ok_of (hX : ∀ E ∈ spec_around.X, CallSpec Try.prog E) (h : ∀ (sh : List Int) (k : Int), (validS sh && axOk sh k) = true → ∃ fuel, runF Try.prog spec_around.X spec_around.I 0 fuel 113 Try.f113 [.d (.ints .i64 sh), .d (.int .i64 k)] = some ([.one ((.int .i64 ((befN sh k.toNat : Nat) : Int)), false), .one ((.int .i64 ((behN sh k.toNat : Nat) : Int)), false)], [])) : CallSpec Try.prog spec_around.E :=
  callSpec_of (d := 0) hX (by kernel_rfl) spec_around.I_ok (by kernel_rfl) (by kernel_rfl) (by kernel_rfl) (fun _ _ _ _ h => by dsimp only [spec_around.E] at h; cases h) (fun xs hp => by
    dsimp only [spec_around.E] at hp ⊢
    split at hp
    · exact h _ _ hp
    · cases hp)
theorem spec_around.ok : CallSpec Try.prog spec_around.E := spec_around.ok_of (by simp [spec_around.X, spec_volume.ok]) fun sh k h => ⟨0, by
  rw [spec_around.e]
  simp only [Bool.and_eq_true] at h
  obtain ⟨e1, e2⟩ := axOk_nat h.2
  have ax := ax_of h.1 e2
  have hr := ax.rank
  generalize k.toNat = j at *
  subst e1
  rw [cut_hi (by omega), w1 (by omega), cut_lo (by omega)]
  simp only [Option.bind_some, List.drop_zero, Nat.sub_zero, drop_take]
  rw [lt_of (by simp; omega), lt_of (by simp; omega), ax.bef, ax.beh]
  rfl⟩

namespace spec_lane
noncomputable def E : Entry := ⟨94, false, false, fun | [.d (.agg [(.ints .i64 sh), (.ints .i64 da)]), .d (.int .i64 k), .d (.int .i64 i), .d (.int .i64 m)] => axB sh da k && laneB sh k i m | _ => false, fun | [.d (.agg [(.ints .i64 sh), (.ints .i64 da)]), .d (.int .i64 k), .d (.int .i64 i), .d (.int .i64 m)] => ([.one ((.ints .i64 (lnK sh da k (Int.toNat i) (Int.toNat m))), true)], []) | _ => ([], []), fun _ => [], true, fun _ => none⟩
end spec_lane
namespace spec_lane
noncomputable def X : List Entry := [spec_around.E]
noncomputable def I : List Inl := [⟨94, Try.f94, ⟨[], [(1000004, [0, 5, 6, 7, 8, 10, 13, 14, 15, 16, 17, 18, 19, 20, 21, 22, 23, 24, 25, 26, 27, 28, 29, 30, 31, 32, 33, 34, 35, 36, 37, 38, 39, 40, 41, 42, 43, 44, 45, 46, 47, 48, 49, 50])], [], [(6, [0, 1, 3, 4, 6, 10, 12, 14, 2, 5, 7, 8, 9, 11, 13, 15, 16, 17, 18, 19, 20])], [], []⟩⟩]
theorem I_ok : ∀ i ∈ I, Try.prog.funcs[i.f]? = some i.fn ∧ (i.fn.name == "runtime.NumGoroutine") = false := by
  intro i hi
  simp only [I, List.mem_cons, List.not_mem_nil, or_false] at hi
  subst hi
  exact ⟨by kernel_rfl, by kernel_rfl⟩
noncomputable abbrev L0 (fuel n : Nat) (s : St) (k : Kont) := lAt Try.prog X I fuel true 0 false 94 (bodyOf Try.f94) [1, 1, 1, 0, 1, 0] n s k
noncomputable abbrev k0  (fuel : Nat) : Kont := (kAt Try.prog X I fuel true 0 false 94 (bodyOf Try.f94) [1, 1, 1, 0, 1, 0] [] (endK Try.prog Try.f94))
noncomputable def t0 (p1 : Int) (p2 : Int) (p3 : Int) (p0q0 : List Int) (p0q1 : List Int) (x0q4 : Int) (x0q7 : List Int) : St := ⟨[.dead, (.imm (.int .i64 p1)), (.imm (.int .i64 p2)), (.imm (.int .i64 p3)), (.ptr 1000000000 0 0), .dead, .dead, .dead, .dead, (.all 1000000001 1), .dead, (.imm (.int .i64 ((behN p0q0 p1.toNat : Nat) : Int))), (.imm (.int .i64 x0q4)), .dead, .dead, .dead, .dead, .dead, .dead, .dead, .dead, .dead, .dead, .dead, .dead, .dead, .dead, .dead, .dead, .dead, .dead, .dead, .dead, .dead, .dead, .dead, .dead, .dead, .dead, .dead, .dead, .dead, .dead, .dead, .dead, .dead, .dead, .dead, .dead, .dead, .dead], hOf [(1000000000, (.box [(.imm (.ints .i64 p0q0)), (.imm (.ints .i64 p0q1))])), (1000000001, (.ints .i64 x0q7))], [], []⟩
theorem e (fuel : Nat) (p0q0 : List Int) (p0q1 : List Int) (p1 : Int) (p2 : Int) (p3 : Int) : runF Try.prog X I 0 fuel 94 Try.f94 [.d (.agg [(.ints .i64 p0q0), (.ints .i64 p0q1)]), .d (.int .i64 p1), .d (.int .i64 p2), .d (.int .i64 p3)] =
  (bif validS p0q0 && axOk p0q0 p1 then
  L0 fuel fuel (t0 p1 p2 p3 p0q0 p0q1 0 ([])) (k0  fuel)
  else
  none) := by kernel_rfl
theorem s0 (fuel n0 : Nat) (p1 : Int) (p2 : Int) (p3 : Int) (p0q0 : List Int) (p0q1 : List Int) (x0q4 : Int) (x0q7 : List Int) : L0 fuel (n0 + 1) (t0 p1 p2 p3 p0q0 p0q1 x0q4 x0q7) (k0  fuel) =
  (idx p1 p0q0.length).bind fun j13 =>
  (p0q0[j13]?).bind fun v14 =>
  (bif (decide ((x0q4 : Int) < v14)) then
  (idx p1 p0q0.length).bind fun j15 =>
  (p0q0[j15]?).bind fun v16 =>
  (idx (IntKind.wrap .i64 ((IntKind.wrap .i64 ((IntKind.wrap .i64 ((IntKind.wrap .i64 (p2 * v16)) + x0q4)) * ((behN p0q0 p1.toNat : Nat) : Int))) + p3)) p0q1.length).bind fun j17 =>
  (p0q1[j17]?).bind fun v18 =>
  (bif fits (x0q7.length + ([v18] : List Int).length) 8 then
  L0 fuel n0 (t0 p1 p2 p3 p0q0 p0q1 ((IntKind.wrap .i64 (x0q4 + 1))) ((x0q7 ++ [v18]))) (k0  fuel)
  else
  none)
  else
  some ([.one ((.ints .i64 x0q7), true)], [])) := by kernel_rfl
end spec_lane
theorem spec_lane.ok_of (hX : ∀ E ∈ spec_lane.X, CallSpec Try.prog E) (h : ∀ (sh : List Int) (da : List Int) (k : Int) (i : Int) (m : Int), (axB sh da k && laneB sh k i m) = true → ∃ fuel, runF Try.prog spec_lane.X spec_lane.I 0 fuel 94 Try.f94 [.d (.agg [(.ints .i64 sh), (.ints .i64 da)]), .d (.int .i64 k), .d (.int .i64 i), .d (.int .i64 m)] = some ([.one ((.ints .i64 (lnK sh da k (Int.toNat i) (Int.toNat m))), true)], [])) : CallSpec Try.prog spec_lane.E :=
  callSpec_of (d := 0) hX (by kernel_rfl) spec_lane.I_ok (by kernel_rfl) (by kernel_rfl) (by kernel_rfl) (fun _ _ _ _ h => by dsimp only [spec_lane.E] at h; cases h) (fun xs hp => by
    dsimp only [spec_lane.E] at hp ⊢
    split at hp
    · exact h _ _ _ _ _ hp
    · cases hp)
theorem spec_lane.loop (fuel : Nat) (sh da : List Int) (k i m : Nat) (ax : Ax sh k) (hd : da.length = befN sh k * lenN sh k * behN sh k) (hi : i < befN sh k) (hm : m < behN sh k) (hf : 60 < fuel) :
    spec_lane.L0 fuel fuel (spec_lane.t0 (k : Int) (i : Int) (m : Int) sh da 0 []) (spec_lane.k0 fuel) = some ([.one ((.ints .i64 (lnD (lenN sh k) (behN sh k) da i m)), true)], []) := by
  have hL := ax.len_le
  have hlk := ax.lt
  have hle := ax.le
  refine run_loop (N := lenN sh k) (fun n j out => spec_lane.L0 fuel n (spec_lane.t0 (k : Int) (i : Int) (m : Int) sh da (j : Int) out) (spec_lane.k0 fuel)) (fun j out => out = tab j fun j => da.getD ((i * lenN sh k + j) * behN sh k + m) 0) ?_ ?_ fuel 0 [] (by omega) (by omega) rfl
  · intro n out ho
    change out = lnD (lenN sh k) (behN sh k) da i m at ho
    rw [spec_lane.s0, idx_nat hlk]
    simp only [Option.bind_some, getD_get hlk, ax.len]
    rw [decide_eq_false (by omega), ho]
    rfl
  · intro n j out hj ho
    have hl : out.length = j := by rw [ho, tab_length]
    obtain ⟨e1, _, _, _⟩ := enc3 hi hj hm
    have hx : i * lenN sh k + j ≤ 1000000000 := by
      have h2 := ax.bef_le
      have : i * lenN sh k ≤ 3600 * 60 := Nat.mul_le_mul (by omega) hL
      omega
    rw [spec_lane.s0, idx_nat hlk]
    simp only [Option.bind_some, getD_get hlk, ax.len]
    rw [dlt hj, cond_true, Int.toNat_natCast, wIdx hx (by omega), idx_nat (by omega), w1 (by omega)]
    simp only [Option.bind_some, getD_get (show (i * lenN sh k + j) * behN sh k + m < da.length by omega)]
    rw [fitsOk (by simp only [List.length_cons, List.length_nil]; omega), cond_true]
    exact ⟨_, by rw [tab_succ, ho], rfl⟩
theorem spec_lane.ok : CallSpec Try.prog spec_lane.E := spec_lane.ok_of (by simp [spec_lane.X, spec_around.ok]) fun sh da k i m h => by
  obtain ⟨F, hF⟩ : ∃ F : Nat, 60 < F := ⟨61, by omega⟩
  refine ⟨F, ?_⟩
  simp only [Bool.and_eq_true, laneB, decide_eq_true_eq] at h
  obtain ⟨j, rfl, hj, hv, ax, hd, hl⟩ := axB_inv h.1
  rw [Int.toNat_natCast] at h
  rw [spec_lane.e, (validA_inv hv).1, axOk_of hj]
  obtain ⟨i', rfl⟩ : ∃ i' : Nat, i = i' := ⟨i.toNat, by omega⟩
  obtain ⟨m', rfl⟩ : ∃ m' : Nat, m = m' := ⟨m.toNat, by omega⟩
  rw [Bool.and_self, cond_true, lnK, Int.toNat_natCast, Int.toNat_natCast, Int.toNat_natCast]
  exact spec_lane.loop F sh da j i' m' ax hd (by omega) (by omega) (by omega)

namespace spec_vector
noncomputable def E : Entry := ⟨35, false, false, fun | [.d (.ints .i64 xs)] => szB xs | _ => false, fun | [.d (.ints .i64 xs)] => ([.agg [((.ints .i64 [((xs.length : Nat) : Int)]), true), ((.ints .i64 xs), true)]], []) | _ => ([], []), fun _ => [], true, fun _ => none⟩
end spec_vector
namespace spec_vector
noncomputable def X : List Entry := [spec_make1.E]
noncomputable def I : List Inl := [⟨35, Try.f35, ⟨[7], [], [], [], [5], []⟩⟩]
theorem I_ok : ∀ i ∈ I, Try.prog.funcs[i.f]? = some i.fn ∧ (i.fn.name == "runtime.NumGoroutine") = false := by
  intro i hi
  simp only [I, List.mem_cons, List.not_mem_nil, or_false] at hi
  subst hi
  exact ⟨by kernel_rfl, by kernel_rfl⟩
theorem e (fuel : Nat) (p0 : List Int) : runF Try.prog X I 0 fuel 35 Try.f35 [.d (.ints .i64 p0)] =
  (bif szB (([((p0.length : Nat) : Int)] : List Int)) && szB p0 then
  some ([.agg [((.ints .i64 (([((p0.length : Nat) : Int)] : List Int))), true), ((.ints .i64 p0), true)]], [])
  else
  none) := by kernel_rfl
end spec_vector
theorem spec_vector.ok_of (hX : ∀ E ∈ spec_vector.X, CallSpec Try.prog E) (h : ∀ (xs : List Int), (szB xs) = true → ∃ fuel, runF Try.prog spec_vector.X spec_vector.I 0 fuel 35 Try.f35 [.d (.ints .i64 xs)] = some ([.agg [((.ints .i64 [((xs.length : Nat) : Int)]), true), ((.ints .i64 xs), true)]], [])) : CallSpec Try.prog spec_vector.E :=
  callSpec_of (d := 0) hX (by kernel_rfl) spec_vector.I_ok (by kernel_rfl) (by kernel_rfl) (by kernel_rfl) (fun _ _ _ _ h => by dsimp only [spec_vector.E] at h; cases h) (fun xs hp => by
    dsimp only [spec_vector.E] at hp ⊢
    split at hp
    · exact h _ hp
    · cases hp)
theorem spec_vector.ok : CallSpec Try.prog spec_vector.E := spec_vector.ok_of (by simp [spec_vector.X, spec_make1.ok]) fun xs h => ⟨0, by
  rw [spec_vector.e, h, szB_of (by simp)]
  rfl⟩

namespace spec_limit
noncomputable def E : Entry := ⟨46, true, false, fun | [.d (.int .i64 n)] => true | _ => false, fun | [.d (.int .i64 n)] => ([.one ((.int .i64 (limV n)), false)], []) | _ => ([], []), fun _ => [], false, fun _ => none⟩
end spec_limit
namespace spec_limit
noncomputable def X : List Entry := []
noncomputable def I : List Inl := [⟨46, Try.f46, ⟨[], [], [], [], [], []⟩⟩]
theorem I_ok : ∀ i ∈ I, Try.prog.funcs[i.f]? = some i.fn ∧ (i.fn.name == "runtime.NumGoroutine") = false := by
  intro i hi
  simp only [I, List.mem_cons, List.not_mem_nil, or_false] at hi
  subst hi
  exact ⟨by kernel_rfl, by kernel_rfl⟩
theorem e (fuel : Nat) (p0 : Int) : runF Try.prog X I 0 fuel 46 Try.f46 [.d (.int .i64 p0)] =
  some ([.one ((.int .i64 (maxI (-1000000) (minI 1000000 p0))), false)], []) := by kernel_rfl
end spec_limit
theorem spec_limit.ok_of (hX : ∀ E ∈ spec_limit.X, CallSpec Try.prog E) (h : ∀ (n : Int), (true) = true → ∃ fuel, runF Try.prog spec_limit.X spec_limit.I 0 fuel 46 Try.f46 [.d (.int .i64 n)] = some ([.one ((.int .i64 (limV n)), false)], [])) : CallSpec Try.prog spec_limit.E :=
  callSpec_of (d := 0) hX (by kernel_rfl) spec_limit.I_ok (by kernel_rfl) (by kernel_rfl) (by kernel_rfl) (fun _ _ _ _ h => by dsimp only [spec_limit.E] at h; cases h) (fun xs hp => by
    dsimp only [spec_limit.E] at hp ⊢
    split at hp
    · exact h _ hp
    · cases hp)
theorem spec_limit.ok : CallSpec Try.prog spec_limit.E := spec_limit.ok_of (by simp [spec_limit.X]) fun n _ => ⟨0, by rw [spec_limit.e, lim_spec]⟩

namespace spec_toInt
noncomputable def E : Entry := ⟨119, true, false, fun | [.d (.bool b)] => true | _ => false, fun | [.d (.bool b)] => ([.one ((.int .i64 (tInt b)), false)], []) | _ => ([], []), fun _ => [], false, fun _ => none⟩
end spec_toInt
namespace spec_toInt
noncomputable def X : List Entry := []
noncomputable def I : List Inl := [⟨119, Try.f119, ⟨[], [], [], [], [], []⟩⟩]
theorem I_ok : ∀ i ∈ I, Try.prog.funcs[i.f]? = some i.fn ∧ (i.fn.name == "runtime.NumGoroutine") = false := by
  intro i hi
  simp only [I, List.mem_cons, List.not_mem_nil, or_false] at hi
  subst hi
  exact ⟨by kernel_rfl, by kernel_rfl⟩
theorem e (fuel : Nat) (p0 : Bool) : runF Try.prog X I 0 fuel 119 Try.f119 [.d (.bool p0)] =
  (bif p0 then
  some ([.one ((.int .i64 1), false)], [])
  else
  some ([.one ((.int .i64 0), false)], [])) := by kernel_rfl
end spec_toInt
theorem spec_toInt.ok_of (hX : ∀ E ∈ spec_toInt.X, CallSpec Try.prog E) (h : ∀ (b : Bool), (true) = true → ∃ fuel, runF Try.prog spec_toInt.X spec_toInt.I 0 fuel 119 Try.f119 [.d (.bool b)] = some ([.one ((.int .i64 (tInt b)), false)], [])) : CallSpec Try.prog spec_toInt.E :=
  callSpec_of (d := 0) hX (by kernel_rfl) spec_toInt.I_ok (by kernel_rfl) (by kernel_rfl) (by kernel_rfl) (fun _ _ _ _ h => by dsimp only [spec_toInt.E] at h; cases h) (fun xs hp => by
    dsimp only [spec_toInt.E] at hp ⊢
    split at hp
    · exact h _ hp
    · cases hp)
theorem spec_toInt.ok : CallSpec Try.prog spec_toInt.E := spec_toInt.ok_of (by simp [spec_toInt.X]) fun b _ => ⟨0, by rw [spec_toInt.e]; cases b <;> rfl⟩

namespace spec_modulo
noncomputable def E : Entry := ⟨120, true, false, fun | [.d (.int .i64 a), .d (.int .i64 b)] => decide (0 < b) | _ => false, fun | [.d (.int .i64 a), .d (.int .i64 b)] => ([.one ((.int .i64 (modV a b)), false)], []) | _ => ([], []), fun _ => [], false, fun _ => none⟩
end spec_modulo
namespace spec_modulo
noncomputable def X : List Entry := []
noncomputable def I : List Inl := [⟨120, Try.f120, ⟨[], [], [], [], [], []⟩⟩]
theorem I_ok : ∀ i ∈ I, Try.prog.funcs[i.f]? = some i.fn ∧ (i.fn.name == "runtime.NumGoroutine") = false := by
  intro i hi
  simp only [I, List.mem_cons, List.not_mem_nil, or_false] at hi
  subst hi
  exact ⟨by kernel_rfl, by kernel_rfl⟩
theorem e (fuel : Nat) (p0 : Int) (p1 : Int) : runF Try.prog X I 0 fuel 120 Try.f120 [.d (.int .i64 p0), .d (.int .i64 p1)] =
  (bif decide ((p1 : Int) = 0) then
  none
  else
  (bif decide ((p1 : Int) = 0) then
  none
  else
  some ([.one ((.int .i64 (Int.tmod (IntKind.wrap .i64 ((Int.tmod p0 p1) + p1)) p1)), false)], []))) := by kernel_rfl
end spec_modulo
theorem spec_modulo.ok_of (hX : ∀ E ∈ spec_modulo.X, CallSpec Try.prog E) (h : ∀ (a : Int) (b : Int), (decide (0 < b)) = true → ∃ fuel, runF Try.prog spec_modulo.X spec_modulo.I 0 fuel 120 Try.f120 [.d (.int .i64 a), .d (.int .i64 b)] = some ([.one ((.int .i64 (modV a b)), false)], [])) : CallSpec Try.prog spec_modulo.E :=
  callSpec_of (d := 0) hX (by kernel_rfl) spec_modulo.I_ok (by kernel_rfl) (by kernel_rfl) (by kernel_rfl) (fun _ _ _ _ h => by dsimp only [spec_modulo.E] at h; cases h) (fun xs hp => by
    dsimp only [spec_modulo.E] at hp ⊢
    split at hp
    · exact h _ _ hp
    · cases hp)
theorem spec_modulo.ok : CallSpec Try.prog spec_modulo.E := spec_modulo.ok_of (by simp [spec_modulo.X]) fun a b h => ⟨0, by
  have := of_decide_eq_true h
  rw [spec_modulo.e, decide_eq_false (p := b = 0) (by omega)]
  rfl⟩

namespace spec_operate
noncomputable def E : Entry := ⟨115, true, false, fun | [.d (.int .i64 op), .d (.int .i64 a), .d (.int .i64 b)] => true | _ => false, fun | [.d (.int .i64 op), .d (.int .i64 a), .d (.int .i64 b)] => ([.one ((.int .i64 (operF op a b)), false)], []) | _ => ([], []), fun _ => [], false, fun _ => none⟩
end spec_operate
namespace spec_operate
noncomputable def X : List Entry := [spec_limit.E, spec_toInt.E, spec_modulo.E]
noncomputable def I : List Inl := [⟨115, Try.f115, ⟨[], [], [], [], [], []⟩⟩]
theorem I_ok : ∀ i ∈ I, Try.prog.funcs[i.f]? = some i.fn ∧ (i.fn.name == "runtime.NumGoroutine") = false := by
  intro i hi
  simp only [I, List.mem_cons, List.not_mem_nil, or_false] at hi
  subst hi
  exact ⟨by kernel_rfl, by kernel_rfl⟩
theorem e (fuel : Nat) (p0 : Int) (p1 : Int) (p2 : Int) : runF Try.prog X I 0 fuel 115 Try.f115 [.d (.int .i64 p0), .d (.int .i64 p1), .d (.int .i64 p2)] =
  (bif ((p0 : Int) == 1) then
  some ([.one ((.int .i64 (limV ((IntKind.wrap .i64 (p1 + p2))))), false)], [])
  else
  (bif ((p0 : Int) == 2) then
  some ([.one ((.int .i64 (limV ((IntKind.wrap .i64 (p1 - p2))))), false)], [])
  else
  (bif ((p0 : Int) == 3) then
  some ([.one ((.int .i64 (limV ((IntKind.wrap .i64 (p1 * p2))))), false)], [])
  else
  (bif ((p0 : Int) == 4) then
  some ([.one ((.int .i64 (minI p1 p2)), false)], [])
  else
  (bif ((p0 : Int) == 5) then
  some ([.one ((.int .i64 (maxI p1 p2)), false)], [])
  else
  (bif ((p0 : Int) == 6) then
  some ([.one ((.int .i64 (tInt (((p1 : Int) == p2)))), false)], [])
  else
  (bif ((p0 : Int) == 7) then
  some ([.one ((.int .i64 (tInt ((decide ((p1 : Int) < p2))))), false)], [])
  else
  (bif (decide ((p1 : Int) ≤ 0)) then
  some ([.one ((.int .i64 p2), false)], [])
  else
  (bif decide (0 < p1) then
  some ([.one ((.int .i64 (modV p2 p1)), false)], [])
  else
  none))))))))) := by kernel_rfl
end spec_operate
theorem spec_operate.ok_of (hX : ∀ E ∈ spec_operate.X, CallSpec Try.prog E) (h : ∀ (op : Int) (a : Int) (b : Int), (true) = true → ∃ fuel, runF Try.prog spec_operate.X spec_operate.I 0 fuel 115 Try.f115 [.d (.int .i64 op), .d (.int .i64 a), .d (.int .i64 b)] = some ([.one ((.int .i64 (operF op a b)), false)], [])) : CallSpec Try.prog spec_operate.E :=
  callSpec_of (d := 0) hX (by kernel_rfl) spec_operate.I_ok (by kernel_rfl) (by kernel_rfl) (by kernel_rfl) (fun _ _ _ _ h => by dsimp only [spec_operate.E] at h; cases h) (fun xs hp => by
    dsimp only [spec_operate.E] at hp ⊢
    split at hp
    · exact h _ _ _ hp
    · cases hp)
theorem spec_operate.ok : CallSpec Try.prog spec_operate.E := spec_operate.ok_of (by simp [spec_operate.X, spec_limit.ok, spec_toInt.ok, spec_modulo.ok]) fun op a b _ => ⟨0, by
  rw [spec_operate.e]
  unfold operF restV
  by_cases h : a ≤ 0
  · rw [decide_eq_true h]
    cases op == 1 <;> cases op == 2 <;> cases op == 3 <;> cases op == 4 <;> cases op == 5 <;> cases op == 6 <;> cases op == 7 <;> rfl
  · rw [decide_eq_false h, decide_eq_true (p := 0 < a) (by omega)]
    cases op == 1 <;> cases op == 2 <;> cases op == 3 <;> cases op == 4 <;> cases op == 5 <;> cases op == 6 <;> cases op == 7 <;> rfl⟩

namespace spec_combine
noncomputable def E : Entry := ⟨96, false, false, fun | [.d (.int .i64 op), .d (.agg [(.ints .i64 s1), (.ints .i64 d1)]), .d (.agg [(.ints .i64 s2), (.ints .i64 d2)])] => validA s1 d1 && validA s2 d2 && fitB s1 s2 | _ => false, fun | [.d (.int .i64 op), .d (.agg [(.ints .i64 s1), (.ints .i64 d1)]), .d (.agg [(.ints .i64 s2), (.ints .i64 d2)])] => ([.agg [((.ints .i64 (cS s1 s2)), true), ((.ints .i64 (cD op s1 d1 s2 d2)), true)]], []) | _ => ([], []), fun _ => [], true, fun _ => none⟩
end spec_combine
namespace spec_combine
noncomputable def X : List Entry := [spec_volume.E, spec_operate.E, spec_make1.E]
noncomputable def I : List Inl := [⟨96, Try.f96, ⟨[52], [(1000006, [1, 2, 3, 10, 11, 12, 13, 14, 15, 16, 17, 18, 19, 20, 21, 22, 23, 24, 25, 26, 27, 28, 29, 30, 31, 32, 33, 34, 35, 36, 37, 38, 39, 40, 41, 42, 43, 44, 45, 46, 47, 48, 49, 50, 51, 52])], [], [(8, [0, 1, 2, 4, 5, 12, 14, 15, 3, 6, 7, 8, 9, 10, 11, 13, 16, 17, 18, 19, 20, 21, 22, 23, 24, 25])], [], []⟩⟩]
theorem I_ok : ∀ i ∈ I, Try.prog.funcs[i.f]? = some i.fn ∧ (i.fn.name == "runtime.NumGoroutine") = false := by
  intro i hi
  simp only [I, List.mem_cons, List.not_mem_nil, or_false] at hi
  subst hi
  exact ⟨by kernel_rfl, by kernel_rfl⟩
noncomputable abbrev L0 (fuel n : Nat) (s : St) (k : Kont) := lAt Try.prog X I fuel true 0 false 96 (bodyOf Try.f96) [1, 1, 1, 1, 0, 1, 0] n s k
noncomputable abbrev k0  (fuel : Nat) : Kont := (kAt Try.prog X I fuel true 0 false 96 (bodyOf Try.f96) [1, 1, 1, 1, 0, 1, 0] [] (endK Try.prog Try.f96))
noncomputable def t0 (p0 : Int) (p1q0 : List Int) (p1q1 : List Int) (p2q0 : List Int) (p2q1 : List Int) (x0q1 : List Int) (x0q2 : Int) (x0q7 : List Int) : St := ⟨[(.imm (.int .i64 p0)), .dead, .dead, .dead, (.ptr 1000000000 0 0), (.ptr 1000000001 0 0), (.ptr 1000000002 0 0), (.imm (.ints .i64 x0q1)), (.all 1000000003 1), (.imm (.int .i64 x0q2)), .dead, .dead, .dead, .dead, .dead, .dead, .dead, .dead, .dead, .dead, .dead, .dead, .dead, .dead, .dead, .dead, .dead, .dead, .dead, .dead, .dead, .dead, .dead, .dead, .dead, .dead, .dead, .dead, .dead, .dead, .dead, .dead, .dead, .dead, .dead, .dead, .dead, .dead, .dead, .dead, .dead, .dead, .dead], hOf [(1000000000, (.box [(.imm (.ints .i64 p1q0)), (.imm (.ints .i64 p1q1))])), (1000000001, (.box [(.imm (.ints .i64 p2q0)), (.imm (.ints .i64 p2q1))])), (1000000002, (.box [(.imm .nils), (.imm .nils)])), (1000000003, (.ints .i64 x0q7))], [], []⟩
theorem e (fuel : Nat) (p0 : Int) (p1q0 : List Int) (p1q1 : List Int) (p2q0 : List Int) (p2q1 : List Int) : runF Try.prog X I 0 fuel 96 Try.f96 [.d (.int .i64 p0), .d (.agg [(.ints .i64 p1q0), (.ints .i64 p1q1)]), .d (.agg [(.ints .i64 p2q0), (.ints .i64 p2q1)])] =
  (bif ((((p1q0.length : Nat) : Int) : Int) == 0) then
  L0 fuel fuel (t0 p0 p1q0 p1q1 p2q0 p2q1 p2q0 0 ([])) (k0  fuel)
  else
  L0 fuel fuel (t0 p0 p1q0 p1q1 p2q0 p2q1 p1q0 0 ([])) (k0  fuel)) := by kernel_rfl
theorem s0 (fuel n0 : Nat) (p0 : Int) (p1q0 : List Int) (p1q1 : List Int) (p2q0 : List Int) (p2q1 : List Int) (x0q1 : List Int) (x0q2 : Int) (x0q7 : List Int) : L0 fuel (n0 + 1) (t0 p0 p1q0 p1q1 p2q0 p2q1 x0q1 x0q2 x0q7) (k0  fuel) =
  (bif decide (x0q1.length < 9223372036854775808) then
  (bif (decide ((x0q2 : Int) < (volW x0q1))) then
  (idx (minI x0q2 (IntKind.wrap .i64 (((p1q1.length : Nat) : Int) - 1))) p1q1.length).bind fun j5 =>
  (p1q1[j5]?).bind fun v6 =>
  (idx (minI x0q2 (IntKind.wrap .i64 (((p2q1.length : Nat) : Int) - 1))) p2q1.length).bind fun j7 =>
  (p2q1[j7]?).bind fun v8 =>
  (bif fits (x0q7.length + ([(operF p0 v6 v8)] : List Int).length) 8 then
  L0 fuel n0 (t0 p0 p1q0 p1q1 p2q0 p2q1 x0q1 ((IntKind.wrap .i64 (x0q2 + 1))) ((x0q7 ++ [(operF p0 v6 v8)]))) (k0  fuel)
  else
  none)
  else
  (bif szB x0q1 && szB x0q7 then
  some ([.agg [((.ints .i64 x0q1), true), ((.ints .i64 x0q7), true)]], [])
  else
  none))
  else
  none) := by kernel_rfl
end spec_combine
theorem spec_combine.ok_of (hX : ∀ E ∈ spec_combine.X, CallSpec Try.prog E) (h : ∀ (op : Int) (s1 : List Int) (d1 : List Int) (s2 : List Int) (d2 : List Int), (validA s1 d1 && validA s2 d2 && fitB s1 s2) = true → ∃ fuel, runF Try.prog spec_combine.X spec_combine.I 0 fuel 96 Try.f96 [.d (.int .i64 op), .d (.agg [(.ints .i64 s1), (.ints .i64 d1)]), .d (.agg [(.ints .i64 s2), (.ints .i64 d2)])] = some ([.agg [((.ints .i64 (cS s1 s2)), true), ((.ints .i64 (cD op s1 d1 s2 d2)), true)]], [])) : CallSpec Try.prog spec_combine.E :=
  callSpec_of (d := 0) hX (by kernel_rfl) spec_combine.I_ok (by kernel_rfl) (by kernel_rfl) (by kernel_rfl) (fun _ _ _ _ h => by dsimp only [spec_combine.E] at h; cases h) (fun xs hp => by
    dsimp only [spec_combine.E] at hp ⊢
    split at hp
    · exact h _ _ _ _ _ hp
    · cases hp)
theorem spec_combine.loop (fuel : Nat) (op : Int) (s1 d1 s2 d2 : List Int) (S : List Int) (hS : S.length ≤ 3) (hV : ((volW S).toNat : Int) = volW S) (hv : (volW S).toNat ≤ 60) (g1 : 0 < d1.length ∧ d1.length ≤ 60 ∨ (volW S).toNat = 0) (g2 : 0 < d2.length ∧ d2.length ≤ 60 ∨ (volW S).toNat = 0) : ∀ (m n j : Nat) (out : List Int), (volW S).toNat - j = m → m < n → j ≤ (volW S).toNat → out = tab j (fun i => operF op (d1.getD (min i (d1.length - 1)) 0) (d2.getD (min i (d2.length - 1)) 0)) →
    spec_combine.L0 fuel n (spec_combine.t0 op s1 d1 s2 d2 S (j : Int) out) (spec_combine.k0 fuel) = some ([.agg [(.ints .i64 S, true), (.ints .i64 (tab (volW S).toNat (fun i => operF op (d1.getD (min i (d1.length - 1)) 0) (d2.getD (min i (d2.length - 1)) 0))), true)]], []) := by
  intro m
  induction m with
  | zero =>
    intro n j out h1 h2 h3 h4
    obtain ⟨n, rfl⟩ : ∃ n', n = n' + 1 := ⟨n - 1, by omega⟩
    have ho : out.length = j := by rw [h4, tab_length]
    rw [spec_combine.s0, decide_eq_true (p := S.length < 9223372036854775808) (by omega), decide_eq_false (p := (j : Int) < volW S) (by omega), szB_of (xs := S) (by omega), szB_of (xs := out) (by omega), h4, show j = (volW S).toNat by omega]
    rfl
  | succ m ih =>
    intro n j out h1 h2 h3 h4
    obtain ⟨n, rfl⟩ : ∃ n', n = n' + 1 := ⟨n - 1, by omega⟩
    have ho : out.length = j := by rw [h4, tab_length]
    have a1 : min j (d1.length - 1) < d1.length := by omega
    have a2 : min j (d2.length - 1) < d2.length := by omega
    have c1 : minI (j : Int) (IntKind.wrap .i64 (((d1.length : Nat) : Int) - 1)) = ((min j (d1.length - 1) : Nat) : Int) := by
      rw [wS (by omega) (by omega)]; unfold minI; split <;> omega
    have c2 : minI (j : Int) (IntKind.wrap .i64 (((d2.length : Nat) : Int) - 1)) = ((min j (d2.length - 1) : Nat) : Int) := by
      rw [wS (by omega) (by omega)]; unfold minI; split <;> omega
    rw [spec_combine.s0, decide_eq_true (p := S.length < 9223372036854775808) (by omega), decide_eq_true (p := (j : Int) < volW S) (by omega), c1, c2, idx_nat a1, idx_nat a2, w1 (by omega)]
    simp only [cond_true, Option.bind_some, getS a1, getS a2]
    rw [fitsOk (by simp; omega)]
    simp only [cond_true]
    have b1 : d1.getD (min j (d1.length - 1)) 0 = d1[min j (d1.length - 1)] := by simp [a1]
    have b2 : d2.getD (min j (d2.length - 1)) 0 = d2[min j (d2.length - 1)] := by simp [a2]
    exact ih n (j + 1) _ (by omega) (by omega) (by omega) (by rw [tab_succ, h4, b1, b2])
theorem spec_combine.ok : CallSpec Try.prog spec_combine.E := spec_combine.ok_of (by simp [spec_combine.X, spec_volume.ok, spec_operate.ok, spec_make1.ok]) fun op s1 d1 s2 d2 h => by
  simp only [Bool.and_eq_true] at h
  obtain ⟨⟨v1, v2⟩, hf⟩ := h
  have b1 := validA_len v1
  have b2 := validA_len v2
  have e1 := vol_len v1
  have e2 := vol_len v2
  have p1 := (vol_bd (validA_inv v1).1).1
  have p2 := (vol_bd (validA_inv v2).1).1
  obtain ⟨F, hF⟩ : ∃ F : Nat, 60 < F := ⟨61, by omega⟩
  refine ⟨F, ?_⟩
  rw [spec_combine.e, len0]
  by_cases h1 : s1.length = 0
  · have e := List.length_eq_zero_iff.mp h1
    subst e
    have l1 := sc_len v1
    have hc : cS [] s2 = s2 := rfl
    rw [decide_eq_true h1, cond_true, cD, hc]
    exact spec_combine.loop F op [] d1 s2 d2 s2 (by omega) (by omega) (by omega) (by omega) (by omega) _ F 0 [] rfl (by omega) (by omega) rfl
  · have hc : cS s1 s2 = s1 := by rw [cS, decide_eq_false h1]; rfl
    rw [decide_eq_false h1, cond_false, cD, hc]
    refine spec_combine.loop F op s1 d1 s2 d2 s1 (by omega) (by omega) (by omega) (by omega) ?_ _ F 0 [] rfl (by omega) (by omega) rfl
    by_cases h2 : s2.length = 0
    · have e := List.length_eq_zero_iff.mp h2
      subst e
      have l2 := sc_len v2
      omega
    · rw [fitB, decide_eq_false h1, decide_eq_false h2, cond_false, cond_false] at hf
      have := of_decide_eq_true hf
      subst this
      omega

namespace spec_neutral
noncomputable def E : Entry := ⟨114, true, false, fun | [.d (.int .i64 op)] => opOk op | _ => false, fun | [.d (.int .i64 op)] => ([.one ((.int .i64 (neuF op)), false)], []) | _ => ([], []), fun _ => [], false, fun _ => none⟩
end spec_neutral
namespace spec_neutral
noncomputable def X : List Entry := []
noncomputable def I : List Inl := [⟨114, Try.f114, ⟨[], [], [], [], [], []⟩⟩]
theorem I_ok : ∀ i ∈ I, Try.prog.funcs[i.f]? = some i.fn ∧ (i.fn.name == "runtime.NumGoroutine") = false := by
  intro i hi
  simp only [I, List.mem_cons, List.not_mem_nil, or_false] at hi
  subst hi
  exact ⟨by kernel_rfl, by kernel_rfl⟩
theorem e (fuel : Nat) (p0 : Int) : runF Try.prog X I 0 fuel 114 Try.f114 [.d (.int .i64 p0)] =
  (idx (IntKind.wrap .i64 (p0 - 1)) [0, 0, 1, 1000000, (-1000000), 1, 0, 0].length).bind fun j1 =>
  ([0, 0, 1, 1000000, (-1000000), 1, 0, 0][j1]?).bind fun v2 =>
  some ([.one ((.int .i64 v2), false)], []) := by kernel_rfl
end spec_neutral
theorem spec_neutral.ok_of (hX : ∀ E ∈ spec_neutral.X, CallSpec Try.prog E) (h : ∀ (op : Int), (opOk op) = true → ∃ fuel, runF Try.prog spec_neutral.X spec_neutral.I 0 fuel 114 Try.f114 [.d (.int .i64 op)] = some ([.one ((.int .i64 (neuF op)), false)], [])) : CallSpec Try.prog spec_neutral.E :=
  callSpec_of (d := 0) hX (by kernel_rfl) spec_neutral.I_ok (by kernel_rfl) (by kernel_rfl) (by kernel_rfl) (fun _ _ _ _ h => by dsimp only [spec_neutral.E] at h; cases h) (fun xs hp => by
    dsimp only [spec_neutral.E] at hp ⊢
    split at hp
    · exact h _ hp
    · cases hp)
theorem spec_neutral.ok : CallSpec Try.prog spec_neutral.E := spec_neutral.ok_of (by simp [spec_neutral.X]) fun op h => ⟨0, by
  rw [spec_neutral.e]
  rcases opOk_cases h with rfl | rfl | rfl | rfl | rfl | rfl | rfl | rfl <;> rfl⟩

namespace spec_fold
noncomputable def E : Entry := ⟨95, true, false, fun | [.d (.int .i64 op), .d (.ints .i64 xs)] => opOk op && decide (xs.length < 9223372036854775808) | _ => false, fun | [.d (.int .i64 op), .d (.ints .i64 xs)] => ([.one ((.int .i64 (redF op xs)), false)], []) | _ => ([], []), fun _ => [], false, fun _ => none⟩
end spec_fold
namespace spec_fold
noncomputable def X : List Entry := [spec_neutral.E, spec_operate.E]
noncomputable def I : List Inl := [⟨95, Try.f95, ⟨[], [(1000005, [2, 3, 4, 7, 8, 9, 10, 11, 12, 13, 14, 15, 16, 17, 18, 19, 20, 21, 22, 23, 24, 25, 26, 27, 28, 29, 30, 31, 32])], [], [], [], []⟩⟩]
theorem I_ok : ∀ i ∈ I, Try.prog.funcs[i.f]? = some i.fn ∧ (i.fn.name == "runtime.NumGoroutine") = false := by
  intro i hi
  simp only [I, List.mem_cons, List.not_mem_nil, or_false] at hi
  subst hi
  exact ⟨by kernel_rfl, by kernel_rfl⟩
noncomputable abbrev L0 (fuel n : Nat) (s : St) (k : Kont) := lAt Try.prog X I fuel true 0 false 95 (bodyOf Try.f95) [1, 1, 1, 0, 1, 0] n s k
noncomputable abbrev k0  (fuel : Nat) : Kont := (kAt Try.prog X I fuel true 0 false 95 (bodyOf Try.f95) [1, 1, 1, 0, 1, 0] [] (endK Try.prog Try.f95))
noncomputable def t0 (p0 : Int) (p1 : List Int) (x0q2 : Int) (x0q3 : Int) : St := ⟨[(.imm (.int .i64 p0)), (.imm (.ints .i64 p1)), .dead, .dead, .dead, (.imm (.int .i64 x0q2)), (.imm (.int .i64 x0q3)), .dead, .dead, .dead, .dead, .dead, .dead, .dead, .dead, .dead, .dead, .dead, .dead, .dead, .dead, .dead, .dead, .dead, .dead, .dead, .dead, .dead, .dead, .dead, .dead, .dead, .dead], hOf [], [], []⟩
theorem e (fuel : Nat) (p0 : Int) (p1 : List Int) : runF Try.prog X I 0 fuel 95 Try.f95 [.d (.int .i64 p0), .d (.ints .i64 p1)] =
  (bif ((((p1.length : Nat) : Int) : Int) == 0) then
  (bif opOk p0 then
  some ([.one ((.int .i64 (neuF p0)), false)], [])
  else
  none)
  else
  (idx (IntKind.wrap .i64 (((p1.length : Nat) : Int) - 1)) p1.length).bind fun j1 =>
  (p1[j1]?).bind fun v2 =>
  L0 fuel fuel (t0 p0 p1 v2 ((IntKind.wrap .i64 (((p1.length : Nat) : Int) - 2)))) (k0  fuel)) := by kernel_rfl
theorem s0 (fuel n0 : Nat) (p0 : Int) (p1 : List Int) (x0q2 : Int) (x0q3 : Int) : L0 fuel (n0 + 1) (t0 p0 p1 x0q2 x0q3) (k0  fuel) =
  (bif (decide ((x0q3 : Int) ≥ 0)) then
  (idx x0q3 p1.length).bind fun j7 =>
  (p1[j7]?).bind fun v8 =>
  L0 fuel n0 (t0 p0 p1 ((operF p0 v8 x0q2)) ((IntKind.wrap .i64 (x0q3 - 1)))) (k0  fuel)
  else
  some ([.one ((.int .i64 x0q2), false)], [])) := by kernel_rfl
end spec_fold
theorem spec_fold.ok_of (hX : ∀ E ∈ spec_fold.X, CallSpec Try.prog E) (h : ∀ (op : Int) (xs : List Int), (opOk op && decide (xs.length < 9223372036854775808)) = true → ∃ fuel, runF Try.prog spec_fold.X spec_fold.I 0 fuel 95 Try.f95 [.d (.int .i64 op), .d (.ints .i64 xs)] = some ([.one ((.int .i64 (redF op xs)), false)], [])) : CallSpec Try.prog spec_fold.E :=
  callSpec_of (d := 0) hX (by kernel_rfl) spec_fold.I_ok (by kernel_rfl) (by kernel_rfl) (by kernel_rfl) (fun _ _ _ _ h => by dsimp only [spec_fold.E] at h; cases h) (fun xs hp => by
    dsimp only [spec_fold.E] at hp ⊢
    split at hp
    · exact h _ _ hp
    · cases hp)
theorem spec_fold.ok : CallSpec Try.prog spec_fold.E := spec_fold.ok_of (by simp [spec_fold.X, spec_neutral.ok, spec_operate.ok]) fun op xs h => ⟨xs.length + 1, by
  simp only [Bool.and_eq_true, decide_eq_true_eq] at h
  rw [spec_fold.e, len0]
  by_cases h0 : xs.length = 0
  · have h0' := List.length_eq_zero_iff.mp h0
    subst h0'
    rw [decide_eq_true h0, h.1]
    simp only [cond_true, redF, neuV, h.1]
  · obtain ⟨k, hk⟩ : ∃ k, xs.length = k + 1 := ⟨xs.length - 1, by omega⟩
    have e1 : ((xs.length : Nat) : Int) - 1 = (k : Int) := by omega
    have hkl : k < xs.length := by omega
    rw [decide_eq_false h0, cond_false, wS (by omega) (by omega), wS (by omega) (by omega), e1, idx_nat hkl]
    simp only [Option.bind_some, getD_get hkl]
    rw [show ((xs.length : Nat) : Int) - 2 = (k : Int) - 1 - ((0 : Nat) : Int) by omega]
    refine run_loop (N := k) (fun n j acc => spec_fold.L0 (xs.length + 1) n (spec_fold.t0 op xs acc ((k : Int) - 1 - (j : Int))) (spec_fold.k0 (xs.length + 1))) (fun j acc => acc = redF op (xs.drop (k - j))) ?_ ?_ (xs.length + 1) 0 _ (by omega) (by omega) (by rw [Nat.sub_zero, redF_last (by omega)])
    · intro n acc ho
      rw [spec_fold.s0, decide_eq_false (by omega), ho, Nat.sub_self, List.drop_zero]
      rfl
    · intro n j acc hj ho
      obtain ⟨i, hi⟩ : ∃ i, k - j = i + 1 := ⟨k - j - 1, by omega⟩
      have hil : i < xs.length := by omega
      have e1 : (k : Int) - 1 - (j : Int) = (i : Int) := by omega
      rw [e1, spec_fold.s0, decide_eq_true (by omega), idx_nat hil, wS (by omega) (by omega)]
      simp only [cond_true, Option.bind_some, getD_get hil]
      refine ⟨_, ?_, by rw [show (k : Int) - 1 - ((j + 1 : Nat) : Int) = (i : Int) - 1 by omega]⟩
      rw [ho, hi, show k - (j + 1) = i by omega]
      exact (redF_drop (by omega)).symm⟩

namespace spec_InnerProduct
noncomputable def E : Entry := ⟨62, false, false, fun | [.d (.int .i64 f), .d (.int .i64 g), .d (.agg [(.ints .i64 sa), (.ints .i64 da)]), .d (.agg [(.ints .i64 sb), (.ints .i64 db)])] => decide (sa.length < 9223372036854775808) && decide (da.length < 9223372036854775808) && decide (sb.length < 9223372036854775808) && decide (db.length < 9223372036854775808) | _ => false, fun | [.d (.int .i64 f), .d (.int .i64 g), .d (.agg [(.ints .i64 sa), (.ints .i64 da)]), .d (.agg [(.ints .i64 sb), (.ints .i64 db)])] => ([.agg [((.ints .i64 (inS f g sa da sb db)), true), ((.ints .i64 (inD f g sa da sb db)), true)], .one ((.bool (inB f g sa da sb db)), false)], []) | _ => ([], []), fun _ => [], true, fun _ => none⟩
end spec_InnerProduct
namespace spec_InnerProduct
noncomputable def X : List Entry := [spec_validOp.E, spec_valid.E, spec_validShape.E, spec_volume.E, spec_lane.E, spec_vector.E, spec_combine.E, spec_fold.E, spec_make1.E]
noncomputable def I : List Inl := [⟨62, Try.f62, ⟨[102, 105, 110, 112, 113, 120], [(1000009, [2, 3, 4, 5, 9, 14, 15, 16, 17, 18, 19, 20, 21, 22, 23, 24, 25, 26, 27, 28, 29, 30, 31, 32, 33, 34, 35, 36, 37, 38, 39, 40, 41, 42, 43, 44, 45, 46, 47, 48, 49, 50, 51, 52, 53, 54, 55, 56, 57, 58, 59, 60, 61, 62, 63, 64, 65, 66, 67, 68, 69, 70, 71, 72, 73, 74, 75, 76, 77, 78, 79, 80, 81, 82, 83, 84, 85, 86, 87, 88, 89, 90, 91, 92, 93, 94, 95, 96, 97, 98, 99, 100, 101, 102, 103, 104, 105, 106, 107, 108, 109, 110, 111, 112, 113, 114, 115, 116, 117, 118, 119, 120]), (1000012, [2, 3, 4, 5, 9, 15, 16, 17, 18, 19, 20, 21, 22, 23, 24, 25, 26, 27, 28, 29, 30, 31, 32, 33, 34, 35, 36, 37, 38, 39, 40, 41, 42, 43, 44, 45, 46, 47, 48, 49, 50, 51, 52, 53, 54, 55, 56, 57, 58, 59, 60, 61, 62, 63, 64, 65, 66, 67, 68, 69, 70, 71, 72, 73, 74, 75, 76, 77, 78, 79, 80, 81, 82, 83, 84, 85, 86, 87, 88, 89, 90, 91, 92, 93, 94, 95, 96, 97, 98, 99, 100, 101, 102, 103, 104, 105, 106, 107, 108, 109, 110, 111, 112, 113, 114, 115, 116, 117, 118, 119, 120])], [(4, [7])], [(1, [0, 1, 2, 3, 4, 5, 6, 7, 8, 9, 10, 11, 12, 13, 14, 15, 16, 17, 18, 19, 20, 21, 22, 23, 24, 25, 26, 27, 28, 29, 30, 31, 33, 39, 32, 34, 35, 36, 37, 38, 40, 41, 42, 43, 44]), (4, [1, 3, 6, 7, 8, 2, 4, 0, 5, 9, 10])], [74, 75], []⟩⟩]
theorem I_ok : ∀ i ∈ I, Try.prog.funcs[i.f]? = some i.fn ∧ (i.fn.name == "runtime.NumGoroutine") = false := by
  intro i hi
  simp only [I, List.mem_cons, List.not_mem_nil, or_false] at hi
  subst hi
  exact ⟨by kernel_rfl, by kernel_rfl⟩
noncomputable abbrev L0 (fuel n : Nat) (s : St) (k : Kont) := lAt Try.prog X I fuel true 0 false 62 (bodyOf Try.f62) [1, 1, 1, 1, 1, 1, 0, 1, 0] n s k
noncomputable abbrev k0  (fuel : Nat) : Kont := (kAt Try.prog X I fuel true 0 false 62 (bodyOf Try.f62) [1, 1, 1, 1, 1, 1, 0, 1, 0] [] (endK Try.prog Try.f62))
noncomputable def t0 (p0 : Int) (p1 : Int) (p3q0 : List Int) (p3q1 : List Int) (p2q0 : List Int) (p2q1 : List Int) (cq6 : Nat × Nat) (cq5 : Nat × Nat) (x0q5 : Int) (x0q9 : List Int) : St := ⟨[(.imm (.int .i64 p0)), (.imm (.int .i64 p1)), .dead, .dead, .dead, .dead, (.ptr 1000000000 0 0), (.dptr [(.ints .i64 p3q0), (.ints .i64 p3q1)] 0), (.ptr 1000000001 0 0), .dead, (.imm (.int .i64 (IntKind.wrap .i64 (((p2q0.length : Nat) : Int) - 1)))), (.all 1000000002 1), (.all 1000000003 1), (.imm (.int .i64 x0q5)), .dead, .dead, .dead, .dead, .dead, .dead, .dead, .dead, .dead, .dead, .dead, .dead, .dead, .dead, .dead, .dead, .dead, .dead, .dead, .dead, .dead, .dead, .dead, .dead, .dead, .dead, .dead, .dead, .dead, .dead, .dead, .dead, .dead, .dead, .dead, .dead, .dead, .dead, .dead, .dead, .dead, .dead, .dead, .dead, .dead, .dead, .dead, .dead, .dead, .dead, .dead, .dead, .dead, .dead, .dead, .dead, .dead, .dead, .dead, .dead, .dead, .dead, .dead, .dead, .dead, .dead, .dead, .dead, .dead, .dead, .dead, .dead, .dead, .dead, .dead, .dead, .dead, .dead, .dead, .dead, .dead, .dead, .dead, .dead, .dead, .dead, .dead, .dead, .dead, .dead, .dead, .dead, .dead, .dead, .dead, .dead, .dead, .dead, .dead, .dead, .dead, .dead, .dead, .dead, .dead, .dead, .dead], hOf [(1000000000, (.box [(.imm (.ints .i64 p2q0)), (.imm (.ints .i64 p2q1))])), (1000000001, (.box [(.imm .nils), (.imm .nils)])), (1000000002, (.ints .i64 ((([] : List Int) ++ ((p2q0.drop cq6.1).take (cq6.2 - cq6.1))) ++ ((p3q0.drop cq5.1).take (cq5.2 - cq5.1))))), (1000000003, (.ints .i64 x0q9))], [], []⟩
noncomputable abbrev L1 (fuel n : Nat) (s : St) (k : Kont) := lAt Try.prog X I fuel true 0 false 62 (bodyOf Try.f62) [1, 1, 1, 1, 1, 1, 0, 1, 0, 0, 1, 0, 0, 1, 0] n s k
noncomputable abbrev k1 (n0 : Nat) (fuel : Nat) : Kont := (kAt Try.prog X I fuel true 0 false 62 (bodyOf Try.f62) [1, 1, 1, 1, 1, 1, 0, 1, 0, 0, 1, 0, 0, 1, 0] [n0] (endK Try.prog Try.f62))
noncomputable def t1 (p0 : Int) (p1 : Int) (p3q0 : List Int) (p3q1 : List Int) (p2q0 : List Int) (x0q5 : Int) (p2q1 : List Int) (cq6 : Nat × Nat) (cq5 : Nat × Nat) (x1q6 : Int) (x1q10 : List Int) : St := ⟨[(.imm (.int .i64 p0)), (.imm (.int .i64 p1)), .dead, .dead, .dead, .dead, (.ptr 1000000000 0 0), (.dptr [(.ints .i64 p3q0), (.ints .i64 p3q1)] 0), (.ptr 1000000001 0 0), .dead, (.imm (.int .i64 (IntKind.wrap .i64 (((p2q0.length : Nat) : Int) - 1)))), (.all 1000000002 1), (.all 1000000003 1), (.imm (.int .i64 x0q5)), (.imm (.int .i64 x1q6)), .dead, .dead, .dead, .dead, .dead, .dead, .dead, .dead, .dead, .dead, .dead, .dead, .dead, .dead, .dead, .dead, .dead, .dead, .dead, .dead, .dead, .dead, .dead, .dead, .dead, .dead, .dead, .dead, .dead, .dead, .dead, .dead, .dead, .dead, .dead, .dead, .dead, .dead, .dead, .dead, .dead, .dead, .dead, .dead, .dead, .dead, .dead, .dead, .dead, .dead, .dead, .dead, .dead, .dead, .dead, .dead, .dead, .dead, .dead, .dead, .dead, .dead, .dead, .dead, .dead, .dead, .dead, .dead, .dead, .dead, .dead, .dead, .dead, .dead, .dead, .dead, .dead, .dead, .dead, .dead, .dead, .dead, .dead, .dead, .dead, .dead, .dead, .dead, .dead, .dead, .dead, .dead, .dead, .dead, .dead, .dead, .dead, .dead, .dead, .dead, .dead, .dead, .dead, .dead, .dead, .dead], hOf [(1000000000, (.box [(.imm (.ints .i64 p2q0)), (.imm (.ints .i64 p2q1))])), (1000000001, (.box [(.imm .nils), (.imm .nils)])), (1000000002, (.ints .i64 ((([] : List Int) ++ ((p2q0.drop cq6.1).take (cq6.2 - cq6.1))) ++ ((p3q0.drop cq5.1).take (cq5.2 - cq5.1))))), (1000000003, (.ints .i64 x1q10))], [], []⟩
theorem e (fuel : Nat) (p0 : Int) (p1 : Int) (p2q0 : List Int) (p2q1 : List Int) (p3q0 : List Int) (p3q1 : List Int) : runF Try.prog X I 0 fuel 62 Try.f62 [.d (.int .i64 p0), .d (.int .i64 p1), .d (.agg [(.ints .i64 p2q0), (.ints .i64 p2q1)]), .d (.agg [(.ints .i64 p3q0), (.ints .i64 p3q1)])] =
  (bif (!(opOk p0)) then
  some ([.agg [((.ints .i64 []), true), ((.ints .i64 []), true)], .one ((.bool false), false)], [])
  else
  (bif (!(opOk p1)) then
  some ([.agg [((.ints .i64 []), true), ((.ints .i64 []), true)], .one ((.bool false), false)], [])
  else
  (bif decide (p2q0.length < 9223372036854775808) && decide (p2q1.length < 9223372036854775808) then
  (bif (!(validA p2q0 p2q1)) then
  some ([.agg [((.ints .i64 []), true), ((.ints .i64 []), true)], .one ((.bool false), false)], [])
  else
  (bif decide (p3q0.length < 9223372036854775808) && decide (p3q1.length < 9223372036854775808) then
  (bif (!(validA p3q0 p3q1)) then
  some ([.agg [((.ints .i64 []), true), ((.ints .i64 []), true)], .one ((.bool false), false)], [])
  else
  (bif ((((p2q0.length : Nat) : Int) : Int) == 0) then
  some ([.agg [((.ints .i64 []), true), ((.ints .i64 []), true)], .one ((.bool false), false)], [])
  else
  (bif ((((p3q0.length : Nat) : Int) : Int) == 0) then
  some ([.agg [((.ints .i64 []), true), ((.ints .i64 []), true)], .one ((.bool false), false)], [])
  else
  (idx (IntKind.wrap .i64 (((p2q0.length : Nat) : Int) - 1)) p2q0.length).bind fun j1 =>
  (p2q0[j1]?).bind fun v2 =>
  (idx 0 p3q0.length).bind fun j3 =>
  (p3q0[j3]?).bind fun v4 =>
  (bif ((v2 : Int) != v4) then
  some ([.agg [((.ints .i64 []), true), ((.ints .i64 []), true)], .one ((.bool false), false)], [])
  else
  (cutEnds p3q0.length (some (.imm (.int .i64 1))) (none)).bind fun cq5 =>
  (cutEnds p2q0.length (none) (some (.imm (.int .i64 (IntKind.wrap .i64 (((p2q0.length : Nat) : Int) - 1)))))).bind fun cq6 =>
  (bif fits (([] : List Int).length + ((p2q0.drop cq6.1).take (cq6.2 - cq6.1)).length) 8 then
  (bif fits ((([] : List Int) ++ ((p2q0.drop cq6.1).take (cq6.2 - cq6.1))).length + ((p3q0.drop cq5.1).take (cq5.2 - cq5.1)).length) 8 then
  (bif decide ((((([] : List Int) ++ ((p2q0.drop cq6.1).take (cq6.2 - cq6.1))) ++ ((p3q0.drop cq5.1).take (cq5.2 - cq5.1)))).length < 9223372036854775808) then
  (bif (!(validS (((([] : List Int) ++ ((p2q0.drop cq6.1).take (cq6.2 - cq6.1))) ++ ((p3q0.drop cq5.1).take (cq5.2 - cq5.1)))))) then
  some ([.agg [((.ints .i64 []), true), ((.ints .i64 []), true)], .one ((.bool false), false)], [])
  else
  L0 fuel fuel (t0 p0 p1 p3q0 p3q1 p2q0 p2q1 cq6 cq5 0 ([])) (k0  fuel))
  else
  none)
  else
  none)
  else
  none)))))
  else
  none))
  else
  none))) := by kernel_rfl
theorem s0 (fuel n0 : Nat) (p0 : Int) (p1 : Int) (p3q0 : List Int) (p3q1 : List Int) (p2q0 : List Int) (p2q1 : List Int) (cq6 : Nat × Nat) (cq5 : Nat × Nat) (x0q5 : Int) (x0q9 : List Int) : L0 fuel (n0 + 1) (t0 p0 p1 p3q0 p3q1 p2q0 p2q1 cq6 cq5 x0q5 x0q9) (k0  fuel) =
  (cutEnds p2q0.length (none) (some (.imm (.int .i64 (IntKind.wrap .i64 (((p2q0.length : Nat) : Int) - 1)))))).bind fun cq14 =>
  (bif decide ((((p2q0.drop cq14.1).take (cq14.2 - cq14.1))).length < 9223372036854775808) then
  (bif (decide ((x0q5 : Int) < (volW (((p2q0.drop cq14.1).take (cq14.2 - cq14.1)))))) then
  L1 fuel fuel (t1 p0 p1 p3q0 p3q1 p2q0 x0q5 p2q1 cq6 cq5 0 x0q9) (k1 n0 fuel)
  else
  (bif szB (((([] : List Int) ++ ((p2q0.drop cq6.1).take (cq6.2 - cq6.1))) ++ ((p3q0.drop cq5.1).take (cq5.2 - cq5.1)))) && szB x0q9 then
  some ([.agg [((.ints .i64 (((([] : List Int) ++ ((p2q0.drop cq6.1).take (cq6.2 - cq6.1))) ++ ((p3q0.drop cq5.1).take (cq5.2 - cq5.1))))), true), ((.ints .i64 x0q9), true)], .one ((.bool true), false)], [])
  else
  none))
  else
  none) := by kernel_rfl
theorem s1 (fuel n0 n1 : Nat) (p0 : Int) (p1 : Int) (p3q0 : List Int) (p3q1 : List Int) (p2q0 : List Int) (x0q5 : Int) (p2q1 : List Int) (cq6 : Nat × Nat) (cq5 : Nat × Nat) (x1q6 : Int) (x1q10 : List Int) : L1 fuel (n1 + 1) (t1 p0 p1 p3q0 p3q1 p2q0 x0q5 p2q1 cq6 cq5 x1q6 x1q10) (k1 n0 fuel) =
  (cutEnds p3q0.length (some (.imm (.int .i64 1))) (none)).bind fun cq16 =>
  (bif decide ((((p3q0.drop cq16.1).take (cq16.2 - cq16.1))).length < 9223372036854775808) then
  (bif (decide ((x1q6 : Int) < (volW (((p3q0.drop cq16.1).take (cq16.2 - cq16.1)))))) then
  (bif axB p2q0 p2q1 ((IntKind.wrap .i64 (((p2q0.length : Nat) : Int) - 1))) && laneB p2q0 ((IntKind.wrap .i64 (((p2q0.length : Nat) : Int) - 1))) x0q5 0 then
  (bif axB p3q0 p3q1 0 && laneB p3q0 0 0 x1q6 then
  (bif szB ((lnK p2q0 p2q1 ((IntKind.wrap .i64 (((p2q0.length : Nat) : Int) - 1))) (Int.toNat x0q5) (Int.toNat 0))) then
  (bif szB ((lnK p3q0 p3q1 0 (Int.toNat 0) (Int.toNat x1q6))) then
  (bif validA ([((((lnK p2q0 p2q1 ((IntKind.wrap .i64 (((p2q0.length : Nat) : Int) - 1))) (Int.toNat x0q5) (Int.toNat 0))).length : Nat) : Int)]) (((lnK p2q0 p2q1 ((IntKind.wrap .i64 (((p2q0.length : Nat) : Int) - 1))) (Int.toNat x0q5) (Int.toNat 0)))) && validA ([((((lnK p3q0 p3q1 0 (Int.toNat 0) (Int.toNat x1q6))).length : Nat) : Int)]) (((lnK p3q0 p3q1 0 (Int.toNat 0) (Int.toNat x1q6)))) && fitB ([((((lnK p2q0 p2q1 ((IntKind.wrap .i64 (((p2q0.length : Nat) : Int) - 1))) (Int.toNat x0q5) (Int.toNat 0))).length : Nat) : Int)]) ([((((lnK p3q0 p3q1 0 (Int.toNat 0) (Int.toNat x1q6))).length : Nat) : Int)]) then
  (bif opOk p0 && decide (((cD p1 ([((((lnK p2q0 p2q1 ((IntKind.wrap .i64 (((p2q0.length : Nat) : Int) - 1))) (Int.toNat x0q5) (Int.toNat 0))).length : Nat) : Int)]) (((lnK p2q0 p2q1 ((IntKind.wrap .i64 (((p2q0.length : Nat) : Int) - 1))) (Int.toNat x0q5) (Int.toNat 0)))) ([((((lnK p3q0 p3q1 0 (Int.toNat 0) (Int.toNat x1q6))).length : Nat) : Int)]) (((lnK p3q0 p3q1 0 (Int.toNat 0) (Int.toNat x1q6)))))).length < 9223372036854775808) then
  (bif fits (x1q10.length + ([(redF p0 ((cD p1 ([((((lnK p2q0 p2q1 ((IntKind.wrap .i64 (((p2q0.length : Nat) : Int) - 1))) (Int.toNat x0q5) (Int.toNat 0))).length : Nat) : Int)]) (((lnK p2q0 p2q1 ((IntKind.wrap .i64 (((p2q0.length : Nat) : Int) - 1))) (Int.toNat x0q5) (Int.toNat 0)))) ([((((lnK p3q0 p3q1 0 (Int.toNat 0) (Int.toNat x1q6))).length : Nat) : Int)]) (((lnK p3q0 p3q1 0 (Int.toNat 0) (Int.toNat x1q6)))))))] : List Int).length) 8 then
  L1 fuel n1 (t1 p0 p1 p3q0 p3q1 p2q0 x0q5 p2q1 cq6 cq5 ((IntKind.wrap .i64 (x1q6 + 1))) ((x1q10 ++ [(redF p0 ((cD p1 ([((((lnK p2q0 p2q1 ((IntKind.wrap .i64 (((p2q0.length : Nat) : Int) - 1))) (Int.toNat x0q5) (Int.toNat 0))).length : Nat) : Int)]) (((lnK p2q0 p2q1 ((IntKind.wrap .i64 (((p2q0.length : Nat) : Int) - 1))) (Int.toNat x0q5) (Int.toNat 0)))) ([((((lnK p3q0 p3q1 0 (Int.toNat 0) (Int.toNat x1q6))).length : Nat) : Int)]) (((lnK p3q0 p3q1 0 (Int.toNat 0) (Int.toNat x1q6)))))))]))) (k1 n0 fuel)
  else
  none)
  else
  none)
  else
  none)
  else
  none)
  else
  none)
  else
  none)
  else
  none)
  else
  L0 fuel n0 (t0 p0 p1 p3q0 p3q1 p2q0 p2q1 cq6 cq5 ((IntKind.wrap .i64 (x0q5 + 1))) x1q10) (k0  fuel))
  else
  none) := by kernel_rfl
end spec_InnerProduct
theorem spec_InnerProduct.ok_of (hX : ∀ E ∈ spec_InnerProduct.X, CallSpec Try.prog E) (h : ∀ (f : Int) (g : Int) (sa : List Int) (da : List Int) (sb : List Int) (db : List Int), (decide (sa.length < 9223372036854775808) && decide (da.length < 9223372036854775808) && decide (sb.length < 9223372036854775808) && decide (db.length < 9223372036854775808)) = true → ∃ fuel, runF Try.prog spec_InnerProduct.X spec_InnerProduct.I 0 fuel 62 Try.f62 [.d (.int .i64 f), .d (.int .i64 g), .d (.agg [(.ints .i64 sa), (.ints .i64 da)]), .d (.agg [(.ints .i64 sb), (.ints .i64 db)])] = some ([.agg [((.ints .i64 (inS f g sa da sb db)), true), ((.ints .i64 (inD f g sa da sb db)), true)], .one ((.bool (inB f g sa da sb db)), false)], [])) : CallSpec Try.prog spec_InnerProduct.E :=
  callSpec_of (d := 0) hX (by kernel_rfl) spec_InnerProduct.I_ok (by kernel_rfl) (by kernel_rfl) (by kernel_rfl) (fun _ _ _ _ h => by dsimp only [spec_InnerProduct.E] at h; cases h) (fun xs hp => by
    dsimp only [spec_InnerProduct.E] at hp ⊢
    split at hp
    · exact h _ _ _ _ _ _ hp
    · cases hp)
theorem spec_InnerProduct.inner (fuel n0 : Nat) (f g : Int) (sa da sb db : List Int) (hb : inB f g sa da sb db = true) (hf : 3600 < fuel) (c6 c5 : Nat × Nat) (i : Nat) (hi : i < befN sa (sa.length - 1)) :
    spec_InnerProduct.L1 fuel fuel (spec_InnerProduct.t1 f g sb db sa (i : Int) da c6 c5 0 ((inN f g sa da sb db).take (i * behN sb 0))) (spec_InnerProduct.k1 n0 fuel) = spec_InnerProduct.L0 fuel n0 (spec_InnerProduct.t0 f g sb db sa da c6 c5 ((IntKind.wrap .i64 ((i : Int) + 1))) ((inN f g sa da sb db).take ((i + 1) * behN sb 0))) (spec_InnerProduct.k0 fuel) := by
  obtain ⟨hA, hvs, hvol, h60⟩ := inB_A hb
  obtain ⟨a1, a2, a3, a4, a5, a6, a7⟩ := inA_inv hA
  simp only [inB, Bool.and_eq_true] at hb
  obtain ⟨ja, hja, hja2, hva, axa, hda, _⟩ := axB_inv a1
  obtain ⟨jb, hjb, hjb2, hvb, axb, hdb, _⟩ := axB_inv a2
  have hja3 : ja = sa.length - 1 := by omega
  have hjb3 : jb = 0 := by omega
  subst hja3
  subst hjb3
  have hr := axa.rank
  have hrb := axb.rank
  have hM := axb.beh_le
  have hLa := axa.len_le
  have hlN : (inN f g sa da sb db).length = befN sa (sa.length - 1) * behN sb 0 := by simp only [inN, tab_length, inSh_prod]
  have hprod := inSh_prod (sa := sa) (sb := sb)
  have hK : IntKind.wrap .i64 (((sa.length : Nat) : Int) - 1) = inK sa := by unfold inK; rw [wS (by omega) (by omega)]
  have c2 := cut_one (n := sb.length) (by omega)
  have hdr : (sb.drop 1).take (sb.length - 1) = sb.drop 1 := drop_take
  have hvd := axb.beh
  refine run_loop (N := behN sb 0) (fun n m out => spec_InnerProduct.L1 fuel n (spec_InnerProduct.t1 f g sb db sa (i : Int) da c6 c5 (m : Int) out) (spec_InnerProduct.k1 n0 fuel)) (fun m out => out = (inN f g sa da sb db).take (i * behN sb 0 + m)) ?_ ?_ fuel 0 _ (by omega) (by omega) rfl
  · intro n out ho
    rw [spec_InnerProduct.s1, c2]
    simp only [Option.bind_some, hdr]
    rw [lt_of (by simp only [List.length_drop]; omega), cond_true, hvd, dge (by omega), cond_false, ho, Nat.add_mul, Nat.one_mul]
  · intro n m out hm ho
    obtain ⟨e1, e2, e3⟩ := enc2 hi hm
    have hol : out.length = i * behN sb 0 + m := by rw [ho, take_len (by omega)]
    have hx : lnK sa da (inK sa) i 0 = inX sa da sb (i * behN sb 0 + m) := by rw [inX, e2]
    have hy : lnK sb db 0 0 m = inY sb db (i * behN sb 0 + m) := by rw [inY, e3]
    have l1 := inX_length (sa := sa) (da := da) (sb := sb) (n := i * behN sb 0 + m) a5
    have l2 := inY_length (sb := sb) (db := db) (n := i * behN sb 0 + m)
    have hl1 : laneB sa (inK sa) (i : Int) 0 = true := by
      simp only [laneB, a6, Int.toNat_natCast, a7, Bool.and_eq_true, decide_eq_true_eq]
      refine ⟨⟨⟨by omega, by omega⟩, by omega⟩, by omega⟩
    have hl2 : laneB sb 0 0 (m : Int) = true := by
      simp only [laneB, show (0 : Int).toNat = 0 from rfl, show befN sb 0 = 1 from rfl, Bool.and_eq_true, decide_eq_true_eq]
      refine ⟨⟨⟨by omega, by omega⟩, by omega⟩, by omega⟩
    obtain ⟨x1, x2, x3, x4, x5⟩ := inX_eq hA (n := i * behN sb 0 + m) (by omega)
    have v1 := lnD_valid hva hja2 (i := i) (m := 0) hi (by omega)
    have v2 := lnD_valid hvb hjb2 (i := 0) (m := m) (by rw [x5]; omega) hm
    rw [e2] at x1
    rw [e3] at x2
    rw [← x1] at v1
    rw [← x2] at v2
    have v1' : validA [(((inX sa da sb (i * behN sb 0 + m)).length : Nat) : Int)] (inX sa da sb (i * behN sb 0 + m)) = true := by rw [l1]; exact v1
    have v2' : validA [(((inY sb db (i * behN sb 0 + m)).length : Nat) : Int)] (inY sb db (i * behN sb 0 + m)) = true := by rw [l2]; exact v2
    have hfit : fitB [(((inX sa da sb (i * behN sb 0 + m)).length : Nat) : Int)] [(((inY sb db (i * behN sb 0 + m)).length : Nat) : Int)] = true := by
      rw [l1, l2, a3]
      simp [fitB]
    have hcd := cD_vec g (ys := inY sb db (i * behN sb 0 + m)) v1' (by omega)
    rw [spec_InnerProduct.s1, c2]
    simp only [Option.bind_some, hdr, hK, Int.toNat_natCast, show Int.toNat 0 = 0 from rfl]
    rw [lt_of (by simp only [List.length_drop]; omega), cond_true, hvd, dlt hm, cond_true, a1, a2, hl1, hl2, hx, hy, szB_of (by omega), szB_of (by omega), v1', v2', hfit, hcd, hb.1.1.1.1.1, lt_of (by rw [pwD_q2, tab_length]; omega), w1 (by omega)]
    simp only [Bool.and_self, cond_true]
    rw [fitsOk (by simp only [List.length_cons, List.length_nil]; omega), cond_true]
    refine ⟨_, ?_, rfl⟩
    rw [ho]
    refine take_push (by omega) ?_
    simp only [inN]
    rw [tab_getD (by omega)]
    rfl
theorem spec_InnerProduct.loop (fuel : Nat) (f g : Int) (sa da sb db : List Int) (hb : inB f g sa da sb db = true) (hf : 3600 < fuel) :
    spec_InnerProduct.L0 fuel fuel (spec_InnerProduct.t0 f g sb db sa da (0, sa.length - 1) (1, sb.length) 0 []) (spec_InnerProduct.k0 fuel) = some ([.agg [((.ints .i64 (inSh sa sb)), true), ((.ints .i64 (inN f g sa da sb db)), true)], .one ((.bool true), false)], []) := by
  obtain ⟨hA, hvs, hvol, h60⟩ := inB_A hb
  obtain ⟨a1, a2, a3, a4, a5, a6, a7⟩ := inA_inv hA
  obtain ⟨ja, hja, hja2, hva, axa, hda, _⟩ := axB_inv a1
  obtain ⟨jb, hjb, hjb2, hvb, axb, hdb, _⟩ := axB_inv a2
  have hja3 : ja = sa.length - 1 := by omega
  subst hja3
  have hr := axa.rank
  have hrb := axb.rank
  have hM := axa.bef_le
  have hK : IntKind.wrap .i64 (((sa.length : Nat) : Int) - 1) = ((sa.length - 1 : Nat) : Int) := by rw [wS (by omega) (by omega)]; omega
  have c1 : cutEnds sa.length none (some (.imm (.int .i64 ((sa.length - 1 : Nat) : Int)))) = some (0, sa.length - 1) := cut_hi (by omega)
  have hlN : (inN f g sa da sb db).length = befN sa (sa.length - 1) * behN sb 0 := by simp only [inN, tab_length, inSh_prod]
  have hprod := inSh_prod (sa := sa) (sb := sb)
  have htk : (sa.drop 0).take (sa.length - 1 - 0) = sa.take (sa.length - 1) := by rw [List.drop_zero, Nat.sub_zero]
  have hvt := axa.bef
  refine run_loop (N := befN sa (sa.length - 1)) (fun n i out => spec_InnerProduct.L0 fuel n (spec_InnerProduct.t0 f g sb db sa da (0, sa.length - 1) (1, sb.length) (i : Int) out) (spec_InnerProduct.k0 fuel)) (fun i out => out = (inN f g sa da sb db).take (i * behN sb 0)) ?_ ?_ fuel 0 _ (by omega) (by omega) (by simp)
  · intro n out ho
    rw [← hlN, List.take_length] at ho
    rw [spec_InnerProduct.s0, hK, c1]
    simp only [Option.bind_some, htk]
    rw [lt_of (by simp only [List.length_take]; omega), cond_true, hvt, dge (by omega), cond_false, List.nil_append, ← htk, in_parts, szB_of (by simp only [inSh, List.length_append, List.length_take, List.length_drop]; omega), szB_of (by rw [ho]; omega), ho]
    rfl
  · intro n i out hi ho
    rw [spec_InnerProduct.s0, hK, c1]
    simp only [Option.bind_some, htk]
    rw [lt_of (by simp only [List.length_take]; omega), cond_true, hvt, dlt hi, cond_true, ho, spec_InnerProduct.inner fuel n f g sa da sb db hb hf _ _ i hi, w1 (by omega)]
    exact ⟨_, rfl, rfl⟩
theorem spec_InnerProduct.ok : CallSpec Try.prog spec_InnerProduct.E := spec_InnerProduct.ok_of (by simp [spec_InnerProduct.X, spec_validOp.ok, spec_valid.ok, spec_validShape.ok, spec_volume.ok, spec_lane.ok, spec_vector.ok, spec_combine.ok, spec_fold.ok, spec_make1.ok]) fun f g sa da sb db h => by
  obtain ⟨F, hF⟩ : ∃ F : Nat, 3600 < F := ⟨3601, by omega⟩
  refine ⟨F, ?_⟩
  simp only [Bool.and_eq_true] at h
  rw [spec_InnerProduct.e, h.1.1.1, h.1.1.2, h.1.2, h.2]
  unfold inS inD
  cases h1 : opOk f with
  | false => simp only [inB, h1]; rfl
  | true =>
    cases h2 : opOk g with
    | false => simp only [inB, h1, h2]; rfl
    | true =>
      cases h3 : validA sa da with
      | false => simp only [inB, h1, h2, axB, h3]; rfl
      | true =>
        cases h4 : validA sb db with
        | false => simp only [inB, h1, h2, axB, h3, h4, Bool.false_and, Bool.and_false]; rfl
        | true =>
          have hr := (validS_inv (validA_inv h3).1).1
          have hrb := (validS_inv (validA_inv h4).1).1
          by_cases h5 : sa.length = 0
          · have : inB f g sa da sb db = false := by
              have : axOk sa (inK sa) = false := by simp only [axOk, inK]; simp; omega
              simp only [inB, axB, this, Bool.and_false, Bool.false_and]
            rw [this, h5]; rfl
          · have q5 : (((sa.length : Nat) : Int) == 0) = false := by rw [beq_eq_false_iff_ne]; omega
            by_cases h6 : sb.length = 0
            · have : inB f g sa da sb db = false := by
                have : axOk sb 0 = false := by rw [axOk, decide_eq_false (p := (0 : Int) < ((sb.length : Nat) : Int)) (by omega), Bool.and_false]
                simp only [inB, axB, this, Bool.and_false, Bool.false_and]
              rw [this, h6, q5]; rfl
            · have q6 : (((sb.length : Nat) : Int) == 0) = false := by rw [beq_eq_false_iff_ne]; omega
              have a1 : axB sa da (inK sa) = true := by
                rw [show inK sa = ((sa.length - 1 : Nat) : Int) by unfold inK; omega]; exact axB_of h3 (by omega)
              have a2 : axB sb db 0 = true := axB_of (k := 0) h4 (by omega)
              have axa := ax_of (validA_inv h3).1 (k := sa.length - 1) (by omega)
              have axb := ax_of (validA_inv h4).1 (k := 0) (by omega)
              have hK : IntKind.wrap .i64 (((sa.length : Nat) : Int) - 1) = ((sa.length - 1 : Nat) : Int) := by rw [wS (by omega) (by omega)]; omega
              have i0 : idx 0 sb.length = some 0 := idx_nat (j := 0) (by omega)
              have c1 : cutEnds sa.length none (some (.imm (.int .i64 ((sa.length - 1 : Nat) : Int)))) = some (0, sa.length - 1) := cut_hi (by omega)
              have c2 := cut_one (n := sb.length) (by omega)
              have g1 := getD_get (A := sa) (n := sa.length - 1) (by omega)
              have g2 := getD_get (A := sb) (n := 0) (by omega)
              rw [axa.len] at g1
              rw [axb.len] at g2
              rw [q5, q6, hK, idx_nat (j := sa.length - 1) (by omega), i0]
              simp only [Option.bind_some, g1, g2, c1, c2]
              by_cases h7 : lenN sa (sa.length - 1) = lenN sb 0
              · have hne : (((lenN sb 0 : Nat) : Int) != ((lenN sb 0 : Nat) : Int)) = false := by simp
                rw [h7, hne, fitsOk (by simp only [List.length_nil, List.length_take, List.length_drop]; omega), fitsOk (by simp only [List.length_nil, List.nil_append, List.length_take, List.length_drop]; omega), List.nil_append, in_parts, lt_of (by simp only [inSh, List.length_append, List.length_take, List.length_drop]; omega)]
                cases h8 : validS (inSh sa sb) with
                | false =>
                  have : inB f g sa da sb db = false := by simp only [inB, h8, Bool.and_false]
                  rw [this]; rfl
                | true =>
                  have hb : inB f g sa da sb db = true := by simp only [inB, h1, h2, a1, a2, h7, h8, decide_true, Bool.and_self]
                  rw [hb]
                  exact spec_InnerProduct.loop F f g sa da sb db hb hF
              · have hne : (((lenN sa (sa.length - 1) : Nat) : Int) != ((lenN sb 0 : Nat) : Int)) = true := by simp; omega
                have : inB f g sa da sb db = false := by simp only [inB, decide_eq_false h7, Bool.and_false, Bool.false_and]
                rw [hne, this]; rfl

namespace spec_SumProduct
noncomputable def E : Entry := ⟨28, false, false, fun | [.d (.agg [(.ints .i64 sa), (.ints .i64 da)]), .d (.agg [(.ints .i64 sb), (.ints .i64 db)])] => decide (sa.length < 9223372036854775808) && decide (da.length < 9223372036854775808) && decide (sb.length < 9223372036854775808) && decide (db.length < 9223372036854775808) | _ => false, fun | [.d (.agg [(.ints .i64 sa), (.ints .i64 da)]), .d (.agg [(.ints .i64 sb), (.ints .i64 db)])] => ([.agg [((.ints .i64 (inS 1 3 sa da sb db)), true), ((.ints .i64 (inD 1 3 sa da sb db)), true)], .one ((.bool (inB 1 3 sa da sb db)), false)], []) | _ => ([], []), fun _ => [], true, fun _ => none⟩
end spec_SumProduct
namespace spec_SumProduct
noncomputable def X : List Entry := [spec_InnerProduct.E]
noncomputable def I : List Inl := [⟨28, Try.f28, ⟨[8], [], [], [], [], []⟩⟩]
theorem I_ok : ∀ i ∈ I, Try.prog.funcs[i.f]? = some i.fn ∧ (i.fn.name == "runtime.NumGoroutine") = false := by
  intro i hi
  simp only [I, List.mem_cons, List.not_mem_nil, or_false] at hi
  subst hi
  exact ⟨by kernel_rfl, by kernel_rfl⟩
theorem e (fuel : Nat) (p0q0 : List Int) (p0q1 : List Int) (p1q0 : List Int) (p1q1 : List Int) : runF Try.prog X I 0 fuel 28 Try.f28 [.d (.agg [(.ints .i64 p0q0), (.ints .i64 p0q1)]), .d (.agg [(.ints .i64 p1q0), (.ints .i64 p1q1)])] =
  (bif decide (p0q0.length < 9223372036854775808) && decide (p0q1.length < 9223372036854775808) && decide (p1q0.length < 9223372036854775808) && decide (p1q1.length < 9223372036854775808) then
  some ([.agg [((.ints .i64 (inS 1 3 p0q0 p0q1 p1q0 p1q1)), true), ((.ints .i64 (inD 1 3 p0q0 p0q1 p1q0 p1q1)), true)], .one ((.bool (inB 1 3 p0q0 p0q1 p1q0 p1q1)), false)], [])
  else
  none) := by kernel_rfl
end spec_SumProduct
theorem spec_SumProduct.ok_of (hX : ∀ E ∈ spec_SumProduct.X, CallSpec Try.prog E) (h : ∀ (sa : List Int) (da : List Int) (sb : List Int) (db : List Int), (decide (sa.length < 9223372036854775808) && decide (da.length < 9223372036854775808) && decide (sb.length < 9223372036854775808) && decide (db.length < 9223372036854775808)) = true → ∃ fuel, runF Try.prog spec_SumProduct.X spec_SumProduct.I 0 fuel 28 Try.f28 [.d (.agg [(.ints .i64 sa), (.ints .i64 da)]), .d (.agg [(.ints .i64 sb), (.ints .i64 db)])] = some ([.agg [((.ints .i64 (inS 1 3 sa da sb db)), true), ((.ints .i64 (inD 1 3 sa da sb db)), true)], .one ((.bool (inB 1 3 sa da sb db)), false)], [])) : CallSpec Try.prog spec_SumProduct.E :=
  callSpec_of (d := 0) hX (by kernel_rfl) spec_SumProduct.I_ok (by kernel_rfl) (by kernel_rfl) (by kernel_rfl) (fun _ _ _ _ h => by dsimp only [spec_SumProduct.E] at h; cases h) (fun xs hp => by
    dsimp only [spec_SumProduct.E] at hp ⊢
    split at hp
    · exact h _ _ _ _ hp
    · cases hp)
theorem spec_SumProduct.ok : CallSpec Try.prog spec_SumProduct.E := spec_SumProduct.ok_of (by simp [spec_SumProduct.X, spec_InnerProduct.ok]) fun sa da sb db h => ⟨0, by
  rw [spec_SumProduct.e, h]
  rfl⟩

namespace laws_equalInts
noncomputable def E : Entry := ⟨14, true, false, fun | [.d (.ints .i64 xs), .d (.ints .i64 ys)] => decide (xs.length < 9223372036854775808) && decide (ys.length < 9223372036854775808) | _ => false, fun | [.d (.ints .i64 xs), .d (.ints .i64 ys)] => ([.one ((.bool (decide (xs = ys))), false)], []) | _ => ([], []), fun _ => [], false, fun _ => none⟩
end laws_equalInts
namespace laws_equalInts
noncomputable def X : List Entry := []
noncomputable def I : List Inl := [⟨14, Try.f14, ⟨[], [(1000004, [2, 3, 4, 6, 7, 8, 9, 10, 11, 12, 13, 14, 15, 16, 17, 18, 19, 20, 21, 22, 23, 24, 25])], [], [(6, [0, 1, 4, 5, 2, 3, 6, 7, 8])], [], []⟩⟩]
theorem I_ok : ∀ i ∈ I, Try.prog.funcs[i.f]? = some i.fn ∧ (i.fn.name == "runtime.NumGoroutine") = false := by
  intro i hi
  simp only [I, List.mem_cons, List.not_mem_nil, or_false] at hi
  subst hi
  exact ⟨by kernel_rfl, by kernel_rfl⟩
noncomputable abbrev L0 (fuel n : Nat) (s : St) (k : Kont) := lAt Try.prog X I fuel true 0 false 14 (bodyOf Try.f14) [1, 1, 0, 1, 0] n s k
noncomputable abbrev k0  (fuel : Nat) : Kont := (kAt Try.prog X I fuel true 0 false 14 (bodyOf Try.f14) [1, 1, 0, 1, 0] [] (endK Try.prog Try.f14))
noncomputable def t0 (p0 : List Int) (p1 : List Int) (x0q2 : Int) : St := ⟨[(.imm (.ints .i64 p0)), (.imm (.ints .i64 p1)), .dead, .dead, .dead, (.imm (.int .i64 x0q2)), .dead, .dead, .dead, .dead, .dead, .dead, .dead, .dead, .dead, .dead, .dead, .dead, .dead, .dead, .dead, .dead, .dead, .dead, .dead, .dead], hOf [], [], []⟩
theorem e (fuel : Nat) (p0 : List Int) (p1 : List Int) : runF Try.prog X I 0 fuel 14 Try.f14 [.d (.ints .i64 p0), .d (.ints .i64 p1)] =
  (bif ((((p0.length : Nat) : Int) : Int) != ((p1.length : Nat) : Int)) then
  some ([.one ((.bool false), false)], [])
  else
  L0 fuel fuel (t0 p0 p1 0) (k0  fuel)) := by kernel_rfl
theorem s0 (fuel n0 : Nat) (p0 : List Int) (p1 : List Int) (x0q2 : Int) : L0 fuel (n0 + 1) (t0 p0 p1 x0q2) (k0  fuel) =
  (bif (decide ((x0q2 : Int) < ((p0.length : Nat) : Int))) then
  (idx x0q2 p0.length).bind fun j9 =>
  (p0[j9]?).bind fun v10 =>
  (idx x0q2 p1.length).bind fun j11 =>
  (p1[j11]?).bind fun v12 =>
  (bif ((v10 : Int) != v12) then
  some ([.one ((.bool false), false)], [])
  else
  L0 fuel n0 (t0 p0 p1 ((IntKind.wrap .i64 (x0q2 + 1)))) (k0  fuel))
  else
  some ([.one ((.bool true), false)], [])) := by kernel_rfl
end laws_equalInts
theorem laws_equalInts.ok_of (hX : ∀ E ∈ laws_equalInts.X, CallSpec Try.prog E) (h : ∀ (xs : List Int) (ys : List Int), (decide (xs.length < 9223372036854775808) && decide (ys.length < 9223372036854775808)) = true → ∃ fuel, runF Try.prog laws_equalInts.X laws_equalInts.I 0 fuel 14 Try.f14 [.d (.ints .i64 xs), .d (.ints .i64 ys)] = some ([.one ((.bool (decide (xs = ys))), false)], [])) : CallSpec Try.prog laws_equalInts.E :=
  callSpec_of (d := 0) hX (by kernel_rfl) laws_equalInts.I_ok (by kernel_rfl) (by kernel_rfl) (by kernel_rfl) (fun _ _ _ _ h => by dsimp only [laws_equalInts.E] at h; cases h) (fun xs hp => by
    dsimp only [laws_equalInts.E] at hp ⊢
    split at hp
    · exact h _ _ hp
    · cases hp)
theorem laws_equalInts.loop (fuel : Nat) (xs ys : List Int) (hl : xs.length = ys.length) (hx : xs.length < 9223372036854775808) : ∀ (m n j : Nat), xs.length - j = m → m < n → j ≤ xs.length →
    laws_equalInts.L0 fuel n (laws_equalInts.t0 xs ys (j : Int)) (laws_equalInts.k0 fuel) = some ([.one (.bool (decide (xs.drop j = ys.drop j)), false)], []) := by
  intro m
  induction m with
  | zero =>
    intro n j h1 h2 h3
    obtain ⟨n, rfl⟩ : ∃ n', n = n' + 1 := ⟨n - 1, by omega⟩
    have hj : ¬ j < xs.length := by omega
    rw [laws_equalInts.s0, dge hj, dropE hj, dropE (xs := ys) (by omega)]
    rfl
  | succ m ih =>
    intro n j h1 h2 h3
    obtain ⟨n, rfl⟩ : ∃ n', n = n' + 1 := ⟨n - 1, by omega⟩
    have hj : j < xs.length := by omega
    have hj2 : j < ys.length := by omega
    rw [laws_equalInts.s0, dlt hj, idx_nat hj, idx_nat hj2, w1 (by omega), dropS hj, dropS hj2]
    simp only [cond_true, Option.bind_some, getS hj, getS hj2]
    rw [ih n (j + 1) (by omega) (by omega) (by omega)]
    by_cases hv : xs[j] = ys[j]
    · rw [hv]
      simp only [bne_self_eq_false, cond_false, List.cons.injEq, true_and]
    · have : (xs[j] != ys[j]) = true := by simp [hv]
      rw [this]
      simp only [cond_true, List.cons.injEq, hv, false_and, decide_false]

theorem laws_equalInts.ok : CallSpec Try.prog laws_equalInts.E := laws_equalInts.ok_of (by simp [laws_equalInts.X]) fun xs ys h => by
  simp only [Bool.and_eq_true, decide_eq_true_eq] at h
  refine ⟨xs.length + 1, ?_⟩
  rw [laws_equalInts.e]
  by_cases hl : xs.length = ys.length
  · have := laws_equalInts.loop (xs.length + 1) xs ys hl h.1 xs.length (xs.length + 1) 0 (by omega) (by omega) (by omega)
    simp only [List.drop_zero] at this
    simp only [hl, bne_self_eq_false, cond_false]
    rw [← hl]
    exact this
  · have hne : xs ≠ ys := fun e => hl (e ▸ rfl)
    have : (((xs.length : Nat) : Int) != ((ys.length : Nat) : Int)) = true := by simp; omega
    rw [this]
    simp [hne]

namespace laws_equalArray
noncomputable def E : Entry := ⟨19, true, false, fun | [.d (.agg [(.ints .i64 sa), (.ints .i64 da)]), .d (.agg [(.ints .i64 sb), (.ints .i64 db)])] => decide (sa.length < 9223372036854775808) && decide (da.length < 9223372036854775808) && decide (sb.length < 9223372036854775808) && decide (db.length < 9223372036854775808) | _ => false, fun | [.d (.agg [(.ints .i64 sa), (.ints .i64 da)]), .d (.agg [(.ints .i64 sb), (.ints .i64 db)])] => ([.one ((.bool (decide (sa = sb) && decide (da = db))), false)], []) | _ => ([], []), fun _ => [], false, fun _ => none⟩
end laws_equalArray
namespace laws_equalArray
noncomputable def X : List Entry := [laws_equalInts.E]
noncomputable def I : List Inl := [⟨19, Try.f19, ⟨[], [], [], [], [], []⟩⟩]
theorem I_ok : ∀ i ∈ I, Try.prog.funcs[i.f]? = some i.fn ∧ (i.fn.name == "runtime.NumGoroutine") = false := by
  intro i hi
  simp only [I, List.mem_cons, List.not_mem_nil, or_false] at hi
  subst hi
  exact ⟨by kernel_rfl, by kernel_rfl⟩
theorem e (fuel : Nat) (p0q0 : List Int) (p0q1 : List Int) (p1q0 : List Int) (p1q1 : List Int) : runF Try.prog X I 0 fuel 19 Try.f19 [.d (.agg [(.ints .i64 p0q0), (.ints .i64 p0q1)]), .d (.agg [(.ints .i64 p1q0), (.ints .i64 p1q1)])] =
  (bif decide (p0q0.length < 9223372036854775808) && decide (p1q0.length < 9223372036854775808) then
  (bif (decide (p0q0 = p1q0)) then
  (bif decide (p0q1.length < 9223372036854775808) && decide (p1q1.length < 9223372036854775808) then
  some ([.one ((.bool (decide (p0q1 = p1q1))), false)], [])
  else
  none)
  else
  some ([.one ((.bool false), false)], []))
  else
  none) := by kernel_rfl
end laws_equalArray
theorem laws_equalArray.ok_of (hX : ∀ E ∈ laws_equalArray.X, CallSpec Try.prog E) (h : ∀ (sa : List Int) (da : List Int) (sb : List Int) (db : List Int), (decide (sa.length < 9223372036854775808) && decide (da.length < 9223372036854775808) && decide (sb.length < 9223372036854775808) && decide (db.length < 9223372036854775808)) = true → ∃ fuel, runF Try.prog laws_equalArray.X laws_equalArray.I 0 fuel 19 Try.f19 [.d (.agg [(.ints .i64 sa), (.ints .i64 da)]), .d (.agg [(.ints .i64 sb), (.ints .i64 db)])] = some ([.one ((.bool (decide (sa = sb) && decide (da = db))), false)], [])) : CallSpec Try.prog laws_equalArray.E :=
  callSpec_of (d := 0) hX (by kernel_rfl) laws_equalArray.I_ok (by kernel_rfl) (by kernel_rfl) (by kernel_rfl) (fun _ _ _ _ h => by dsimp only [laws_equalArray.E] at h; cases h) (fun xs hp => by
    dsimp only [laws_equalArray.E] at hp ⊢
    split at hp
    · exact h _ _ _ _ hp
    · cases hp)
theorem laws_equalArray.ok : CallSpec Try.prog laws_equalArray.E := laws_equalArray.ok_of (by simp [laws_equalArray.X, laws_equalInts.ok]) fun sa da sb db h => ⟨0, by
  simp only [Bool.and_eq_true, decide_eq_true_eq] at h
  obtain ⟨⟨⟨h1, h2⟩, h3⟩, h4⟩ := h
  rw [laws_equalArray.e]
  simp only [h1, h2, h3, h4, decide_true, Bool.and_self, cond_true]
  cases decide (sa = sb) <;> cases decide (da = db) <;> rfl⟩

namespace impl_RankOf
noncomputable def E : Entry := ⟨30, true, false, fun | [.d (.agg [(.ints .i64 sh), (.ints .i64 da)])] => decide (sh.length < 9223372036854775808) && decide (da.length < 9223372036854775808) | _ => false, fun | [.d (.agg [(.ints .i64 sh), (.ints .i64 da)])] => ([.one ((.int .i64 (rankV sh da)), false)], []) | _ => ([], []), fun _ => [], false, fun _ => none⟩
end impl_RankOf
namespace impl_RankOf
noncomputable def X : List Entry := [impl_ValidArray.E]
noncomputable def I : List Inl := [⟨30, Try.f30, ⟨[], [], [], [], [], []⟩⟩]
theorem I_ok : ∀ i ∈ I, Try.prog.funcs[i.f]? = some i.fn ∧ (i.fn.name == "runtime.NumGoroutine") = false := by
  intro i hi
  simp only [I, List.mem_cons, List.not_mem_nil, or_false] at hi
  subst hi
  exact ⟨by kernel_rfl, by kernel_rfl⟩
theorem e (fuel : Nat) (p0q0 : List Int) (p0q1 : List Int) : runF Try.prog X I 0 fuel 30 Try.f30 [.d (.agg [(.ints .i64 p0q0), (.ints .i64 p0q1)])] =
  (bif decide (p0q0.length < 9223372036854775808) && decide (p0q1.length < 9223372036854775808) then
  (bif (!(validA p0q0 p0q1)) then
  some ([.one ((.int .i64 (-1)), false)], [])
  else
  some ([.one ((.int .i64 ((p0q0.length : Nat) : Int)), false)], []))
  else
  none) := by kernel_rfl
end impl_RankOf
theorem impl_RankOf.ok_of (hX : ∀ E ∈ impl_RankOf.X, CallSpec Try.prog E) (h : ∀ (sh : List Int) (da : List Int), (decide (sh.length < 9223372036854775808) && decide (da.length < 9223372036854775808)) = true → ∃ fuel, runF Try.prog impl_RankOf.X impl_RankOf.I 0 fuel 30 Try.f30 [.d (.agg [(.ints .i64 sh), (.ints .i64 da)])] = some ([.one ((.int .i64 (rankV sh da)), false)], [])) : CallSpec Try.prog impl_RankOf.E :=
  callSpec_of (d := 0) hX (by kernel_rfl) impl_RankOf.I_ok (by kernel_rfl) (by kernel_rfl) (by kernel_rfl) (fun _ _ _ _ h => by dsimp only [impl_RankOf.E] at h; cases h) (fun xs hp => by
    dsimp only [impl_RankOf.E] at hp ⊢
    split at hp
    · exact h _ _ hp
    · cases hp)
theorem impl_RankOf.ok : CallSpec Try.prog impl_RankOf.E := impl_RankOf.ok_of (by simp [impl_RankOf.X, impl_ValidArray.ok]) fun sh da h => ⟨0, by
  rw [impl_RankOf.e, h]
  unfold rankV
  cases validA sh da <;> rfl⟩

namespace impl_Identity
noncomputable def E : Entry := ⟨31, false, false, fun | [.d (.int .i64 n)] => true | _ => false, fun | [.d (.int .i64 n)] => ([.agg [((.ints .i64 (idS n)), true), ((.ints .i64 (idD n)), true)]], []) | _ => ([], []), fun _ => [], true, fun _ => none⟩
end impl_Identity
namespace impl_Identity
noncomputable def X : List Entry := [impl_layoutOf_j.E, impl_truth.E]
noncomputable def I : List Inl := [⟨31, Try.f31, ⟨[17], [(3, [0, 3, 4, 5, 6, 7, 8, 9, 10, 11, 12, 13, 14, 15, 16, 17, 18, 19, 20])], [(3, [1])], [], [], []⟩⟩, ⟨47, Try.f47, ⟨[12], [(1000006, [2, 3, 5, 6, 7, 9, 10, 11, 12, 13, 14, 15, 16, 17, 18, 19, 20, 21, 24, 25, 26, 27, 28, 29, 30, 31, 32, 33, 34, 35])], [], [], [], []⟩⟩, ⟨67, Try.f67, ⟨[], [], [], [(1, [0, 3, 1, 2, 4, 5, 6, 7, 8])], [], []⟩⟩]
theorem I_ok : ∀ i ∈ I, Try.prog.funcs[i.f]? = some i.fn ∧ (i.fn.name == "runtime.NumGoroutine") = false := by
  intro i hi
  simp only [I, List.mem_cons, List.not_mem_nil, or_false] at hi
  rcases hi with rfl | rfl | rfl
  all_goals exact ⟨by kernel_rfl, by kernel_rfl⟩
noncomputable abbrev L0 (fuel n : Nat) (s : St) (k : Kont) := lAt Try.prog X I fuel true 3 false 47 (bodyOf Try.f47) [1, 1, 1, 1, 0, 1, 0] n s k
noncomputable abbrev k0  (fuel : Nat) : Kont := (kAt Try.prog X I fuel true 3 false 47 (bodyOf Try.f47) [1, 1, 1, 1, 0, 1, 0] [] (endFn Try.prog Try.f47 21 (kOp Try.prog X I fuel true 4 31 (cAt (bodyOf Try.f31) [1, 1, 0]) 4 (kAt Try.prog X I fuel true 4 false 31 (bodyOf Try.f31) [1, 1, 0] [] (endK Try.prog Try.f31)))))
noncomputable def t0 (p0 : Int) (x0q2 : Int) (x0q4 : List Int) : St := ⟨[(.all 1000000001 1), (.imm (.clo 67 [(.pbox [(.int .i64 p0)])])), .dead, .dead, (.ptr 1000000002 0 0), .dead, .dead, .dead, (.all 1000000003 1), .dead, .dead, .dead, .dead, .dead, .dead, .dead, .dead, .dead, .dead, .dead, .dead, .dead, (.imm (.int .i64 (((List.replicate ((volW ([p0, p0]))).toNat (0 : Int)).length : Nat) : Int))), (.imm (.int .i64 x0q2)), .dead, .dead, .dead, .dead, .dead, .dead, .dead, .dead, .dead, .dead, .dead, .dead], hOf [(1000000000, (.box [(.imm .nils), (.imm .nils)])), (1000000001, (.ints .i64 [p0, p0])), (1000000002, (.box [(.imm .nils), (.imm .nils)])), (1000000003, (.ints .i64 x0q4))], [.dead, (.dptr [(.int .i64 p0)] 0), (.ptr 1000000000 0 0), .dead, .dead, .dead, .dead, .dead, .dead, .dead, .dead, .dead, .dead, (.imm (.int .i64 p0)), (.imm (.int .i64 p0)), (.all 1000000001 1), (.imm (.clo 67 [(.pbox [(.int .i64 p0)])])), .dead, .dead, .dead, .dead, (.tup [])], []⟩
theorem e (fuel : Nat) (p0 : Int) : runF Try.prog X I 4 fuel 31 Try.f31 [.d (.int .i64 p0)] =
  (bif (decide ((p0 : Int) < 0)) then
  some ([.agg [((.ints .i64 []), true), ((.ints .i64 []), true)]], [])
  else
  (bif (decide ((p0 : Int) > 4)) then
  some ([.agg [((.ints .i64 []), true), ((.ints .i64 []), true)]], [])
  else
  (bif decide (([p0, p0]).length < 9223372036854775808) then
  (bif validS ([p0, p0]) then
  (bif decide (0 ≤ ((volW ([p0, p0])) : Int)) && decide (((volW ([p0, p0])) : Int) ≤ (volW ([p0, p0]))) && decide (((volW ([p0, p0])) : Int) ≤ 1152921504606846976) && decide (((8 : Nat) : Int) * (volW ([p0, p0])) ≤ 281474976710656) then
  L0 fuel fuel (t0 p0 0 ((List.replicate ((volW ([p0, p0]))).toNat (0 : Int)))) (k0  fuel)
  else
  none)
  else
  some ([.agg [((.ints .i64 []), true), ((.ints .i64 []), true)]], []))
  else
  none))) := by kernel_rfl
theorem s0 (fuel n0 : Nat) (p0 : Int) (x0q2 : Int) (x0q4 : List Int) : L0 fuel (n0 + 1) (t0 p0 x0q2 x0q4) (k0  fuel) =
  (bif (decide ((x0q2 : Int) < (((List.replicate ((volW ([p0, p0]))).toNat (0 : Int)).length : Nat) : Int))) then
  (bif decide ((p0 : Int) = 0) then
  none
  else
  (bif decide ((p0 : Int) = 0) then
  none
  else
  (idx x0q2 x0q4.length).bind fun j3 =>
  (bif decide (j3 < x0q4.length) then
  L0 fuel n0 (t0 p0 ((IntKind.wrap .i64 (x0q2 + 1))) ((x0q4.set j3 (tInt ((((IntKind.wrap .i64 (Int.tdiv x0q2 p0)) : Int) == (Int.tmod x0q2 p0))))))) (k0  fuel)
  else
  none)))
  else
  some ([.agg [((.ints .i64 [p0, p0]), true), ((.ints .i64 x0q4), true)]], [])) := by kernel_rfl
end impl_Identity
theorem impl_Identity.ok_of (hX : ∀ E ∈ impl_Identity.X, CallSpec Try.prog E) (h : ∀ (n : Int), (true) = true → ∃ fuel, runF Try.prog impl_Identity.X impl_Identity.I 4 fuel 31 Try.f31 [.d (.int .i64 n)] = some ([.agg [((.ints .i64 (idS n)), true), ((.ints .i64 (idD n)), true)]], [])) : CallSpec Try.prog impl_Identity.E :=
  callSpec_of (d := 4) hX (by kernel_rfl) impl_Identity.I_ok (by kernel_rfl) (by kernel_rfl) (by kernel_rfl) (fun _ _ _ _ h => by dsimp only [impl_Identity.E] at h; cases h) (fun xs hp => by
    dsimp only [impl_Identity.E] at hp ⊢
    split at hp
    · exact h _ hp
    · cases hp)
theorem impl_Identity.ok : CallSpec Try.prog impl_Identity.E := impl_Identity.ok_of (by simp [impl_Identity.X, impl_layoutOf_j.ok, impl_truth.ok]) fun n h => by
  obtain ⟨F, hF⟩ : ∃ F : Nat, 100 < F := ⟨101, by omega⟩
  refine ⟨F, ?_⟩
  rw [impl_Identity.e]
  by_cases h0 : n < 0
  · have hb : idOk n = false := by simp [idOk]; omega
    rw [decide_eq_true h0]
    simp only [idS, idD, hb]
    rfl
  by_cases h1 : n > 4
  · have hb : idOk n = false := by simp [idOk]; omega
    rw [decide_eq_false h0, decide_eq_true h1]
    simp only [idS, idD, hb]
    rfl
  obtain ⟨k, rfl⟩ : ∃ k : Nat, n = k := ⟨n.toNat, by omega⟩
  have hk : k ≤ 4 := by omega
  obtain ⟨e1, e2⟩ := idSD hk
  obtain ⟨v1, v2⟩ := vol_sq hk
  have h4 := sq4 hk
  rw [decide_eq_false h0, decide_eq_false h1, e1, e2, v1, v2, lt_of (by simp), mkOk (by omega) (by omega)]
  simp only [cond_true, cond_false, Int.toNat_natCast]
  have hA := idN_length k
  refine run_loop (N := k * k) (fun m j out => impl_Identity.L0 F m (impl_Identity.t0 (k : Int) (j : Int) out) (impl_Identity.k0 F)) (fun j out => out = part (idN k) j) ?_ ?_ F 0 _ (by omega) (by omega) (by rw [part_zero, hA])
  · intro m out hI
    have hall := part_all (idN k)
    rw [hA] at hall
    rw [hall] at hI
    rw [impl_Identity.s0]
    simp only [v2, List.length_replicate, Int.toNat_natCast]
    rw [dge (by omega), cond_false, hI]
  · intro m j out hj hI
    have hol : out.length = k * k := by rw [hI, part_length (by omega), hA]
    have hk0 : k ≠ 0 := by rintro rfl; simp at hj
    have hq : j / k ≤ j := Nat.div_le_self _ _
    have ed : Int.tdiv (j : Int) (k : Int) = ((j / k : Nat) : Int) := rfl
    rw [impl_Identity.s0]
    simp only [v2, List.length_replicate, Int.toNat_natCast]
    rw [dlt hj, cond_true, decide_eq_false (p := (k : Int) = 0) (by omega), cond_false, cond_false, ed, tmodN, wN (n := j / k) (by omega), w1 (by omega), idx_nat (by omega)]
    simp only [Option.bind_some]
    rw [decide_eq_true (by omega), cond_true]
    refine ⟨_, ?_, rfl⟩
    rw [hI, part_set (by omega)]
    congr 1
    simp only [idN]
    rw [tab_getD hj]
    congr 1
    rw [Bool.eq_iff_iff]
    simp
    omega

namespace laws_FnSumProduct
noncomputable def E : Entry := ⟨8, true, false, fun | [.d (.ints .u8 bs)] => bytesB bs | _ => false, fun | [.d (.ints .u8 bs)] => ([.one ((.bool true), false)], []) | _ => ([], []), fun _ => [], false, fun _ => none⟩
end laws_FnSumProduct
namespace laws_FnSumProduct
noncomputable def X : List Entry := [spec_DrawSumProduct.E, impl_SumProduct.E, spec_SumProduct.E, laws_equalArray.E, impl_InnerProduct.E, impl_RankOf.E, impl_Identity.E]
noncomputable def I : List Inl := [⟨8, Try.f8, ⟨[18, 24, 30, 45, 64, 65], [], [], [(10, [1, 0, 2, 3, 4, 5, 6, 7, 8, 9, 10, 11, 12])], [], []⟩⟩]
theorem I_ok : ∀ i ∈ I, Try.prog.funcs[i.f]? = some i.fn ∧ (i.fn.name == "runtime.NumGoroutine") = false := by
  intro i hi
  simp only [I, List.mem_cons, List.not_mem_nil, or_false] at hi
  subst hi
  exact ⟨by kernel_rfl, by kernel_rfl⟩
theorem e (fuel : Nat) (p0 : List Int) : runF Try.prog X I 0 fuel 8 Try.f8 [.d (.ints .u8 p0)] =
  (bif (decide ((((p0.length : Nat) : Int) : Int) > 1048576)) then
  some ([.one ((.bool true), false)], [])
  else
  (bif bytesB p0 then
  (bif decide (((mpS1 (cutC p0) 0)).length < 9223372036854775808) && decide (((mpD1 (cutC p0) 0)).length < 9223372036854775808) && decide (((mpS2 (cutC p0) 0)).length < 9223372036854775808) && decide (((mpD2 (cutC p0) 0)).length < 9223372036854775808) then
  (bif decide (((mpS1 (cutC p0) 0)).length < 9223372036854775808) && decide (((mpD1 (cutC p0) 0)).length < 9223372036854775808) && decide (((mpS2 (cutC p0) 0)).length < 9223372036854775808) && decide (((mpD2 (cutC p0) 0)).length < 9223372036854775808) then
  (bif decide (((inS 1 3 ((mpS1 (cutC p0) 0)) ((mpD1 (cutC p0) 0)) ((mpS2 (cutC p0) 0)) ((mpD2 (cutC p0) 0)))).length < 9223372036854775808) && decide (((inD 1 3 ((mpS1 (cutC p0) 0)) ((mpD1 (cutC p0) 0)) ((mpS2 (cutC p0) 0)) ((mpD2 (cutC p0) 0)))).length < 9223372036854775808) && decide (((inS 1 3 ((mpS1 (cutC p0) 0)) ((mpD1 (cutC p0) 0)) ((mpS2 (cutC p0) 0)) ((mpD2 (cutC p0) 0)))).length < 9223372036854775808) && decide (((inD 1 3 ((mpS1 (cutC p0) 0)) ((mpD1 (cutC p0) 0)) ((mpS2 (cutC p0) 0)) ((mpD2 (cutC p0) 0)))).length < 9223372036854775808) then
  (bif (!(decide (((inS 1 3 ((mpS1 (cutC p0) 0)) ((mpD1 (cutC p0) 0)) ((mpS2 (cutC p0) 0)) ((mpD2 (cutC p0) 0)))) = ((inS 1 3 ((mpS1 (cutC p0) 0)) ((mpD1 (cutC p0) 0)) ((mpS2 (cutC p0) 0)) ((mpD2 (cutC p0) 0))))) && decide (((inD 1 3 ((mpS1 (cutC p0) 0)) ((mpD1 (cutC p0) 0)) ((mpS2 (cutC p0) 0)) ((mpD2 (cutC p0) 0)))) = ((inD 1 3 ((mpS1 (cutC p0) 0)) ((mpD1 (cutC p0) 0)) ((mpS2 (cutC p0) 0)) ((mpD2 (cutC p0) 0))))))) then
  some ([.one ((.bool false), false)], [])
  else
  (bif (!((inB 1 3 ((mpS1 (cutC p0) 0)) ((mpD1 (cutC p0) 0)) ((mpS2 (cutC p0) 0)) ((mpD2 (cutC p0) 0))) == (inB 1 3 ((mpS1 (cutC p0) 0)) ((mpD1 (cutC p0) 0)) ((mpS2 (cutC p0) 0)) ((mpD2 (cutC p0) 0))))) then
  some ([.one ((.bool false), false)], [])
  else
  (bif decide (((mpS1 (cutC p0) 0)).length < 9223372036854775808) && decide (((mpD1 (cutC p0) 0)).length < 9223372036854775808) && decide (((mpS2 (cutC p0) 0)).length < 9223372036854775808) && decide (((mpD2 (cutC p0) 0)).length < 9223372036854775808) then
  (bif decide (((mpS1 (cutC p0) 0)).length < 9223372036854775808) && decide (((mpD1 (cutC p0) 0)).length < 9223372036854775808) then
  (bif (((rankV ((mpS1 (cutC p0) 0)) ((mpD1 (cutC p0) 0))) : Int) == 2) then
  (idx 1 (mpS1 (cutC p0) 0).length).bind fun j1 =>
  ((mpS1 (cutC p0) 0)[j1]?).bind fun v2 =>
  (bif (decide ((v2 : Int) ≤ 4)) then
  (idx 1 (mpS1 (cutC p0) 0).length).bind fun j3 =>
  ((mpS1 (cutC p0) 0)[j3]?).bind fun v4 =>
  (bif decide (((mpS1 (cutC p0) 0)).length < 9223372036854775808) && decide (((mpD1 (cutC p0) 0)).length < 9223372036854775808) && decide (((idS v4)).length < 9223372036854775808) && decide (((idD v4)).length < 9223372036854775808) then
  (bif (!(inB 1 3 ((mpS1 (cutC p0) 0)) ((mpD1 (cutC p0) 0)) ((idS v4)) ((idD v4)))) then
  some ([.one ((.bool false), false)], [])
  else
  (bif decide (((inS 1 3 ((mpS1 (cutC p0) 0)) ((mpD1 (cutC p0) 0)) ((idS v4)) ((idD v4)))).length < 9223372036854775808) && decide (((inD 1 3 ((mpS1 (cutC p0) 0)) ((mpD1 (cutC p0) 0)) ((idS v4)) ((idD v4)))).length < 9223372036854775808) && decide (((mpS1 (cutC p0) 0)).length < 9223372036854775808) && decide (((mpD1 (cutC p0) 0)).length < 9223372036854775808) then
  (bif (!(decide (((inS 1 3 ((mpS1 (cutC p0) 0)) ((mpD1 (cutC p0) 0)) ((idS v4)) ((idD v4)))) = ((mpS1 (cutC p0) 0))) && decide (((inD 1 3 ((mpS1 (cutC p0) 0)) ((mpD1 (cutC p0) 0)) ((idS v4)) ((idD v4)))) = ((mpD1 (cutC p0) 0))))) then
  some ([.one ((.bool false), false)], [])
  else
  (bif ((inB 1 3 ((mpS1 (cutC p0) 0)) ((mpD1 (cutC p0) 0)) ((mpS2 (cutC p0) 0)) ((mpD2 (cutC p0) 0))) == (inB 1 3 ((mpS1 (cutC p0) 0)) ((mpD1 (cutC p0) 0)) ((mpS2 (cutC p0) 0)) ((mpD2 (cutC p0) 0)))) then
  (bif decide (((inS 1 3 ((mpS1 (cutC p0) 0)) ((mpD1 (cutC p0) 0)) ((mpS2 (cutC p0) 0)) ((mpD2 (cutC p0) 0)))).length < 9223372036854775808) && decide (((inD 1 3 ((mpS1 (cutC p0) 0)) ((mpD1 (cutC p0) 0)) ((mpS2 (cutC p0) 0)) ((mpD2 (cutC p0) 0)))).length < 9223372036854775808) && decide (((inS 1 3 ((mpS1 (cutC p0) 0)) ((mpD1 (cutC p0) 0)) ((mpS2 (cutC p0) 0)) ((mpD2 (cutC p0) 0)))).length < 9223372036854775808) && decide (((inD 1 3 ((mpS1 (cutC p0) 0)) ((mpD1 (cutC p0) 0)) ((mpS2 (cutC p0) 0)) ((mpD2 (cutC p0) 0)))).length < 9223372036854775808) then
  some ([.one ((.bool (decide (((inS 1 3 ((mpS1 (cutC p0) 0)) ((mpD1 (cutC p0) 0)) ((mpS2 (cutC p0) 0)) ((mpD2 (cutC p0) 0)))) = ((inS 1 3 ((mpS1 (cutC p0) 0)) ((mpD1 (cutC p0) 0)) ((mpS2 (cutC p0) 0)) ((mpD2 (cutC p0) 0))))) && decide (((inD 1 3 ((mpS1 (cutC p0) 0)) ((mpD1 (cutC p0) 0)) ((mpS2 (cutC p0) 0)) ((mpD2 (cutC p0) 0)))) = ((inD 1 3 ((mpS1 (cutC p0) 0)) ((mpD1 (cutC p0) 0)) ((mpS2 (cutC p0) 0)) ((mpD2 (cutC p0) 0))))))), false)], [])
  else
  none)
  else
  some ([.one ((.bool false), false)], [])))
  else
  none))
  else
  none)
  else
  (bif ((inB 1 3 ((mpS1 (cutC p0) 0)) ((mpD1 (cutC p0) 0)) ((mpS2 (cutC p0) 0)) ((mpD2 (cutC p0) 0))) == (inB 1 3 ((mpS1 (cutC p0) 0)) ((mpD1 (cutC p0) 0)) ((mpS2 (cutC p0) 0)) ((mpD2 (cutC p0) 0)))) then
  (bif decide (((inS 1 3 ((mpS1 (cutC p0) 0)) ((mpD1 (cutC p0) 0)) ((mpS2 (cutC p0) 0)) ((mpD2 (cutC p0) 0)))).length < 9223372036854775808) && decide (((inD 1 3 ((mpS1 (cutC p0) 0)) ((mpD1 (cutC p0) 0)) ((mpS2 (cutC p0) 0)) ((mpD2 (cutC p0) 0)))).length < 9223372036854775808) && decide (((inS 1 3 ((mpS1 (cutC p0) 0)) ((mpD1 (cutC p0) 0)) ((mpS2 (cutC p0) 0)) ((mpD2 (cutC p0) 0)))).length < 9223372036854775808) && decide (((inD 1 3 ((mpS1 (cutC p0) 0)) ((mpD1 (cutC p0) 0)) ((mpS2 (cutC p0) 0)) ((mpD2 (cutC p0) 0)))).length < 9223372036854775808) then
  some ([.one ((.bool (decide (((inS 1 3 ((mpS1 (cutC p0) 0)) ((mpD1 (cutC p0) 0)) ((mpS2 (cutC p0) 0)) ((mpD2 (cutC p0) 0)))) = ((inS 1 3 ((mpS1 (cutC p0) 0)) ((mpD1 (cutC p0) 0)) ((mpS2 (cutC p0) 0)) ((mpD2 (cutC p0) 0))))) && decide (((inD 1 3 ((mpS1 (cutC p0) 0)) ((mpD1 (cutC p0) 0)) ((mpS2 (cutC p0) 0)) ((mpD2 (cutC p0) 0)))) = ((inD 1 3 ((mpS1 (cutC p0) 0)) ((mpD1 (cutC p0) 0)) ((mpS2 (cutC p0) 0)) ((mpD2 (cutC p0) 0))))))), false)], [])
  else
  none)
  else
  some ([.one ((.bool false), false)], [])))
  else
  (bif ((inB 1 3 ((mpS1 (cutC p0) 0)) ((mpD1 (cutC p0) 0)) ((mpS2 (cutC p0) 0)) ((mpD2 (cutC p0) 0))) == (inB 1 3 ((mpS1 (cutC p0) 0)) ((mpD1 (cutC p0) 0)) ((mpS2 (cutC p0) 0)) ((mpD2 (cutC p0) 0)))) then
  (bif decide (((inS 1 3 ((mpS1 (cutC p0) 0)) ((mpD1 (cutC p0) 0)) ((mpS2 (cutC p0) 0)) ((mpD2 (cutC p0) 0)))).length < 9223372036854775808) && decide (((inD 1 3 ((mpS1 (cutC p0) 0)) ((mpD1 (cutC p0) 0)) ((mpS2 (cutC p0) 0)) ((mpD2 (cutC p0) 0)))).length < 9223372036854775808) && decide (((inS 1 3 ((mpS1 (cutC p0) 0)) ((mpD1 (cutC p0) 0)) ((mpS2 (cutC p0) 0)) ((mpD2 (cutC p0) 0)))).length < 9223372036854775808) && decide (((inD 1 3 ((mpS1 (cutC p0) 0)) ((mpD1 (cutC p0) 0)) ((mpS2 (cutC p0) 0)) ((mpD2 (cutC p0) 0)))).length < 9223372036854775808) then
  some ([.one ((.bool (decide (((inS 1 3 ((mpS1 (cutC p0) 0)) ((mpD1 (cutC p0) 0)) ((mpS2 (cutC p0) 0)) ((mpD2 (cutC p0) 0)))) = ((inS 1 3 ((mpS1 (cutC p0) 0)) ((mpD1 (cutC p0) 0)) ((mpS2 (cutC p0) 0)) ((mpD2 (cutC p0) 0))))) && decide (((inD 1 3 ((mpS1 (cutC p0) 0)) ((mpD1 (cutC p0) 0)) ((mpS2 (cutC p0) 0)) ((mpD2 (cutC p0) 0)))) = ((inD 1 3 ((mpS1 (cutC p0) 0)) ((mpD1 (cutC p0) 0)) ((mpS2 (cutC p0) 0)) ((mpD2 (cutC p0) 0))))))), false)], [])
  else
  none)
  else
  some ([.one ((.bool false), false)], [])))
  else
  none)
  else
  none)))
  else
  none)
  else
  none)
  else
  none)
  else
  none)) := by kernel_rfl
end laws_FnSumProduct
theorem laws_FnSumProduct.ok_of (hX : ∀ E ∈ laws_FnSumProduct.X, CallSpec Try.prog E) (h : ∀ (bs : List Int), (bytesB bs) = true → ∃ fuel, runF Try.prog laws_FnSumProduct.X laws_FnSumProduct.I 0 fuel 8 Try.f8 [.d (.ints .u8 bs)] = some ([.one ((.bool true), false)], [])) : CallSpec Try.prog laws_FnSumProduct.E :=
  callSpec_of (d := 0) hX (by kernel_rfl) laws_FnSumProduct.I_ok (by kernel_rfl) (by kernel_rfl) (by kernel_rfl) (fun _ _ _ _ h => by dsimp only [laws_FnSumProduct.E] at h; cases h) (fun xs hp => by
    dsimp only [laws_FnSumProduct.E] at hp ⊢
    split at hp
    · exact h _ hp
    · cases hp)
theorem laws_FnSumProduct.ok : CallSpec Try.prog laws_FnSumProduct.E := laws_FnSumProduct.ok_of (by simp [laws_FnSumProduct.X, spec_DrawSumProduct.ok, impl_SumProduct.ok, spec_SumProduct.ok, laws_equalArray.ok, impl_InnerProduct.ok, impl_RankOf.ok, impl_Identity.ok]) fun bs h => by
  obtain ⟨F, hF⟩ : ∃ F : Nat, 4000 < F := ⟨4001, by omega⟩
  refine ⟨F, ?_⟩
  rw [laws_FnSumProduct.e]
  by_cases hl : ((bs.length : Nat) : Int) > 1048576
  · rw [decide_eq_true hl]; rfl
  rw [decide_eq_false hl, cond_false, h, cond_true]
  have r0 := cut_ok h (p := 0) (by omega) (by omega)
  obtain ⟨a1, a2, a3, a4⟩ := mp_bd r0 (by omega)
  obtain ⟨sa, hsa⟩ : ∃ x, mpS1 (cutC bs) 0 = x := ⟨_, rfl⟩
  obtain ⟨da, hda⟩ : ∃ x, mpD1 (cutC bs) 0 = x := ⟨_, rfl⟩
  obtain ⟨sb, hsb⟩ : ∃ x, mpS2 (cutC bs) 0 = x := ⟨_, rfl⟩
  obtain ⟨db, hdb⟩ : ∃ x, mpD2 (cutC bs) 0 = x := ⟨_, rfl⟩
  rw [hsa] at a1
  rw [hda] at a2
  rw [hsb] at a3
  rw [hdb] at a4
  have g1 := lt_of (xs := sa) (by omega)
  have g2 := lt_of (xs := da) (by omega)
  have g3 := lt_of (xs := sb) (by omega)
  have g4 := lt_of (xs := db) (by omega)
  have w := in_len 1 3 sa da sb db
  have g5 := lt_of (xs := inS 1 3 sa da sb db) (by omega)
  have g6 := lt_of (xs := inD 1 3 sa da sb db) (by omega)
  simp only [hsa, hda, hsb, hdb]
  by_cases hr : rankV sa da = 2
  · have hva : validA sa da = true ∧ sa.length = 2 := by
      unfold rankV at hr
      cases hv : validA sa da with
      | false => rw [hv, cond_false] at hr; omega
      | true => rw [hv] at hr; exact ⟨rfl, by simp only [cond_true] at hr; omega⟩
    have e2 : ((rankV sa da : Int) == 2) = true := beq_iff_eq.2 hr
    obtain ⟨hv, hl⟩ := hva
    match sa, hl with
    | [A, B], _ =>
      have ix : idx 1 ([A, B] : List Int).length = some 1 := rfl
      have ig : ([A, B] : List Int)[1]? = some B := rfl
      rw [e2, ix]
      simp only [Option.bind_some, ig]
      by_cases hB : B ≤ 4
      · obtain ⟨a0, b0⟩ : 0 ≤ A ∧ 0 ≤ B := by
          rcases validS_cases (validA_inv hv).1 with h | ⟨x, h, _⟩ | ⟨x, y, h, c0, c1, c2, c3, c4⟩ | ⟨x, y, z, h, _⟩ <;> cases h
          exact ⟨c0, c2⟩
        obtain ⟨m, rfl⟩ : ∃ m : Nat, A = m := ⟨A.toNat, by omega⟩
        obtain ⟨k, rfl⟩ : ∃ m : Nat, B = m := ⟨B.toNat, by omega⟩
        have hk : k ≤ 4 := by omega
        have hid := id_valid hk
        have e : inSh [(m : Int), (k : Int)] [(k : Int), (k : Int)] = [(m : Int), (k : Int)] := rfl
        have hin : inB 1 3 [(m : Int), (k : Int)] da [(k : Int), (k : Int)] (idN k) = true := by
          have a1 : axB [(m : Int), (k : Int)] da (inK [(m : Int), (k : Int)]) = true := by simp [axB, hv, inK, axOk]
          have a2 : axB [(k : Int), (k : Int)] (idN k) 0 = true := by simp [axB, hid, axOk]
          simp only [inB, e, (validA_inv hv).1, a1, a2]
          simp [opOk, lenN]
        have i1 : inS 1 3 [(m : Int), (k : Int)] da [(k : Int), (k : Int)] (idN k) = [(m : Int), (k : Int)] := by simp only [inS, hin, cond_true]; rfl
        have i2 : inD 1 3 [(m : Int), (k : Int)] da [(k : Int), (k : Int)] (idN k) = da := by simp only [inD, hin, cond_true]; exact id_right_mat hv
        have s1 := lt_of (xs := [(k : Int), (k : Int)]) (by simp)
        have s2 := lt_of (xs := idN k) (by rw [idN_length]; have := sq4 hk; omega)
        rw [decide_eq_true hB, (idSD hk).1, (idSD hk).2, hin, i1, i2]
        simp only [Bool.and_self, Bool.and_true, Bool.true_and, cond_true, cond_false, Bool.not_true, Bool.not_false, bne_self_eq_false, beq_self_eq_true, decide_true, eq_self, g1, g2, g3, g4, g5, g6, s1, s2]
      · rw [decide_eq_false hB]
        simp only [Bool.and_self, Bool.and_true, Bool.true_and, cond_true, cond_false, Bool.not_true, Bool.not_false, bne_self_eq_false, beq_self_eq_true, decide_true, eq_self, g1, g2, g3, g4, g5, g6]
  · have e2 : ((rankV sa da : Int) == 2) = false := beq_eq_false_iff_ne.2 hr
    rw [e2]
    simp only [Bool.and_self, Bool.and_true, Bool.true_and, cond_true, cond_false, Bool.not_true, Bool.not_false, bne_self_eq_false, beq_self_eq_true, decide_true, eq_self, g1, g2, g3, g4, g5, g6]

end Go.Ab
