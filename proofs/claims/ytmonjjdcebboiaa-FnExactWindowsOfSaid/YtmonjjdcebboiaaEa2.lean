import Derived.Test.YtmonjjdcebboiaaEa1
import Derived.Test.YtmonjjdcebboiaaProg
import Derived.Test.YtmonjjdcebboiaaChecked
open Go Go.Ab Go.Proofs
set_option maxRecDepth 100000
set_option linter.unusedVariables false
set_option linter.unusedSimpArgs false
namespace Go.Ab
namespace spec_PowerOf
noncomputable def E : Entry := ⟨18, false, false, fun | [.d (.agg [(.ints .i64 sh), (.ints .i64 da)]), .d (.int .i64 n)] => decide (sh.length < 9223372036854775808) && decide (da.length < 9223372036854775808) | _ => false, fun | [.d (.agg [(.ints .i64 sh), (.ints .i64 da)]), .d (.int .i64 n)] => ([.agg [((.ints .i64 (pwS sh da n)), true), ((.ints .i64 (ppD sh da n)), true)], .one ((.bool (poOk sh da n)), false)], []) | _ => ([], []), fun _ => [], true, fun _ => none⟩
end spec_PowerOf
namespace spec_PowerOf
noncomputable def X : List Entry := [spec_isSquare.E, spec_inRange.E, spec_Identity.E, spec_SumProduct.E]
noncomputable def I : List Inl := [⟨18, Try.f18, ⟨[21, 30], [(1000005, [0, 3, 5, 8, 9, 10, 11, 12, 13, 14, 15, 16, 17, 18, 19, 20, 21, 22, 23, 24, 25, 26, 27, 28, 29, 30, 31, 32, 33])], [], [], [], []⟩⟩]
theorem I_ok : ∀ i ∈ I, Try.prog.funcs[i.f]? = some i.fn ∧ (i.fn.name == "runtime.NumGoroutine") = false := by
  intro i hi
  simp only [I, List.mem_cons, List.not_mem_nil, or_false] at hi
  subst hi
  exact ⟨by kernel_rfl, by kernel_rfl⟩
noncomputable abbrev L0 (fuel n : Nat) (s : St) (k : Kont) := lAt Try.prog X I fuel true 0 false 18 (bodyOf Try.f18) [1, 1, 1, 0, 1, 0] n s k
noncomputable abbrev k0  (fuel : Nat) : Kont := (kAt Try.prog X I fuel true 0 false 18 (bodyOf Try.f18) [1, 1, 1, 0, 1, 0] [] (endK Try.prog Try.f18))
noncomputable def t0 (p1 : Int) (p0q0 : List Int) (p0q1 : List Int) (x0q1 : Int) (x0q4 : List Int) (x0q5 : List Int) : St := ⟨[.dead, (.imm (.int .i64 p1)), (.ptr 1000000000 0 0), .dead, (.ptr 1000000001 0 0), .dead, (.ptr 1000000002 0 0), (.imm (.int .i64 x0q1)), .dead, .dead, .dead, .dead, .dead, .dead, .dead, .dead, .dead, .dead, .dead, .dead, .dead, .dead, .dead, .dead, .dead, .dead, .dead, .dead, .dead, .dead, .dead, .dead, .dead, .dead], hOf [(1000000000, (.box [(.imm (.ints .i64 p0q0)), (.imm (.ints .i64 p0q1))])), (1000000001, (.box [(.imm .nils), (.imm .nils)])), (1000000002, (.box [(.all 1000000003 1), (.all 1000000004 1)])), (1000000003, (.ints .i64 x0q4)), (1000000004, (.ints .i64 x0q5))], [], []⟩
theorem e (fuel : Nat) (p0q0 : List Int) (p0q1 : List Int) (p1 : Int) : runF Try.prog X I 0 fuel 18 Try.f18 [.d (.agg [(.ints .i64 p0q0), (.ints .i64 p0q1)]), .d (.int .i64 p1)] =
  (bif decide (p0q0.length < 9223372036854775808) && decide (p0q1.length < 9223372036854775808) then
  (bif (!(sqB p0q0 p0q1)) then
  some ([.agg [((.ints .i64 []), true), ((.ints .i64 []), true)], .one ((.bool false), false)], [])
  else
  (bif (!(decide (0 ≤ p1) && decide (p1 ≤ 5))) then
  some ([.agg [((.ints .i64 []), true), ((.ints .i64 []), true)], .one ((.bool false), false)], [])
  else
  (idx 0 p0q0.length).bind fun j1 =>
  (p0q0[j1]?).bind fun v2 =>
  L0 fuel fuel (t0 p1 p0q0 p0q1 0 ((idS v2)) ((idD v2))) (k0  fuel)))
  else
  none) := by kernel_rfl
theorem s0 (fuel n0 : Nat) (p1 : Int) (p0q0 : List Int) (p0q1 : List Int) (x0q1 : Int) (x0q4 : List Int) (x0q5 : List Int) : L0 fuel (n0 + 1) (t0 p1 p0q0 p0q1 x0q1 x0q4 x0q5) (k0  fuel) =
  (bif (decide ((x0q1 : Int) < p1)) then
  (bif decide (x0q4.length < 9223372036854775808) && decide (x0q5.length < 9223372036854775808) && decide (p0q0.length < 9223372036854775808) && decide (p0q1.length < 9223372036854775808) then
  L0 fuel n0 (t0 p1 p0q0 p0q1 ((IntKind.wrap .i64 (x0q1 + 1))) ((inS 1 3 x0q4 x0q5 p0q0 p0q1)) ((inD 1 3 x0q4 x0q5 p0q0 p0q1))) (k0  fuel)
  else
  none)
  else
  some ([.agg [((.ints .i64 x0q4), true), ((.ints .i64 x0q5), true)], .one ((.bool true), false)], [])) := by kernel_rfl
end spec_PowerOf
theorem spec_PowerOf.ok_of (hX : ∀ E ∈ spec_PowerOf.X, CallSpec Try.prog E) (h : ∀ (sh : List Int) (da : List Int) (n : Int), (decide (sh.length < 9223372036854775808) && decide (da.length < 9223372036854775808)) = true → ∃ fuel, runF Try.prog spec_PowerOf.X spec_PowerOf.I 0 fuel 18 Try.f18 [.d (.agg [(.ints .i64 sh), (.ints .i64 da)]), .d (.int .i64 n)] = some ([.agg [((.ints .i64 (pwS sh da n)), true), ((.ints .i64 (ppD sh da n)), true)], .one ((.bool (poOk sh da n)), false)], [])) : CallSpec Try.prog spec_PowerOf.E :=
  callSpec_of (d := 0) hX (by kernel_rfl) spec_PowerOf.I_ok (by kernel_rfl) (by kernel_rfl) (by kernel_rfl) (fun _ _ _ _ h => by dsimp only [spec_PowerOf.E] at h; cases h) (fun xs hp => by
    dsimp only [spec_PowerOf.E] at hp ⊢
    split at hp
    · exact h _ _ _ hp
    · cases hp)
theorem spec_PowerOf.ok : CallSpec Try.prog spec_PowerOf.E := spec_PowerOf.ok_of (by simp [spec_PowerOf.X, spec_isSquare.ok, spec_inRange.ok, spec_Identity.ok, spec_SumProduct.ok]) fun sh da n h => by
  obtain ⟨F, hF⟩ : ∃ F : Nat, 100 < F := ⟨101, by omega⟩
  refine ⟨F, ?_⟩
  rw [spec_PowerOf.e, h, cond_true]
  unfold pwS ppD poOk
  cases hb : sqB sh da with
  | false => rfl
  | true =>
    cases hp : decide (0 ≤ n) && decide (n ≤ 5) with
    | false => rfl
    | true =>
      simp only [Bool.and_eq_true, decide_eq_true_eq] at hp h
      obtain ⟨p, rfl⟩ : ∃ p : Nat, n = p := ⟨n.toNat, by omega⟩
      obtain ⟨k, hk, hsh, hl, hv, ha⟩ := sqB_inv hb
      have h4 := sq4 hk
      have hF2 := pow_facts hk hl hv hsh
      have ix : idx 0 sh.length = some 0 := by rw [hsh]; rfl
      have ig : sh[0]? = some (k : Int) := by rw [hsh]; rfl
      rw [ix]
      simp only [Option.bind_some, ig]
      rw [(idSD hk).1, (idSD hk).2]
      simp only [Bool.and_self, Bool.not_true, cond_false, cond_true, Int.toNat_natCast]
      refine run_loop (N := p) (fun m j (st : List Int × List Int) => spec_PowerOf.L0 F m (spec_PowerOf.t0 (p : Int) sh da (j : Int) st.1 st.2) (spec_PowerOf.k0 F)) (fun j st => st.1 = sh ∧ st.2 = powL sh da j) ?_ ?_ F 0 (_, _) (by omega) (by omega) ⟨hsh.symm, by rw [hsh]; rfl⟩
      · rintro m ⟨s1, s2⟩ ⟨e1, e2⟩
        simp only at e1 e2
        subst s1; subst s2
        rw [spec_PowerOf.s0, dge (by omega), cond_false]
      · rintro m j ⟨s1, s2⟩ hj ⟨e1, e2⟩
        simp only at e1 e2
        subst s1; subst s2
        obtain ⟨q1, q2, q3⟩ := hF2 j
        dsimp only
        rw [spec_PowerOf.s0, dlt hj, cond_true, w1 (by omega), lt_of (by omega), lt_of (by omega), lt_of (by omega)]
        refine ⟨(sh, powL sh da (j + 1)), ⟨rfl, rfl⟩, ?_⟩
        rw [q2, q3]
        rfl

namespace impl_NeutralOf
noncomputable def E : Entry := ⟨92, true, false, fun | [.d (.int .i64 op)] => true | _ => false, fun | [.d (.int .i64 op)] => ([.one ((.int .i64 (neuV op)), false)], []) | _ => ([], []), fun _ => [], false, fun _ => none⟩
end impl_NeutralOf
namespace impl_NeutralOf
noncomputable def X : List Entry := []
noncomputable def I : List Inl := [⟨92, Try.f92, ⟨[], [], [], [], [], []⟩⟩]
theorem I_ok : ∀ i ∈ I, Try.prog.funcs[i.f]? = some i.fn ∧ (i.fn.name == "runtime.NumGoroutine") = false := by
  intro i hi
  simp only [I, List.mem_cons, List.not_mem_nil, or_false] at hi
  subst hi
  exact ⟨by kernel_rfl, by kernel_rfl⟩
theorem e (fuel : Nat) (p0 : Int) : runF Try.prog X I 0 fuel 92 Try.f92 [.d (.int .i64 p0)] =
  (bif ((p0 : Int) == 3) then
  some ([.one ((.int .i64 1), false)], [])
  else
  (bif ((p0 : Int) == 6) then
  some ([.one ((.int .i64 1), false)], [])
  else
  (bif ((p0 : Int) == 4) then
  some ([.one ((.int .i64 1000000), false)], [])
  else
  (bif ((p0 : Int) == 5) then
  some ([.one ((.int .i64 (-1000000)), false)], [])
  else
  some ([.one ((.int .i64 0), false)], []))))) := by kernel_rfl
end impl_NeutralOf
theorem impl_NeutralOf.ok_of (hX : ∀ E ∈ impl_NeutralOf.X, CallSpec Try.prog E) (h : ∀ (op : Int), (true) = true → ∃ fuel, runF Try.prog impl_NeutralOf.X impl_NeutralOf.I 0 fuel 92 Try.f92 [.d (.int .i64 op)] = some ([.one ((.int .i64 (neuV op)), false)], [])) : CallSpec Try.prog impl_NeutralOf.E :=
  callSpec_of (d := 0) hX (by kernel_rfl) impl_NeutralOf.I_ok (by kernel_rfl) (by kernel_rfl) (by kernel_rfl) (fun _ _ _ _ h => by dsimp only [impl_NeutralOf.E] at h; cases h) (fun xs hp => by
    dsimp only [impl_NeutralOf.E] at hp ⊢
    split at hp
    · exact h _ hp
    · cases hp)
theorem impl_NeutralOf.ok : CallSpec Try.prog impl_NeutralOf.E := impl_NeutralOf.ok_of (by simp [impl_NeutralOf.X]) fun op _ => ⟨0, by
  rw [impl_NeutralOf.e]
  unfold neuV
  cases ho : opOk op with
  | true => rcases opOk_cases ho with rfl | rfl | rfl | rfl | rfl | rfl | rfl | rfl <;> rfl
  | false =>
    have h := opOk_no ho
    rw [show (op == 3) = false by simp; omega, show (op == 6) = false by simp; omega, show (op == 4) = false by simp; omega, show (op == 5) = false by simp; omega]
    rfl⟩

namespace impl_foldRight_int_int
noncomputable def E : Entry := ⟨93, true, false, fun | [.d (.ints .i64 xs), .d (.int .i64 s), .d (.fn false dom G)] => decide (xs.length < 9223372036854775808) && fdB dom G xs s | _ => false, fun | [.d (.ints .i64 xs), .d (.int .i64 s), .d (.fn false dom G)] => ([.one ((.int .i64 (foldW G xs s)), false)], []) | _ => ([], []), fun _ => [], false, fun _ => none⟩
end impl_foldRight_int_int
namespace impl_foldRight_int_int
noncomputable def X : List Entry := []
noncomputable def I : List Inl := [⟨93, Try.f93, ⟨[], [(1, [1, 2, 3, 7, 8, 9, 10, 11, 12, 13, 14, 15, 16, 17])], [], [], [], []⟩⟩, ⟨95, Try.f95, ⟨[], [], [(1, [1])], [], [], []⟩⟩, ⟨96, Try.f96, ⟨[], [(1000001, [2, 4, 5, 6, 7, 8, 9, 10, 11, 12, 13, 14, 15, 16, 17, 18])], [], [], [], []⟩⟩]
theorem I_ok : ∀ i ∈ I, Try.prog.funcs[i.f]? = some i.fn ∧ (i.fn.name == "runtime.NumGoroutine") = false := by
  intro i hi
  simp only [I, List.mem_cons, List.not_mem_nil, or_false] at hi
  rcases hi with rfl | rfl | rfl
  all_goals exact ⟨by kernel_rfl, by kernel_rfl⟩
noncomputable abbrev L0 (fuel n : Nat) (s : St) (k : Kont) := lAt Try.prog X I fuel true 3 false 96 (bodyOf Try.f96) [1, 0] n s k
noncomputable abbrev k0  (fuel : Nat) : Kont := (kAt Try.prog X I fuel true 3 false 96 (bodyOf Try.f96) [1, 0] [] (endFn Try.prog Try.f96 18 (kRange (kAt Try.prog X I fuel true 4 false 93 (bodyOf Try.f93) [1, 0, 1, 0] [] (endK Try.prog Try.f93)))))
noncomputable def t0 (p0 : List Int) (p2d : List Q → Bool) (p2g : List Q → Int) (x0q1 : Int) (x0q6 : Int) : St := ⟨[(.yld 1000000001), (.imm (.pbox [(.ints .i64 p0)])), .dead, (.imm (.int .i64 x0q1)), .dead, .dead, .dead, .dead, .dead, .dead, .dead, .dead, .dead, .dead, .dead, .dead, .dead, .dead, .dead], hOf [(1000000000, .dfr), (1000000001, (.loop 93 [(.imm (.ints .i64 p0)), .dead, .dead, .dead, (.ptr 1000000002 0 0), (.ptr 1000000003 0 0), (.imm (.int .i64 0)), .dead, .dead, (.imm (.ints .i64 p0)), (.imm (.clo 96 [(.pbox [(.ints .i64 p0)])])), .dead, .dead, .dead, .dead, .dead, .dead, .dead] [11, 12] (cAt (bodyOf Try.f93) [1, 0, 1, 0, 0]) (cAt (bodyOf Try.f93) [1, 0, 1, 0, 1]) .ready)), (1000000002, (.box [(.imm (.int .i64 x0q6))])), (1000000003, (.box [(.imm (.fn false p2d p2g))]))], [(.imm (.ints .i64 p0)), .dead, .dead, .dead, (.ptr 1000000002 0 0), (.ptr 1000000003 0 0), (.imm (.int .i64 0)), .dead, .dead, (.imm (.ints .i64 p0)), (.imm (.clo 96 [(.pbox [(.ints .i64 p0)])])), .dead, .dead, .dead, .dead, .dead, .dead, .dead, (.tup [(.dfr 1000000000)]), (.yld 1000000001)], []⟩
theorem e (fuel : Nat) (p0 : List Int) (p1 : Int) (p2d : List Q → Bool) (p2g : List Q → Int) : runF Try.prog X I 4 fuel 93 Try.f93 [.d (.ints .i64 p0), .d (.int .i64 p1), .d (.fn false p2d p2g)] =
  L0 fuel fuel (t0 p0 p2d p2g ((IntKind.wrap .i64 (((p0.length : Nat) : Int) - 1))) p1) (k0  fuel) := by kernel_rfl
theorem s0 (fuel n0 : Nat) (p0 : List Int) (p2d : List Q → Bool) (p2g : List Q → Int) (x0q1 : Int) (x0q6 : Int) : L0 fuel (n0 + 1) (t0 p0 p2d p2g x0q1 x0q6) (k0  fuel) =
  (bif (decide ((x0q1 : Int) ≥ 0)) then
  (idx x0q1 p0.length).bind fun j5 =>
  (p0[j5]?).bind fun v6 =>
  (bif (p2d [Q.i v6, Q.i x0q6]) then
  L0 fuel n0 (t0 p0 p2d p2g ((IntKind.wrap .i64 (x0q1 - 1))) ((p2g [Q.i v6, Q.i x0q6]))) (k0  fuel)
  else
  none)
  else
  some ([.one ((.int .i64 x0q6), false)], [])) := by kernel_rfl
end impl_foldRight_int_int
theorem impl_foldRight_int_int.ok_of (hX : ∀ E ∈ impl_foldRight_int_int.X, CallSpec Try.prog E) (h : ∀ (xs : List Int) (s : Int) (dom : List Q → Bool) (G : List Q → Int), (decide (xs.length < 9223372036854775808) && fdB dom G xs s) = true → ∃ fuel, runF Try.prog impl_foldRight_int_int.X impl_foldRight_int_int.I 4 fuel 93 Try.f93 [.d (.ints .i64 xs), .d (.int .i64 s), .d (.fn false dom G)] = some ([.one ((.int .i64 (foldW G xs s)), false)], [])) : CallSpec Try.prog impl_foldRight_int_int.E :=
  callSpec_of (d := 4) hX (by kernel_rfl) impl_foldRight_int_int.I_ok (by kernel_rfl) (by kernel_rfl) (by kernel_rfl) (fun _ _ _ _ h => by dsimp only [impl_foldRight_int_int.E] at h; cases h) (fun xs hp => by
    dsimp only [impl_foldRight_int_int.E] at hp ⊢
    split at hp
    · exact h _ _ _ _ hp
    · cases hp)
theorem impl_foldRight_int_int.ok : CallSpec Try.prog impl_foldRight_int_int.E := impl_foldRight_int_int.ok_of (by simp [impl_foldRight_int_int.X]) fun xs s dom G h => ⟨xs.length + 1, by
  simp only [Bool.and_eq_true, decide_eq_true_eq] at h
  rw [impl_foldRight_int_int.e, wS (by omega) (by omega), show ((xs.length : Nat) : Int) - 1 = ((xs.length : Nat) : Int) - 1 - ((0 : Nat) : Int) by omega]
  have hd : ∀ i, i < xs.length → fdB dom G (xs.drop i) s = true := by
    intro i hi
    clear hi
    induction i with
    | zero => simpa using h.2
    | succ i ih =>
      by_cases hl : i < xs.length
      · rw [dropS hl] at ih
        simp only [fdB, Bool.and_eq_true] at ih
        exact ih.1
      · rw [dropE (by omega)]; rfl
  refine run_loop (N := xs.length) (fun n j acc => impl_foldRight_int_int.L0 (xs.length + 1) n (impl_foldRight_int_int.t0 xs dom G (((xs.length : Nat) : Int) - 1 - (j : Int)) acc) (impl_foldRight_int_int.k0 (xs.length + 1))) (fun j acc => acc = foldW G (xs.drop (xs.length - j)) s) ?_ ?_ (xs.length + 1) 0 _ (by omega) (by omega) (by simp [foldW])
  · intro n acc ho
    rw [impl_foldRight_int_int.s0, decide_eq_false (by omega), ho, Nat.sub_self, List.drop_zero]
    rfl
  · intro n j acc hj ho
    obtain ⟨k, hk⟩ : ∃ k, xs.length - j = k + 1 := ⟨xs.length - j - 1, by omega⟩
    have hkl : k < xs.length := by omega
    have e1 : ((xs.length : Nat) : Int) - 1 - (j : Int) = (k : Int) := by omega
    have hdk := hd k hkl
    rw [dropS hkl] at hdk
    simp only [fdB, Bool.and_eq_true] at hdk
    have hg : xs.getD k 0 = xs[k] := by simp [hkl]
    rw [e1, impl_foldRight_int_int.s0, decide_eq_true (by omega), idx_nat hkl, wS (by omega) (by omega)]
    simp only [cond_true, Option.bind_some, getD_get hkl]
    rw [ho, hk, hg, hdk.2, cond_true]
    refine ⟨_, ?_, by rw [show ((xs.length : Nat) : Int) - 1 - ((j + 1 : Nat) : Int) = (k : Int) - 1 by omega]⟩
    rw [show xs.length - (j + 1) = k by omega, dropS hkl]
    rfl⟩

namespace impl_reductionOf_1
noncomputable def E : Entry := ⟨91, true, false, fun | [.d (.ints .i64 xs), .d (.pbox [(.int .i64 op)]), .d (.pbox [(.fn false dom G)])] => rdB dom G xs | _ => false, fun | [.d (.ints .i64 xs), .d (.pbox [(.int .i64 op)]), .d (.pbox [(.fn false dom G)])] => ([.one ((.int .i64 (redG op G xs)), false)], []) | _ => ([], []), fun _ => [], false, fun | [(.pbox [(.int .i64 op)]), (.pbox [(.fn false dom G)])] => some (false, (qlB dom G), (qlv (redG op G))) | _ => none⟩
end impl_reductionOf_1
namespace impl_reductionOf_1
noncomputable def X : List Entry := [impl_NeutralOf.E, impl_foldRight_int_int.E]
noncomputable def I : List Inl := [⟨91, Try.f91, ⟨[], [], [], [(4, [0, 1, 3, 4, 2, 5, 6, 7, 8, 9])], [], []⟩⟩]
theorem I_ok : ∀ i ∈ I, Try.prog.funcs[i.f]? = some i.fn ∧ (i.fn.name == "runtime.NumGoroutine") = false := by
  intro i hi
  simp only [I, List.mem_cons, List.not_mem_nil, or_false] at hi
  subst hi
  exact ⟨by kernel_rfl, by kernel_rfl⟩
theorem e (fuel : Nat) (p0 : List Int) (f0q0 : Int) (f1q0d : List Q → Bool) (f1q0g : List Q → Int) : runF Try.prog X I 0 fuel 91 Try.f91 [.d (.ints .i64 p0), .d (.pbox [(.int .i64 f0q0)]), .d (.pbox [(.fn false f1q0d f1q0g)])] =
  (bif (decide (((IntKind.wrap .i64 (((p0.length : Nat) : Int) - 1)) : Int) < 0)) then
  some ([.one ((.int .i64 (neuV f0q0)), false)], [])
  else
  (cutEnds p0.length (none) (some (.imm (.int .i64 (IntKind.wrap .i64 (((p0.length : Nat) : Int) - 1)))))).bind fun cq1 =>
  (idx (IntKind.wrap .i64 (((p0.length : Nat) : Int) - 1)) p0.length).bind fun j2 =>
  (p0[j2]?).bind fun v3 =>
  (bif decide ((((p0.drop cq1.1).take (cq1.2 - cq1.1))).length < 9223372036854775808) && fdB f1q0d f1q0g (((p0.drop cq1.1).take (cq1.2 - cq1.1))) v3 then
  some ([.one ((.int .i64 (foldW f1q0g (((p0.drop cq1.1).take (cq1.2 - cq1.1))) v3)), false)], [])
  else
  none)) := by kernel_rfl
end impl_reductionOf_1
theorem impl_reductionOf_1.ok_of (hX : ∀ E ∈ impl_reductionOf_1.X, CallSpec Try.prog E) (hfn : ∀ ds rb dom G, impl_reductionOf_1.E.fnOf ds = some (rb, dom, G) → ∀ qs, dom qs = true → impl_reductionOf_1.E.m ((qs.map fun q => .d q.d) ++ ds.map .d) = some ([.one (fnD rb (G qs), false)], [])) (h : ∀ (xs : List Int) (op : Int) (dom : List Q → Bool) (G : List Q → Int), (rdB dom G xs) = true → ∃ fuel, runF Try.prog impl_reductionOf_1.X impl_reductionOf_1.I 0 fuel 91 Try.f91 [.d (.ints .i64 xs), .d (.pbox [(.int .i64 op)]), .d (.pbox [(.fn false dom G)])] = some ([.one ((.int .i64 (redG op G xs)), false)], [])) : CallSpec Try.prog impl_reductionOf_1.E :=
  callSpec_of (d := 0) hX (by kernel_rfl) impl_reductionOf_1.I_ok (by kernel_rfl) (by kernel_rfl) (by kernel_rfl) hfn (fun xs hp => by
    dsimp only [impl_reductionOf_1.E] at hp ⊢
    split at hp
    · exact h _ _ _ _ hp
    · cases hp)
theorem impl_reductionOf_1.ok : CallSpec Try.prog impl_reductionOf_1.E := impl_reductionOf_1.ok_of (by simp [impl_reductionOf_1.X, impl_NeutralOf.ok, impl_foldRight_int_int.ok]) (fun ds rb dom G h qs hq => by
  dsimp only [impl_reductionOf_1.E] at h
  split at h
  case h_2 => cases h
  cases h
  match qs, hq with
  | [.l xs], hq =>
    show Entry.m impl_reductionOf_1.E [.d (.ints .i64 xs), _, _] = _
    simp only [Entry.m, impl_reductionOf_1.E]
    rw [show rdB _ _ xs = true from hq]
    rfl) fun xs op dom G h => ⟨0, by
  simp only [rdB, Bool.and_eq_true, decide_eq_true_eq] at h
  rw [impl_reductionOf_1.e, wS (by omega) (by omega)]
  unfold redG
  by_cases h0 : xs.length = 0
  · rw [decide_eq_true (by omega), decide_eq_true h0]; rfl
  · obtain ⟨k, hk⟩ : ∃ k, xs.length = k + 1 := ⟨xs.length - 1, by omega⟩
    have e1 : ((xs.length : Nat) : Int) - 1 = (k : Int) := by omega
    have hkl : k < xs.length := by omega
    have e2 : xs.length - 1 = k := by omega
    rw [e2] at h
    rw [decide_eq_false (by omega), decide_eq_false h0, cond_false, e1, cut_hi (by omega), idx_nat hkl]
    simp only [Option.bind_some, getD_get hkl, List.drop_zero, Nat.sub_zero]
    rw [decide_eq_true (by simp; omega), h.2, e2]
    rfl⟩

namespace impl_reductionOf
noncomputable def E : Entry := ⟨84, true, false, fun | [.d (.int .i64 op)] => true | _ => false, fun | [.d (.int .i64 op)] => ([.one (.nilf, false)], []) | _ => ([], []), fun | [.d (.int .i64 op)] => [(opOk op, ([.one ((.fn false ql ((qlv (redF op)))), false)], []))] | _ => [], false, fun _ => none⟩
end impl_reductionOf
namespace impl_reductionOf
noncomputable def X : List Entry := [impl_functionOfTwo_f.E, impl_reductionOf_1.E]
noncomputable def I : List Inl := [⟨84, Try.f84, ⟨[], [], [(4, [1, 3])], [], [], []⟩⟩]
theorem I_ok : ∀ i ∈ I, Try.prog.funcs[i.f]? = some i.fn ∧ (i.fn.name == "runtime.NumGoroutine") = false := by
  intro i hi
  simp only [I, List.mem_cons, List.not_mem_nil, or_false] at hi
  subst hi
  exact ⟨by kernel_rfl, by kernel_rfl⟩
theorem e (fuel : Nat) (p0 : Int) : runF Try.prog X I 0 fuel 84 Try.f84 [.d (.int .i64 p0)] =
  (bif opOk p0 then
  some ([.one ((.fn false ((qlB q2 ((q2v (operF p0))))) ((qlv (redG p0 ((q2v (operF p0))))))), false)], [])
  else
  some ([.one (.nilf, false)], [])) := by kernel_rfl
end impl_reductionOf
theorem impl_reductionOf.ok_of (hX : ∀ E ∈ impl_reductionOf.X, CallSpec Try.prog E) (h : ∀ (op : Int), (true) = true → ∃ fuel, runF Try.prog impl_reductionOf.X impl_reductionOf.I 0 fuel 84 Try.f84 [.d (.int .i64 op)] = some (bif opOk op then ([.one ((.fn false ql ((qlv (redF op)))), false)], []) else ([.one (.nilf, false)], []))) : CallSpec Try.prog impl_reductionOf.E :=
  callSpec_of (d := 0) hX (by kernel_rfl) impl_reductionOf.I_ok (by kernel_rfl) (by kernel_rfl) (by kernel_rfl) (fun _ _ _ _ h => by dsimp only [impl_reductionOf.E] at h; cases h) (fun xs hp => by
    dsimp only [impl_reductionOf.E] at hp ⊢
    split at hp
    · exact h _ hp
    · cases hp)
theorem impl_reductionOf.ok : CallSpec Try.prog impl_reductionOf.E := impl_reductionOf.ok_of (by simp [impl_reductionOf.X, impl_functionOfTwo_f.ok, impl_reductionOf_1.ok]) fun op _ => ⟨0, by
  rw [impl_reductionOf.e, qlB_q2, redG_eq]
  cases opOk op <;> rfl⟩

namespace impl_axisLength
noncomputable def E : Entry := ⟨85, true, false, fun | [.d (.agg [(.ints .i64 sh), (.ints .i64 da)]), .d (.int .i64 k)] => decide (sh.length < 9223372036854775808) && decide (da.length < 9223372036854775808) | _ => false, fun | [.d (.agg [(.ints .i64 sh), (.ints .i64 da)]), .d (.int .i64 k)] => ([.one ((.int .i64 (axL sh da k)), false), .one ((.bool (axB sh da k)), false)], []) | _ => ([], []), fun _ => [], false, fun _ => none⟩
end impl_axisLength
namespace impl_axisLength
noncomputable def X : List Entry := [impl_ValidArray.E]
noncomputable def I : List Inl := [⟨85, Try.f85, ⟨[], [], [], [], [], []⟩⟩]
theorem I_ok : ∀ i ∈ I, Try.prog.funcs[i.f]? = some i.fn ∧ (i.fn.name == "runtime.NumGoroutine") = false := by
  intro i hi
  simp only [I, List.mem_cons, List.not_mem_nil, or_false] at hi
  subst hi
  exact ⟨by kernel_rfl, by kernel_rfl⟩
theorem e (fuel : Nat) (p0q0 : List Int) (p0q1 : List Int) (p1 : Int) : runF Try.prog X I 0 fuel 85 Try.f85 [.d (.agg [(.ints .i64 p0q0), (.ints .i64 p0q1)]), .d (.int .i64 p1)] =
  (bif decide (p0q0.length < 9223372036854775808) && decide (p0q1.length < 9223372036854775808) then
  (bif (!(validA p0q0 p0q1)) then
  some ([.one ((.int .i64 0), false), .one ((.bool false), false)], [])
  else
  (bif (decide ((p1 : Int) < 0)) then
  some ([.one ((.int .i64 0), false), .one ((.bool false), false)], [])
  else
  (bif (decide ((p1 : Int) ≥ ((p0q0.length : Nat) : Int))) then
  some ([.one ((.int .i64 0), false), .one ((.bool false), false)], [])
  else
  (idx p1 p0q0.length).bind fun j1 =>
  (p0q0[j1]?).bind fun v2 =>
  some ([.one ((.int .i64 v2), false), .one ((.bool true), false)], []))))
  else
  none) := by kernel_rfl
end impl_axisLength
theorem impl_axisLength.ok_of (hX : ∀ E ∈ impl_axisLength.X, CallSpec Try.prog E) (h : ∀ (sh : List Int) (da : List Int) (k : Int), (decide (sh.length < 9223372036854775808) && decide (da.length < 9223372036854775808)) = true → ∃ fuel, runF Try.prog impl_axisLength.X impl_axisLength.I 0 fuel 85 Try.f85 [.d (.agg [(.ints .i64 sh), (.ints .i64 da)]), .d (.int .i64 k)] = some ([.one ((.int .i64 (axL sh da k)), false), .one ((.bool (axB sh da k)), false)], [])) : CallSpec Try.prog impl_axisLength.E :=
  callSpec_of (d := 0) hX (by kernel_rfl) impl_axisLength.I_ok (by kernel_rfl) (by kernel_rfl) (by kernel_rfl) (fun _ _ _ _ h => by dsimp only [impl_axisLength.E] at h; cases h) (fun xs hp => by
    dsimp only [impl_axisLength.E] at hp ⊢
    split at hp
    · exact h _ _ _ hp
    · cases hp)
theorem impl_axisLength.ok : CallSpec Try.prog impl_axisLength.E := impl_axisLength.ok_of (by simp [impl_axisLength.X, impl_ValidArray.ok]) fun sh da k h => ⟨0, by
  rw [impl_axisLength.e, h]
  unfold axL axB
  cases hv : validA sh da with
  | false => rfl
  | true =>
    by_cases h0 : k < 0
    · rw [decide_eq_true h0, show axOk sh k = false by simp [axOk]; omega]; rfl
    by_cases h1 : k ≥ ((sh.length : Nat) : Int)
    · rw [decide_eq_false h0, decide_eq_true h1, show axOk sh k = false by simp [axOk]; omega]; rfl
    obtain ⟨j, rfl⟩ : ∃ j : Nat, k = j := ⟨k.toNat, by omega⟩
    have hj : j < sh.length := by omega
    rw [decide_eq_false h0, decide_eq_false h1, show axOk sh j = true by simp [axOk]; omega, idx_nat hj]
    simp [hj]⟩

namespace slices_Concat_int_int
noncomputable def E : Entry := ⟨86, false, false, fun | [.d (.seq 1 [(.ints .i64 xs), (.ints .i64 ys)])] => szB xs && szB ys | _ => false, fun | [.d (.seq 1 [(.ints .i64 xs), (.ints .i64 ys)])] => ([.one ((.ints .i64 (xs ++ ys)), true)], []) | _ => ([], []), fun _ => [], true, fun _ => none⟩
end slices_Concat_int_int
namespace slices_Concat_int_int
noncomputable def X : List Entry := []
noncomputable def I : List Inl := [⟨86, Try.f86, ⟨[24], [(9, [1, 2, 4, 5, 6, 7, 8, 9, 10, 11, 12, 13, 14, 15, 16, 17, 18, 19, 20, 21, 22, 23, 24, 25, 26, 27, 28, 29, 30, 31, 32, 33, 34, 35]), (1000003, [1, 2, 4, 5, 6, 7, 8, 12, 13, 14, 15, 16, 17, 18, 19, 20, 21, 22, 23, 24, 25, 26, 27, 28, 29, 30, 31, 32, 33, 34, 35]), (1000011, [0, 1, 2, 3, 4, 5, 7, 8, 9, 10, 11, 12, 13, 14, 15, 16, 17, 18, 19, 20, 21, 22, 23, 24, 28, 29, 30, 31, 32, 33, 34, 35])], [], [], [], []⟩⟩, ⟨94, Try.f94, ⟨[], [], [], [], [], []⟩⟩]
theorem I_ok : ∀ i ∈ I, Try.prog.funcs[i.f]? = some i.fn ∧ (i.fn.name == "runtime.NumGoroutine") = false := by
  intro i hi
  simp only [I, List.mem_cons, List.not_mem_nil, or_false] at hi
  rcases hi with rfl | rfl
  all_goals exact ⟨by kernel_rfl, by kernel_rfl⟩
theorem e (p0e0 : List Int) (p0e1 : List Int) : runF Try.prog X I 4 8 86 Try.f86 [.d (.seq 1 [(.ints .i64 p0e0), (.ints .i64 p0e1)])] =
  (bif (decide (((IntKind.wrap .i64 (0 + ((p0e0.length : Nat) : Int))) : Int) < 0)) then
  none
  else
  (bif (decide (((IntKind.wrap .i64 ((IntKind.wrap .i64 (0 + ((p0e0.length : Nat) : Int))) + ((p0e1.length : Nat) : Int))) : Int) < 0)) then
  none
  else
  (bif (decide (((IntKind.wrap .i64 ((IntKind.wrap .i64 (0 + ((p0e0.length : Nat) : Int))) + ((p0e1.length : Nat) : Int))) : Int) < 0)) then
  none
  else
  (bif (decide (((IntKind.wrap .i64 ((IntKind.wrap .i64 ((IntKind.wrap .i64 (0 + ((p0e0.length : Nat) : Int))) + ((p0e1.length : Nat) : Int))) - 0)) : Int) > 0)) then
  (cutEnds 0 (none) (some (.imm (.int .i64 0)))).bind fun cq3 =>
  (bif decide (0 ≤ ((IntKind.wrap .i64 ((IntKind.wrap .i64 ((IntKind.wrap .i64 (0 + ((p0e0.length : Nat) : Int))) + ((p0e1.length : Nat) : Int))) - 0)) : Int)) && fits ((IntKind.wrap .i64 ((IntKind.wrap .i64 ((IntKind.wrap .i64 (0 + ((p0e0.length : Nat) : Int))) + ((p0e1.length : Nat) : Int))) - 0))).toNat 8 then
  (cutEnds (List.replicate ((IntKind.wrap .i64 ((IntKind.wrap .i64 ((IntKind.wrap .i64 (0 + ((p0e0.length : Nat) : Int))) + ((p0e1.length : Nat) : Int))) - 0))).toNat (0 : Int)).length (none) (some (.imm (.int .i64 0)))).bind fun cq4 =>
  (bif decide (cq4.1 = 0) && decide ((cq4.2 - cq4.1) ≤ (List.replicate ((IntKind.wrap .i64 ((IntKind.wrap .i64 ((IntKind.wrap .i64 (0 + ((p0e0.length : Nat) : Int))) + ((p0e1.length : Nat) : Int))) - 0))).toNat (0 : Int)).length) && fits ((cq4.2 - cq4.1) + p0e0.length) 8 then
  (bif fits (((List.replicate ((IntKind.wrap .i64 ((IntKind.wrap .i64 ((IntKind.wrap .i64 (0 + ((p0e0.length : Nat) : Int))) + ((p0e1.length : Nat) : Int))) - 0))).toNat (0 : Int)).take ((cq4.2 - cq4.1)) ++ p0e0).length + p0e1.length) 8 then
  some ([.one ((.ints .i64 (((List.replicate ((IntKind.wrap .i64 ((IntKind.wrap .i64 ((IntKind.wrap .i64 (0 + ((p0e0.length : Nat) : Int))) + ((p0e1.length : Nat) : Int))) - 0))).toNat (0 : Int)).take ((cq4.2 - cq4.1)) ++ p0e0) ++ p0e1)), true)], [])
  else
  none)
  else
  none)
  else
  none)
  else
  (bif fits p0e0.length 8 then
  (bif fits (p0e0.length + p0e1.length) 8 then
  some ([.one ((.ints .i64 (p0e0 ++ p0e1)), true)], [])
  else
  none)
  else
  none))))) := by kernel_rfl
end slices_Concat_int_int
theorem slices_Concat_int_int.ok_of (hX : ∀ E ∈ slices_Concat_int_int.X, CallSpec Try.prog E) (h : ∀ (xs : List Int) (ys : List Int), (szB xs && szB ys) = true → ∃ fuel, runF Try.prog slices_Concat_int_int.X slices_Concat_int_int.I 4 fuel 86 Try.f86 [.d (.seq 1 [(.ints .i64 xs), (.ints .i64 ys)])] = some ([.one ((.ints .i64 (xs ++ ys)), true)], [])) : CallSpec Try.prog slices_Concat_int_int.E :=
  callSpec_of (d := 4) hX (by kernel_rfl) slices_Concat_int_int.I_ok (by kernel_rfl) (by kernel_rfl) (by kernel_rfl) (fun _ _ _ _ h => by dsimp only [slices_Concat_int_int.E] at h; cases h) (fun xs hp => by
    dsimp only [slices_Concat_int_int.E] at hp ⊢
    split at hp
    · exact h _ _ hp
    · cases hp)
theorem slices_Concat_int_int.ok : CallSpec Try.prog slices_Concat_int_int.E := slices_Concat_int_int.ok_of (by simp [slices_Concat_int_int.X]) fun xs ys h => ⟨8, by
  simp only [Bool.and_eq_true] at h
  have h1 := szB_le h.1
  have h2 := szB_le h.2
  have e0 : IntKind.wrap .i64 (0 + ((xs.length : Nat) : Int)) = ((xs.length : Nat) : Int) := by rw [Int.zero_add, wN (by omega)]
  have e1 : IntKind.wrap .i64 (((xs.length : Nat) : Int) + ((ys.length : Nat) : Int)) = ((xs.length + ys.length : Nat) : Int) := wAdd (by omega)
  have e2 : IntKind.wrap .i64 (((xs.length + ys.length : Nat) : Int) - 0) = ((xs.length + ys.length : Nat) : Int) := by rw [Int.sub_zero, wN (by omega)]
  rw [slices_Concat_int_int.e, e0, e1, e2, decide_eq_false (p := ((xs.length : Nat) : Int) < 0) (by omega), decide_eq_false (p := ((xs.length + ys.length : Nat) : Int) < 0) (by omega), cond_false, cond_false, cond_false]
  by_cases h0 : ((xs.length + ys.length : Nat) : Int) > 0
  · rw [decide_eq_true h0, cond_true, Int.toNat_natCast, show (some (AV.imm (.int .i64 0)) : Option AV) = some (.imm (.int .i64 ((0 : Nat) : Int))) from rfl, cut_hi (Nat.le_refl 0), cut_hi (Nat.zero_le _)]
    simp only [Option.bind_some]
    rw [decide_eq_true (p := (0 : Int) ≤ ((xs.length + ys.length : Nat) : Int)) (by omega), fitsOk (by omega)]
    simp only [Nat.sub_self, List.take_zero, List.nil_append, Nat.zero_le, decide_true, Bool.and_self, Bool.true_and, cond_true, Nat.zero_add]
    rw [fitsOk (by omega), cond_true, fitsOk (by omega), cond_true]
  · rw [decide_eq_false h0, cond_false, fitsOk (by omega), cond_true, fitsOk (by omega), cond_true]⟩

namespace impl_lineOf
noncomputable def E : Entry := ⟨88, false, false, fun | [.d (.agg [(.ints .i64 sh), (.ints .i64 da)]), .d (.int .i64 k), .d (.int .i64 n)] => axB sh da k && lnB sh k n | _ => false, fun | [.d (.agg [(.ints .i64 sh), (.ints .i64 da)]), .d (.int .i64 k), .d (.int .i64 n)] => ([.one ((.ints .i64 (lnN sh da k n)), true)], []) | _ => ([], []), fun _ => [], true, fun _ => none⟩
end impl_lineOf
namespace impl_lineOf
noncomputable def X : List Entry := [impl_layoutOf.E]
noncomputable def I : List Inl := [⟨88, Try.f88, ⟨[16], [(1000006, [0, 1, 2, 4, 5, 6, 7, 8, 12, 13, 14, 15, 16, 17, 18, 19, 20, 21, 22, 23, 24, 25, 26, 27, 28, 29, 30, 31, 32, 33, 34, 35, 36, 37, 38, 39, 40, 41, 44, 45, 46, 47, 48, 49, 50, 51, 52, 53, 54, 55, 56, 57, 58, 59])], [], [(4, [0, 1, 2, 3, 4, 5, 8, 9, 10, 6, 7, 11, 12])], [], []⟩⟩]
theorem I_ok : ∀ i ∈ I, Try.prog.funcs[i.f]? = some i.fn ∧ (i.fn.name == "runtime.NumGoroutine") = false := by
  intro i hi
  simp only [I, List.mem_cons, List.not_mem_nil, or_false] at hi
  subst hi
  exact ⟨by kernel_rfl, by kernel_rfl⟩
noncomputable abbrev L0 (fuel n : Nat) (s : St) (k : Kont) := lAt Try.prog X I fuel true 0 false 88 (bodyOf Try.f88) [1, 1, 1, 1, 1, 0, 1, 0] n s k
noncomputable abbrev k0  (fuel : Nat) : Kont := (kAt Try.prog X I fuel true 0 false 88 (bodyOf Try.f88) [1, 1, 1, 1, 1, 0, 1, 0] [] (endK Try.prog Try.f88))
noncomputable def t0 (p0q0 : List Int) (p0q1 : List Int) (x0q0 : Int) (x0q1 : Int) (x0q2 : Int) (x0q3 : Int) (x0q6 : List Int) : St := ⟨[.dead, .dead, .dead, (.ptr 1000000000 0 0), .dead, .dead, .dead, .dead, .dead, (.imm (.int .i64 x0q0)), (.all 1000000001 1), (.imm (.int .i64 x0q1)), .dead, .dead, .dead, .dead, .dead, .dead, .dead, .dead, .dead, .dead, .dead, .dead, .dead, .dead, .dead, .dead, .dead, .dead, .dead, .dead, .dead, .dead, .dead, .dead, .dead, .dead, .dead, .dead, .dead, .dead, (.imm (.int .i64 x0q2)), (.imm (.int .i64 x0q3)), .dead, .dead, .dead, .dead, .dead, .dead, .dead, .dead, .dead, .dead, .dead, .dead, .dead, .dead, .dead, .dead], hOf [(1000000000, (.box [(.imm (.ints .i64 p0q0)), (.imm (.ints .i64 p0q1))])), (1000000001, (.ints .i64 x0q6))], [], []⟩
theorem e (fuel : Nat) (p0q0 : List Int) (p0q1 : List Int) (p1 : Int) (p2 : Int) : runF Try.prog X I 0 fuel 88 Try.f88 [.d (.agg [(.ints .i64 p0q0), (.ints .i64 p0q1)]), .d (.int .i64 p1), .d (.int .i64 p2)] =
  (bif decide (p0q0.length < 9223372036854775808) then
  (bif validS p0q0 then
  (bif decide (p1 = ((0 : Nat) : Int)) then
  (idx p1 p0q0.length).bind fun j17 =>
  (p0q0[j17]?).bind fun v18 =>
  (bif decide (0 ≤ (v18 : Int)) && decide ((v18 : Int) ≤ v18) && decide ((v18 : Int) ≤ 1152921504606846976) && decide (((8 : Nat) : Int) * v18 ≤ 281474976710656) then
  (bif decide (((strd p0q0 0) : Int) = 0) then
  none
  else
  (bif decide (((strd p0q0 0) : Int) = 0) then
  none
  else
  L0 fuel fuel (t0 p0q0 p0q1 ((strd p0q0 0)) ((IntKind.wrap .i64 ((IntKind.wrap .i64 ((IntKind.wrap .i64 ((IntKind.wrap .i64 (Int.tdiv p2 (strd p0q0 0))) * (strd p0q0 0))) * (((List.replicate (v18).toNat (0 : Int)).length : Nat) : Int))) + (Int.tmod p2 (strd p0q0 0))))) ((((List.replicate (v18).toNat (0 : Int)).length : Nat) : Int)) 0 ((List.replicate (v18).toNat (0 : Int)))) (k0  fuel)))
  else
  none)
  else
  (bif decide (p1 = ((1 : Nat) : Int)) then
  (idx p1 p0q0.length).bind fun j15 =>
  (p0q0[j15]?).bind fun v16 =>
  (bif decide (0 ≤ (v16 : Int)) && decide ((v16 : Int) ≤ v16) && decide ((v16 : Int) ≤ 1152921504606846976) && decide (((8 : Nat) : Int) * v16 ≤ 281474976710656) then
  (bif decide (((strd p0q0 1) : Int) = 0) then
  none
  else
  (bif decide (((strd p0q0 1) : Int) = 0) then
  none
  else
  L0 fuel fuel (t0 p0q0 p0q1 ((strd p0q0 1)) ((IntKind.wrap .i64 ((IntKind.wrap .i64 ((IntKind.wrap .i64 ((IntKind.wrap .i64 (Int.tdiv p2 (strd p0q0 1))) * (strd p0q0 1))) * (((List.replicate (v16).toNat (0 : Int)).length : Nat) : Int))) + (Int.tmod p2 (strd p0q0 1))))) ((((List.replicate (v16).toNat (0 : Int)).length : Nat) : Int)) 0 ((List.replicate (v16).toNat (0 : Int)))) (k0  fuel)))
  else
  none)
  else
  (bif decide (p1 = ((2 : Nat) : Int)) then
  (idx p1 p0q0.length).bind fun j13 =>
  (p0q0[j13]?).bind fun v14 =>
  (bif decide (0 ≤ (v14 : Int)) && decide ((v14 : Int) ≤ v14) && decide ((v14 : Int) ≤ 1152921504606846976) && decide (((8 : Nat) : Int) * v14 ≤ 281474976710656) then
  (bif decide (((strd p0q0 2) : Int) = 0) then
  none
  else
  (bif decide (((strd p0q0 2) : Int) = 0) then
  none
  else
  L0 fuel fuel (t0 p0q0 p0q1 ((strd p0q0 2)) ((IntKind.wrap .i64 ((IntKind.wrap .i64 ((IntKind.wrap .i64 ((IntKind.wrap .i64 (Int.tdiv p2 (strd p0q0 2))) * (strd p0q0 2))) * (((List.replicate (v14).toNat (0 : Int)).length : Nat) : Int))) + (Int.tmod p2 (strd p0q0 2))))) ((((List.replicate (v14).toNat (0 : Int)).length : Nat) : Int)) 0 ((List.replicate (v14).toNat (0 : Int)))) (k0  fuel)))
  else
  none)
  else
  none)))
  else
  (bif decide (p1 = ((0 : Nat) : Int)) then
  (idx p1 p0q0.length).bind fun j11 =>
  (p0q0[j11]?).bind fun v12 =>
  (bif decide (0 ≤ (v12 : Int)) && decide ((v12 : Int) ≤ v12) && decide ((v12 : Int) ≤ 1152921504606846976) && decide (((8 : Nat) : Int) * v12 ≤ 281474976710656) then
  (bif decide ((0 : Int) = 0) then
  none
  else
  (bif decide ((0 : Int) = 0) then
  none
  else
  L0 fuel fuel (t0 p0q0 p0q1 0 ((IntKind.wrap .i64 ((IntKind.wrap .i64 ((IntKind.wrap .i64 ((IntKind.wrap .i64 (Int.tdiv p2 0)) * 0)) * (((List.replicate (v12).toNat (0 : Int)).length : Nat) : Int))) + (Int.tmod p2 0)))) ((((List.replicate (v12).toNat (0 : Int)).length : Nat) : Int)) 0 ((List.replicate (v12).toNat (0 : Int)))) (k0  fuel)))
  else
  none)
  else
  (bif decide (p1 = ((1 : Nat) : Int)) then
  (idx p1 p0q0.length).bind fun j9 =>
  (p0q0[j9]?).bind fun v10 =>
  (bif decide (0 ≤ (v10 : Int)) && decide ((v10 : Int) ≤ v10) && decide ((v10 : Int) ≤ 1152921504606846976) && decide (((8 : Nat) : Int) * v10 ≤ 281474976710656) then
  (bif decide ((0 : Int) = 0) then
  none
  else
  (bif decide ((0 : Int) = 0) then
  none
  else
  L0 fuel fuel (t0 p0q0 p0q1 0 ((IntKind.wrap .i64 ((IntKind.wrap .i64 ((IntKind.wrap .i64 ((IntKind.wrap .i64 (Int.tdiv p2 0)) * 0)) * (((List.replicate (v10).toNat (0 : Int)).length : Nat) : Int))) + (Int.tmod p2 0)))) ((((List.replicate (v10).toNat (0 : Int)).length : Nat) : Int)) 0 ((List.replicate (v10).toNat (0 : Int)))) (k0  fuel)))
  else
  none)
  else
  (bif decide (p1 = ((2 : Nat) : Int)) then
  (idx p1 p0q0.length).bind fun j1 =>
  (p0q0[j1]?).bind fun v2 =>
  (bif decide (0 ≤ (v2 : Int)) && decide ((v2 : Int) ≤ v2) && decide ((v2 : Int) ≤ 1152921504606846976) && decide (((8 : Nat) : Int) * v2 ≤ 281474976710656) then
  (bif decide ((0 : Int) = 0) then
  none
  else
  (bif decide ((0 : Int) = 0) then
  none
  else
  L0 fuel fuel (t0 p0q0 p0q1 0 ((IntKind.wrap .i64 ((IntKind.wrap .i64 ((IntKind.wrap .i64 ((IntKind.wrap .i64 (Int.tdiv p2 0)) * 0)) * (((List.replicate (v2).toNat (0 : Int)).length : Nat) : Int))) + (Int.tmod p2 0)))) ((((List.replicate (v2).toNat (0 : Int)).length : Nat) : Int)) 0 ((List.replicate (v2).toNat (0 : Int)))) (k0  fuel)))
  else
  none)
  else
  none))))
  else
  none) := by kernel_rfl
theorem s0 (fuel n0 : Nat) (p0q0 : List Int) (p0q1 : List Int) (x0q0 : Int) (x0q1 : Int) (x0q2 : Int) (x0q3 : Int) (x0q6 : List Int) : L0 fuel (n0 + 1) (t0 p0q0 p0q1 x0q0 x0q1 x0q2 x0q3 x0q6) (k0  fuel) =
  (bif (decide ((x0q3 : Int) < x0q2)) then
  (idx (IntKind.wrap .i64 (x0q1 + (IntKind.wrap .i64 (x0q3 * x0q0)))) p0q1.length).bind fun j6 =>
  (p0q1[j6]?).bind fun v7 =>
  (idx x0q3 x0q6.length).bind fun j8 =>
  (bif decide (j8 < x0q6.length) then
  L0 fuel n0 (t0 p0q0 p0q1 x0q0 x0q1 x0q2 ((IntKind.wrap .i64 (x0q3 + 1))) ((x0q6.set j8 v7))) (k0  fuel)
  else
  none)
  else
  some ([.one ((.ints .i64 x0q6), true)], [])) := by kernel_rfl
end impl_lineOf
theorem impl_lineOf.ok_of (hX : ∀ E ∈ impl_lineOf.X, CallSpec Try.prog E) (h : ∀ (sh : List Int) (da : List Int) (k : Int) (n : Int), (axB sh da k && lnB sh k n) = true → ∃ fuel, runF Try.prog impl_lineOf.X impl_lineOf.I 0 fuel 88 Try.f88 [.d (.agg [(.ints .i64 sh), (.ints .i64 da)]), .d (.int .i64 k), .d (.int .i64 n)] = some ([.one ((.ints .i64 (lnN sh da k n)), true)], [])) : CallSpec Try.prog impl_lineOf.E :=
  callSpec_of (d := 0) hX (by kernel_rfl) impl_lineOf.I_ok (by kernel_rfl) (by kernel_rfl) (by kernel_rfl) (fun _ _ _ _ h => by dsimp only [impl_lineOf.E] at h; cases h) (fun xs hp => by
    dsimp only [impl_lineOf.E] at hp ⊢
    split at hp
    · exact h _ _ _ _ hp
    · cases hp)
theorem impl_lineOf.loop (fuel : Nat) (sh da : List Int) (k i m : Nat) (ax : Ax sh k) (hd : da.length = befN sh k * lenN sh k * behN sh k) (hi : i < befN sh k) (hm : m < behN sh k) (hf : 60 < fuel) :
    impl_lineOf.L0 fuel fuel (impl_lineOf.t0 sh da ((behN sh k : Nat) : Int) ((i * behN sh k * lenN sh k + m : Nat) : Int) ((lenN sh k : Nat) : Int) 0 (List.replicate (lenN sh k) 0)) (impl_lineOf.k0 fuel) = some ([.one ((.ints .i64 (lnD (lenN sh k) (behN sh k) da i m)), true)], []) := by
  have hL := ax.len_le
  have hlk := ax.lt
  have hle := ax.le
  have hA := lnD_length (lenN sh k) (behN sh k) da i m
  refine run_loop (N := lenN sh k) (fun n j out => impl_lineOf.L0 fuel n (impl_lineOf.t0 sh da ((behN sh k : Nat) : Int) ((i * behN sh k * lenN sh k + m : Nat) : Int) ((lenN sh k : Nat) : Int) (j : Int) out) (impl_lineOf.k0 fuel)) (fun j out => out = part (lnD (lenN sh k) (behN sh k) da i m) j) ?_ ?_ fuel 0 _ (by omega) (by omega) (by rw [part_zero, hA])
  · intro n out ho
    rw [show lenN sh k = (lnD (lenN sh k) (behN sh k) da i m).length from hA.symm] at ho
    simp only [hA] at ho
    have hall := part_all (lnD (lenN sh k) (behN sh k) da i m)
    rw [hA] at hall
    rw [hall] at ho
    rw [impl_lineOf.s0, decide_eq_false (by omega), ho]
    rfl
  · intro n j out hj ho
    have hol : out.length = lenN sh k := by rw [ho, part_length (by omega), hA]
    obtain ⟨e1, _, _, _⟩ := enc3 hi hj hm
    have hix : i * behN sh k * lenN sh k + m + j * behN sh k = (i * lenN sh k + j) * behN sh k + m := by
      rw [Nat.add_mul, Nat.mul_right_comm]; omega
    rw [impl_lineOf.s0, dlt hj, cond_true, wMul (by omega), wAdd (by omega), hix, idx_nat (by omega), idx_nat (by omega), w1 (by omega)]
    simp only [Option.bind_some, getD_get (show (i * lenN sh k + j) * behN sh k + m < da.length by omega)]
    rw [decide_eq_true (by omega), cond_true]
    refine ⟨_, ?_, rfl⟩
    rw [ho, part_set (by omega)]
    exact tab_getD hj
theorem impl_lineOf.ok : CallSpec Try.prog impl_lineOf.E := impl_lineOf.ok_of (by simp [impl_lineOf.X, impl_layoutOf.ok]) fun sh da k n h => by
  obtain ⟨F, hF⟩ : ∃ F : Nat, 60 < F := ⟨61, by omega⟩
  refine ⟨F, ?_⟩
  simp only [Bool.and_eq_true, lnB, decide_eq_true_eq] at h
  obtain ⟨j, rfl, hj, hv, ax, hd, hl⟩ := axB_inv h.1
  rw [Int.toNat_natCast] at h
  have hB := validA_inv hv
  have hr := ax.rank
  have hL := ax.len_le
  have hM := ax.beh_le
  have hBe := ax.bef_le
  have hst := strd_beh ax
  obtain ⟨n', rfl⟩ : ∃ n' : Nat, n = n' := ⟨n.toNat, by omega⟩
  have hn : n' < befN sh j * behN sh j := by omega
  obtain ⟨d1, d2, d3⟩ := dec2 hn
  have hbm : befN sh j * behN sh j ≤ 3600 * 3600 := Nat.mul_le_mul hBe hM
  have hdm : n' / behN sh j * behN sh j ≤ 3600 * 3600 := by omega
  have hdl : n' / behN sh j * behN sh j * lenN sh j ≤ 3600 * 3600 * 60 := Nat.mul_le_mul hdm hL
  have key := impl_lineOf.loop F sh da j (n' / behN sh j) (n' % behN sh j) ax hd d1 d2 (by omega)
  rw [impl_lineOf.e, lt_of (by omega), cond_true, hB.1, cond_true]
  simp only [lnN, lnK, Int.toNat_natCast]
  have main : ∀ m, m = strd sh j → ((idx (j : Int) sh.length).bind fun j17 => (sh[j17]?).bind fun v18 =>
      (bif decide (0 ≤ (v18 : Int)) && decide ((v18 : Int) ≤ v18) && decide ((v18 : Int) ≤ 1152921504606846976) && decide (((8 : Nat) : Int) * v18 ≤ 281474976710656) then
      (bif decide ((m : Int) = 0) then none else (bif decide ((m : Int) = 0) then none else
      impl_lineOf.L0 F F (impl_lineOf.t0 sh da m ((IntKind.wrap .i64 ((IntKind.wrap .i64 ((IntKind.wrap .i64 ((IntKind.wrap .i64 (Int.tdiv (n' : Int) m)) * m)) * (((List.replicate (v18).toNat (0 : Int)).length : Nat) : Int))) + (Int.tmod (n' : Int) m)))) ((((List.replicate (v18).toNat (0 : Int)).length : Nat) : Int)) 0 ((List.replicate (v18).toNat (0 : Int)))) (impl_lineOf.k0 F)))
      else none)) = some ([.one ((.ints .i64 (lnD (lenN sh j) (behN sh j) da (n' / behN sh j) (n' % behN sh j))), true)], []) := by
    rintro m rfl
    rw [idx_nat hj]
    simp only [Option.bind_some, getD_get hj, ax.len]
    rw [mkOk (by omega) (by omega), cond_true, hst, decide_eq_false (by omega), cond_false, cond_false, Int.toNat_natCast, List.length_replicate, tdivN, tmodN, wN (n := n' / behN sh j) (by omega), wMul (by omega), wMul (by omega), wAdd (by omega)]
    exact key
  match j, main, hj with
  | 0, main, _ => rw [decide_eq_true (p := ((0 : Nat) : Int) = ((0 : Nat) : Int)) rfl, cond_true]; exact main _ rfl
  | 1, main, _ => rw [decide_eq_false (p := ((1 : Nat) : Int) = ((0 : Nat) : Int)) (by omega), cond_false, decide_eq_true (p := ((1 : Nat) : Int) = ((1 : Nat) : Int)) rfl, cond_true]; exact main _ rfl
  | 2, main, _ => rw [decide_eq_false (p := ((2 : Nat) : Int) = ((0 : Nat) : Int)) (by omega), cond_false, decide_eq_false (p := ((2 : Nat) : Int) = ((1 : Nat) : Int)) (by omega), cond_false, decide_eq_true (p := ((2 : Nat) : Int) = ((2 : Nat) : Int)) rfl, cond_true]; exact main _ rfl
  | j + 3, _, hj => exact absurd hj (by omega)

namespace impl_pairwise
noncomputable def E : Entry := ⟨53, false, false, fun | [.d (.fn false dom G), .d (.ints .i64 xs), .d (.ints .i64 ys)] => szB xs && decide (xs.length ≤ ys.length) && pwB dom xs ys | _ => false, fun | [.d (.fn false dom G), .d (.ints .i64 xs), .d (.ints .i64 ys)] => ([.one ((.ints .i64 (pwD G xs ys)), true)], []) | _ => ([], []), fun _ => [], true, fun _ => none⟩
end impl_pairwise
namespace impl_pairwise
noncomputable def X : List Entry := []
noncomputable def I : List Inl := [⟨53, Try.f53, ⟨[], [(1000003, [3, 4, 5, 6, 8, 9, 10, 11, 12, 15, 16, 17, 18, 19, 20, 21, 22, 23, 24, 25, 26, 27, 28, 29, 30, 31])], [], [(5, [0, 1, 2, 3, 4, 7, 8, 5, 6, 9, 10, 11, 12, 13])], [], []⟩⟩]
theorem I_ok : ∀ i ∈ I, Try.prog.funcs[i.f]? = some i.fn ∧ (i.fn.name == "runtime.NumGoroutine") = false := by
  intro i hi
  simp only [I, List.mem_cons, List.not_mem_nil, or_false] at hi
  subst hi
  exact ⟨by kernel_rfl, by kernel_rfl⟩
noncomputable abbrev L0 (fuel n : Nat) (s : St) (k : Kont) := lAt Try.prog X I fuel true 0 false 53 (bodyOf Try.f53) [1, 1, 0, 1, 0] n s k
noncomputable abbrev k0  (fuel : Nat) : Kont := (kAt Try.prog X I fuel true 0 false 53 (bodyOf Try.f53) [1, 1, 0, 1, 0] [] (endK Try.prog Try.f53))
noncomputable def t0 (p0d : List Q → Bool) (p0g : List Q → Int) (p1 : List Int) (p2 : List Int) (x0q5 : Int) (x0q6 : List Int) : St := ⟨[(.imm (.fn false p0d p0g)), (.imm (.ints .i64 p1)), (.imm (.ints .i64 p2)), .dead, .dead, .dead, .dead, (.all 1000000000 1), .dead, .dead, .dead, .dead, .dead, (.imm (.int .i64 (((List.replicate (((p1.length : Nat) : Int)).toNat (0 : Int)).length : Nat) : Int))), (.imm (.int .i64 x0q5)), .dead, .dead, .dead, .dead, .dead, .dead, .dead, .dead, .dead, .dead, .dead, .dead, .dead, .dead, .dead, .dead, .dead], hOf [(1000000000, (.ints .i64 x0q6))], [], []⟩
theorem e (fuel : Nat) (p0d : List Q → Bool) (p0g : List Q → Int) (p1 : List Int) (p2 : List Int) : runF Try.prog X I 0 fuel 53 Try.f53 [.d (.fn false p0d p0g), .d (.ints .i64 p1), .d (.ints .i64 p2)] =
  (bif decide (0 ≤ (((p1.length : Nat) : Int) : Int)) && decide ((((p1.length : Nat) : Int) : Int) ≤ ((p1.length : Nat) : Int)) && decide ((((p1.length : Nat) : Int) : Int) ≤ 1152921504606846976) && decide (((8 : Nat) : Int) * ((p1.length : Nat) : Int) ≤ 281474976710656) then
  L0 fuel fuel (t0 p0d p0g p1 p2 0 ((List.replicate (((p1.length : Nat) : Int)).toNat (0 : Int)))) (k0  fuel)
  else
  none) := by kernel_rfl
theorem s0 (fuel n0 : Nat) (p0d : List Q → Bool) (p0g : List Q → Int) (p1 : List Int) (p2 : List Int) (x0q5 : Int) (x0q6 : List Int) : L0 fuel (n0 + 1) (t0 p0d p0g p1 p2 x0q5 x0q6) (k0  fuel) =
  (bif (decide ((x0q5 : Int) < (((List.replicate (((p1.length : Nat) : Int)).toNat (0 : Int)).length : Nat) : Int))) then
  (idx x0q5 p1.length).bind fun j11 =>
  (p1[j11]?).bind fun v12 =>
  (idx x0q5 p2.length).bind fun j13 =>
  (p2[j13]?).bind fun v14 =>
  (bif (p0d [Q.i v12, Q.i v14]) then
  (idx x0q5 x0q6.length).bind fun j15 =>
  (bif decide (j15 < x0q6.length) then
  L0 fuel n0 (t0 p0d p0g p1 p2 ((IntKind.wrap .i64 (x0q5 + 1))) ((x0q6.set j15 (p0g [Q.i v12, Q.i v14])))) (k0  fuel)
  else
  none)
  else
  none)
  else
  some ([.one ((.ints .i64 x0q6), true)], [])) := by kernel_rfl
end impl_pairwise
theorem impl_pairwise.ok_of (hX : ∀ E ∈ impl_pairwise.X, CallSpec Try.prog E) (h : ∀ (dom : List Q → Bool) (G : List Q → Int) (xs : List Int) (ys : List Int), (szB xs && decide (xs.length ≤ ys.length) && pwB dom xs ys) = true → ∃ fuel, runF Try.prog impl_pairwise.X impl_pairwise.I 0 fuel 53 Try.f53 [.d (.fn false dom G), .d (.ints .i64 xs), .d (.ints .i64 ys)] = some ([.one ((.ints .i64 (pwD G xs ys)), true)], [])) : CallSpec Try.prog impl_pairwise.E :=
  callSpec_of (d := 0) hX (by kernel_rfl) impl_pairwise.I_ok (by kernel_rfl) (by kernel_rfl) (by kernel_rfl) (fun _ _ _ _ h => by dsimp only [impl_pairwise.E] at h; cases h) (fun xs hp => by
    dsimp only [impl_pairwise.E] at hp ⊢
    split at hp
    · exact h _ _ _ _ hp
    · cases hp)
theorem impl_pairwise.ok : CallSpec Try.prog impl_pairwise.E := impl_pairwise.ok_of (by simp [impl_pairwise.X]) fun dom G xs ys h => ⟨xs.length + 1, by
  simp only [Bool.and_eq_true, decide_eq_true_eq] at h
  have hx := szB_le h.1.1
  have hA : (pwD G xs ys).length = xs.length := tab_length _ _
  rw [impl_pairwise.e, mkOk (by omega) (by omega), cond_true]
  refine run_loop (N := xs.length) (fun n j out => impl_pairwise.L0 (xs.length + 1) n (impl_pairwise.t0 dom G xs ys (j : Int) out) (impl_pairwise.k0 (xs.length + 1))) (fun j out => out = part (pwD G xs ys) j) ?_ ?_ (xs.length + 1) 0 _ (by omega) (by omega) (by rw [part_zero, hA]; rfl)
  · intro n out ho
    rw [← hA, part_all] at ho
    rw [impl_pairwise.s0, List.length_replicate, Int.toNat_natCast, dge (by omega), ho]
    rfl
  · intro n j out hj ho
    have hol : out.length = xs.length := by rw [ho, part_length (by omega), hA]
    have hy : j < ys.length := by omega
    rw [impl_pairwise.s0, List.length_replicate, Int.toNat_natCast, dlt hj, idx_nat hj, idx_nat hy, idx_nat (by omega), w1 (by omega)]
    simp only [cond_true, Option.bind_some, getD_get hj, getD_get hy]
    rw [pwB_get h.2 hj, decide_eq_true (by omega)]
    refine ⟨_, ?_, rfl⟩
    rw [ho, part_set (by omega)]
    exact tab_getD hj⟩

namespace impl_InnerProduct_1
noncomputable def E : Entry := ⟨87, true, false, fun | [.d (.int .i64 n), .d (.pbox [(.ints .i64 sa), (.ints .i64 da)]), .d (.pbox [(.int .i64 la)]), .d (.pbox [(.int .i64 co)]), .d (.pbox [(.ints .i64 sb), (.ints .i64 db)]), .d (.pbox [(.fn false dr Gr)]), .d (.pbox [(.fn false dp Gp)])] => inP dr dp Gp sa da la co sb db n | _ => false, fun | [.d (.int .i64 n), .d (.pbox [(.ints .i64 sa), (.ints .i64 da)]), .d (.pbox [(.int .i64 la)]), .d (.pbox [(.int .i64 co)]), .d (.pbox [(.ints .i64 sb), (.ints .i64 db)]), .d (.pbox [(.fn false dr Gr)]), .d (.pbox [(.fn false dp Gp)])] => ([.one ((.int .i64 (Gr [.l (inL Gp sa da sb db n.toNat)])), false)], []) | _ => ([], []), fun _ => [], false, fun _ => none⟩
end impl_InnerProduct_1
namespace impl_InnerProduct_1
noncomputable def X : List Entry := [impl_lineOf.E, impl_pairwise.E]
noncomputable def I : List Inl := [⟨87, Try.f87, ⟨[16, 21, 26], [], [], [(1, [2, 7, 0, 1, 3, 4, 6, 8, 9, 5, 10, 11, 12]), (2, [2, 3, 0, 1, 4, 5, 6])], [], []⟩⟩]
theorem I_ok : ∀ i ∈ I, Try.prog.funcs[i.f]? = some i.fn ∧ (i.fn.name == "runtime.NumGoroutine") = false := by
  intro i hi
  simp only [I, List.mem_cons, List.not_mem_nil, or_false] at hi
  subst hi
  exact ⟨by kernel_rfl, by kernel_rfl⟩
theorem e (fuel : Nat) (p0 : Int) (f0q0 : List Int) (f0q1 : List Int) (f1q0 : Int) (f2q0 : Int) (f3q0 : List Int) (f3q1 : List Int) (f4q0d : List Q → Bool) (f4q0g : List Q → Int) (f5q0d : List Q → Bool) (f5q0g : List Q → Int) : runF Try.prog X I 0 fuel 87 Try.f87 [.d (.int .i64 p0), .d (.pbox [(.ints .i64 f0q0), (.ints .i64 f0q1)]), .d (.pbox [(.int .i64 f1q0)]), .d (.pbox [(.int .i64 f2q0)]), .d (.pbox [(.ints .i64 f3q0), (.ints .i64 f3q1)]), .d (.pbox [(.fn false f4q0d f4q0g)]), .d (.pbox [(.fn false f5q0d f5q0g)])] =
  (bif decide ((f2q0 : Int) = 0) then
  none
  else
  (bif decide ((f2q0 : Int) = 0) then
  none
  else
  (bif axB f0q0 f0q1 f1q0 && lnB f0q0 f1q0 ((IntKind.wrap .i64 (Int.tdiv p0 f2q0))) then
  (bif axB f3q0 f3q1 0 && lnB f3q0 0 ((Int.tmod p0 f2q0)) then
  (bif szB ((lnN f0q0 f0q1 f1q0 ((IntKind.wrap .i64 (Int.tdiv p0 f2q0))))) && decide (((lnN f0q0 f0q1 f1q0 ((IntKind.wrap .i64 (Int.tdiv p0 f2q0))))).length ≤ ((lnN f3q0 f3q1 0 ((Int.tmod p0 f2q0)))).length) && pwB f5q0d ((lnN f0q0 f0q1 f1q0 ((IntKind.wrap .i64 (Int.tdiv p0 f2q0))))) ((lnN f3q0 f3q1 0 ((Int.tmod p0 f2q0)))) then
  (bif (f4q0d [Q.l ((pwD f5q0g ((lnN f0q0 f0q1 f1q0 ((IntKind.wrap .i64 (Int.tdiv p0 f2q0))))) ((lnN f3q0 f3q1 0 ((Int.tmod p0 f2q0))))))]) then
  some ([.one ((.int .i64 (f4q0g [Q.l ((pwD f5q0g ((lnN f0q0 f0q1 f1q0 ((IntKind.wrap .i64 (Int.tdiv p0 f2q0))))) ((lnN f3q0 f3q1 0 ((Int.tmod p0 f2q0))))))])), false)], [])
  else
  none)
  else
  none)
  else
  none)
  else
  none))) := by kernel_rfl
end impl_InnerProduct_1
theorem impl_InnerProduct_1.ok_of (hX : ∀ E ∈ impl_InnerProduct_1.X, CallSpec Try.prog E) (h : ∀ (n : Int) (sa : List Int) (da : List Int) (la : Int) (co : Int) (sb : List Int) (db : List Int) (dr : List Q → Bool) (Gr : List Q → Int) (dp : List Q → Bool) (Gp : List Q → Int), (inP dr dp Gp sa da la co sb db n) = true → ∃ fuel, runF Try.prog impl_InnerProduct_1.X impl_InnerProduct_1.I 0 fuel 87 Try.f87 [.d (.int .i64 n), .d (.pbox [(.ints .i64 sa), (.ints .i64 da)]), .d (.pbox [(.int .i64 la)]), .d (.pbox [(.int .i64 co)]), .d (.pbox [(.ints .i64 sb), (.ints .i64 db)]), .d (.pbox [(.fn false dr Gr)]), .d (.pbox [(.fn false dp Gp)])] = some ([.one ((.int .i64 (Gr [.l (inL Gp sa da sb db n.toNat)])), false)], [])) : CallSpec Try.prog impl_InnerProduct_1.E :=
  callSpec_of (d := 0) hX (by kernel_rfl) impl_InnerProduct_1.I_ok (by kernel_rfl) (by kernel_rfl) (by kernel_rfl) (fun _ _ _ _ h => by dsimp only [impl_InnerProduct_1.E] at h; cases h) (fun xs hp => by
    dsimp only [impl_InnerProduct_1.E] at hp ⊢
    split at hp
    · exact h _ _ _ _ _ _ _ _ _ _ _ hp
    · cases hp)
theorem impl_InnerProduct_1.ok : CallSpec Try.prog impl_InnerProduct_1.E := impl_InnerProduct_1.ok_of (by simp [impl_InnerProduct_1.X, impl_lineOf.ok, impl_pairwise.ok]) fun n sa da la co sb db dr Gr dp Gp h => ⟨0, by
  simp only [inP, Bool.and_eq_true, decide_eq_true_eq] at h
  obtain ⟨⟨⟨⟨⟨⟨rfl, rfl⟩, hA⟩, h0⟩, h1⟩, hp⟩, hd⟩ := h
  obtain ⟨n', rfl⟩ : ∃ n' : Nat, n = n' := ⟨n.toNat, by omega⟩
  rw [Int.toNat_natCast] at hp hd
  have hn : n' < prodN (inSh sa sb) := by omega
  obtain ⟨a1, a2, a3, a4, a5, a6, a7⟩ := inA_inv hA
  obtain ⟨e1, e2, e3, e4⟩ := inN_at hA hn
  obtain ⟨b1, b2, b3, b4, b5⟩ := inX_eq hA hn
  have hle : n' / behN sb 0 ≤ n' := Nat.div_le_self _ _
  have f1 := wN (n := n' / behN sb 0) (by omega)
  have p1 : ¬ (((behN sb 0 : Nat) : Int) = 0) := by omega
  have l1 := inX_length (sa := sa) (da := da) (sb := sb) (n := n') a5
  have l2 := inY_length (sb := sb) (db := db) (n := n')
  obtain ⟨j, hj, hj2, hv, ax, _⟩ := axB_inv a2
  have hj0 : j = 0 := by omega
  subst hj0
  have hL := ax.len_le
  have z1 := szB_of (xs := inX sa da sb n') (by omega)
  have z2 : decide ((inX sa da sb n').length ≤ (inY sb db n').length) = true := decide_eq_true (by omega)
  rw [impl_InnerProduct_1.e]
  simp only [tdivN, tmodN, f1, e1, e2, e3, e4, a1, a2, z1, z2, hp, Bool.and_self, cond_true, Int.toNat_natCast]
  rw [decide_eq_false p1, cond_false, cond_false]
  rw [inL] at hd
  rw [hd]
  rfl⟩

namespace impl_InnerProduct
noncomputable def E : Entry := ⟨67, false, false, fun | [.d (.int .i64 f), .d (.int .i64 g), .d (.agg [(.ints .i64 sa), (.ints .i64 da)]), .d (.agg [(.ints .i64 sb), (.ints .i64 db)])] => decide (sa.length < 9223372036854775808) && decide (da.length < 9223372036854775808) && decide (sb.length < 9223372036854775808) && decide (db.length < 9223372036854775808) | _ => false, fun | [.d (.int .i64 f), .d (.int .i64 g), .d (.agg [(.ints .i64 sa), (.ints .i64 da)]), .d (.agg [(.ints .i64 sb), (.ints .i64 db)])] => ([.agg [((.ints .i64 (inS f g sa da sb db)), true), ((.ints .i64 (inD f g sa da sb db)), true)], .one ((.bool (inB f g sa da sb db)), false)], []) | _ => ([], []), fun _ => [], true, fun _ => none⟩
end impl_InnerProduct
namespace impl_InnerProduct
noncomputable def X : List Entry := [impl_reductionOf.E, impl_functionOfTwo_f.E, impl_axisLength.E, impl_layoutOf_j.E, slices_Concat_int_int.E, impl_InnerProduct_1.E]
noncomputable def I : List Inl := [⟨67, Try.f67, ⟨[62, 76, 78], [(9, [0, 1, 2, 3, 4, 5, 9, 13, 14, 15, 16, 17, 18, 20, 21, 22, 23, 24, 25, 26, 27, 28, 29, 30, 31, 32, 33, 34, 35, 36, 37, 38, 39, 40, 41, 42, 43, 44, 45, 46, 47, 48, 49, 50, 51, 52, 53, 54, 55, 56, 57, 58, 59, 60, 61, 62, 63, 64, 65, 66, 67, 68, 69, 70, 71, 72, 73, 74, 75, 76, 77, 78, 79, 80])], [(9, [6, 12, 19, 7, 10, 11])], [(9, [0, 4, 9, 1, 2, 3, 5, 6, 7, 8, 10, 11, 12, 13, 14])], [75], [78]⟩⟩, ⟨29, Try.f29, ⟨[12], [(1000006, [2, 3, 5, 6, 7, 9, 10, 11, 12, 13, 14, 15, 16, 17, 18, 19, 20, 21, 24, 25, 26, 27, 28, 29, 30, 31, 32, 33, 34, 35])], [], [], [], []⟩⟩]
theorem I_ok : ∀ i ∈ I, Try.prog.funcs[i.f]? = some i.fn ∧ (i.fn.name == "runtime.NumGoroutine") = false := by
  intro i hi
  simp only [I, List.mem_cons, List.not_mem_nil, or_false] at hi
  rcases hi with rfl | rfl
  all_goals exact ⟨by kernel_rfl, by kernel_rfl⟩
noncomputable abbrev L0 (fuel n : Nat) (s : St) (k : Kont) := lAt Try.prog X I fuel true 3 false 29 (bodyOf Try.f29) [1, 1, 1, 1, 0, 1, 0] n s k
noncomputable abbrev k0  (fuel : Nat) : Kont := (kAt Try.prog X I fuel true 3 false 29 (bodyOf Try.f29) [1, 1, 1, 1, 0, 1, 0] [] (endFn Try.prog Try.f29 81 (kOp Try.prog X I fuel true 4 67 (cAt (bodyOf Try.f67) [1, 1, 1, 1, 1, 1, 1, 1, 0]) 10 (kAt Try.prog X I fuel true 4 false 67 (bodyOf Try.f67) [1, 1, 1, 1, 1, 1, 1, 1, 0] [] (endK Try.prog Try.f67)))))
noncomputable def t0 (p2q0 : List Int) (p2q1 : List Int) (p3q0 : List Int) (p3q1 : List Int) (p0 : Int) (p1 : Int) (x0q3 : Int) (x0q10 : Int) (x0q11 : Int) (x0q12 : List Int) (x0q13 : List Int) (x0q23 : Int) (x0q28 : List Int) (x0q32 : List Int) (x0q33 : List Int) (x0q34 : List Int) (x0q38 : Int) : St := ⟨[(.all 1000000001 1), (.imm (.clo 87 [(.pbox [(.ints .i64 p2q0), (.ints .i64 p2q1)]), (.pbox [(.int .i64 (IntKind.wrap .i64 (((p2q0.length : Nat) : Int) - 1)))]), (.pbox [(.int .i64 x0q3)]), (.pbox [(.ints .i64 p3q0), (.ints .i64 p3q1)]), (.pbox [(.fn false ql ((qlv (redF p0))))]), (.pbox [(.fn false q2 ((q2v (operF p1))))])])), .dead, .dead, (.ptr 1000000002 0 0), .dead, .dead, .dead, (.all 1000000003 1), .dead, .dead, .dead, .dead, .dead, .dead, .dead, .dead, .dead, .dead, .dead, .dead, .dead, (.imm (.int .i64 x0q10)), (.imm (.int .i64 x0q11)), .dead, .dead, .dead, .dead, .dead, .dead, .dead, .dead, .dead, .dead, .dead, .dead], hOf [(1000000000, (.box [(.imm .nils), (.imm .nils)])), (1000000001, (.ints .i64 x0q12)), (1000000002, (.box [(.imm .nils), (.imm .nils)])), (1000000003, (.ints .i64 x0q13))], [.dead, .dead, .dead, .dead, .dead, .dead, (.dptr [(.ints .i64 p2q0), (.ints .i64 p2q1)] 0), (.dptr [(.ints .i64 p3q0), (.ints .i64 p3q1)] 0), (.ptr 1000000000 0 0), .dead, (.dptr [(.fn false ql ((qlv (redF p0))))] 0), (.dptr [(.fn false q2 ((q2v (operF p1))))] 0), (.dptr [(.int .i64 (IntKind.wrap .i64 (((p2q0.length : Nat) : Int) - 1)))] 0), .dead, .dead, .dead, .dead, .dead, .dead, (.dptr [(.int .i64 x0q23)] 0), .dead, .dead, .dead, .dead, .dead, .dead, .dead, .dead, .dead, .dead, .dead, .dead, .dead, .dead, .dead, .dead, .dead, .dead, .dead, .dead, .dead, .dead, .dead, .dead, .dead, .dead, .dead, .dead, .dead, .dead, .dead, .dead, .dead, .dead, .dead, .dead, .dead, .dead, .dead, .dead, .dead, .dead, .dead, .dead, .dead, .dead, .dead, .dead, (.dptr [(.ints .i64 p2q0), (.ints .i64 p2q1)] 0), (.imm (.ints .i64 p2q0)), (.imm (.int .i64 (IntKind.wrap .i64 (((p2q0.length : Nat) : Int) - 1)))), (.imm (.ints .i64 x0q28)), (.dptr [(.ints .i64 p3q0), (.ints .i64 p3q1)] 0), (.imm (.ints .i64 p3q0)), (.imm (.ints .i64 x0q32)), (.imm (.seq 1 [(.ints .i64 x0q33), (.ints .i64 x0q34)])), (.all 1000000001 1), (.imm (.clo 87 [(.pbox [(.ints .i64 p2q0), (.ints .i64 p2q1)]), (.pbox [(.int .i64 (IntKind.wrap .i64 (((p2q0.length : Nat) : Int) - 1)))]), (.pbox [(.int .i64 x0q38)]), (.pbox [(.ints .i64 p3q0), (.ints .i64 p3q1)]), (.pbox [(.fn false ql ((qlv (redF p0))))]), (.pbox [(.fn false q2 ((q2v (operF p1))))])])), .dead, .dead, .dead, (.tup [])], []⟩
theorem e (fuel : Nat) (p0 : Int) (p1 : Int) (p2q0 : List Int) (p2q1 : List Int) (p3q0 : List Int) (p3q1 : List Int) : runF Try.prog X I 4 fuel 67 Try.f67 [.d (.int .i64 p0), .d (.int .i64 p1), .d (.agg [(.ints .i64 p2q0), (.ints .i64 p2q1)]), .d (.agg [(.ints .i64 p3q0), (.ints .i64 p3q1)])] =
  (bif opOk p0 then
  (bif opOk p1 then
  (bif decide (p2q0.length < 9223372036854775808) && decide (p2q1.length < 9223372036854775808) then
  (bif decide (p3q0.length < 9223372036854775808) && decide (p3q1.length < 9223372036854775808) then
  (bif (!(axB p2q0 p2q1 ((IntKind.wrap .i64 (((p2q0.length : Nat) : Int) - 1))))) then
  some ([.agg [((.ints .i64 []), true), ((.ints .i64 []), true)], .one ((.bool false), false)], [])
  else
  (bif (!(axB p3q0 p3q1 0)) then
  some ([.agg [((.ints .i64 []), true), ((.ints .i64 []), true)], .one ((.bool false), false)], [])
  else
  (bif (((axL p2q0 p2q1 ((IntKind.wrap .i64 (((p2q0.length : Nat) : Int) - 1)))) : Int) != (axL p3q0 p3q1 0)) then
  some ([.agg [((.ints .i64 []), true), ((.ints .i64 []), true)], .one ((.bool false), false)], [])
  else
  (bif decide (p3q0.length < 9223372036854775808) then
  (bif validS p3q0 then
  (cutEnds p2q0.length (none) (some (.imm (.int .i64 (IntKind.wrap .i64 (((p2q0.length : Nat) : Int) - 1)))))).bind fun cq5 =>
  (cutEnds p3q0.length (some (.imm (.int .i64 1))) (none)).bind fun cq6 =>
  (bif szB (((p2q0.drop cq5.1).take (cq5.2 - cq5.1))) && szB (((p3q0.drop cq6.1).take (cq6.2 - cq6.1))) then
  (bif decide ((((((p2q0.drop cq5.1).take (cq5.2 - cq5.1))) ++ (((p3q0.drop cq6.1).take (cq6.2 - cq6.1))))).length < 9223372036854775808) then
  (bif validS (((((p2q0.drop cq5.1).take (cq5.2 - cq5.1))) ++ (((p3q0.drop cq6.1).take (cq6.2 - cq6.1))))) then
  (bif decide (0 ≤ ((volW (((((p2q0.drop cq5.1).take (cq5.2 - cq5.1))) ++ (((p3q0.drop cq6.1).take (cq6.2 - cq6.1)))))) : Int)) && decide (((volW (((((p2q0.drop cq5.1).take (cq5.2 - cq5.1))) ++ (((p3q0.drop cq6.1).take (cq6.2 - cq6.1)))))) : Int) ≤ (volW (((((p2q0.drop cq5.1).take (cq5.2 - cq5.1))) ++ (((p3q0.drop cq6.1).take (cq6.2 - cq6.1))))))) && decide (((volW (((((p2q0.drop cq5.1).take (cq5.2 - cq5.1))) ++ (((p3q0.drop cq6.1).take (cq6.2 - cq6.1)))))) : Int) ≤ 1152921504606846976) && decide (((8 : Nat) : Int) * (volW (((((p2q0.drop cq5.1).take (cq5.2 - cq5.1))) ++ (((p3q0.drop cq6.1).take (cq6.2 - cq6.1)))))) ≤ 281474976710656) then
  L0 fuel fuel (t0 p2q0 p2q1 p3q0 p3q1 p0 p1 ((strd p3q0 0)) ((((List.replicate ((volW (((((p2q0.drop cq5.1).take (cq5.2 - cq5.1))) ++ (((p3q0.drop cq6.1).take (cq6.2 - cq6.1))))))).toNat (0 : Int)).length : Nat) : Int)) 0 (((((p2q0.drop cq5.1).take (cq5.2 - cq5.1))) ++ (((p3q0.drop cq6.1).take (cq6.2 - cq6.1))))) ((List.replicate ((volW (((((p2q0.drop cq5.1).take (cq5.2 - cq5.1))) ++ (((p3q0.drop cq6.1).take (cq6.2 - cq6.1))))))).toNat (0 : Int))) ((strd p3q0 0)) (((p2q0.drop cq5.1).take (cq5.2 - cq5.1))) (((p3q0.drop cq6.1).take (cq6.2 - cq6.1))) (((p2q0.drop cq5.1).take (cq5.2 - cq5.1))) (((p3q0.drop cq6.1).take (cq6.2 - cq6.1))) ((strd p3q0 0))) (k0  fuel)
  else
  none)
  else
  some ([.agg [((.ints .i64 []), true), ((.ints .i64 []), true)], .one ((.bool false), false)], []))
  else
  none)
  else
  none)
  else
  (cutEnds p2q0.length (none) (some (.imm (.int .i64 (IntKind.wrap .i64 (((p2q0.length : Nat) : Int) - 1)))))).bind fun cq1 =>
  (cutEnds p3q0.length (some (.imm (.int .i64 1))) (none)).bind fun cq2 =>
  (bif szB (((p2q0.drop cq1.1).take (cq1.2 - cq1.1))) && szB (((p3q0.drop cq2.1).take (cq2.2 - cq2.1))) then
  (bif decide ((((((p2q0.drop cq1.1).take (cq1.2 - cq1.1))) ++ (((p3q0.drop cq2.1).take (cq2.2 - cq2.1))))).length < 9223372036854775808) then
  (bif validS (((((p2q0.drop cq1.1).take (cq1.2 - cq1.1))) ++ (((p3q0.drop cq2.1).take (cq2.2 - cq2.1))))) then
  (bif decide (0 ≤ ((volW (((((p2q0.drop cq1.1).take (cq1.2 - cq1.1))) ++ (((p3q0.drop cq2.1).take (cq2.2 - cq2.1)))))) : Int)) && decide (((volW (((((p2q0.drop cq1.1).take (cq1.2 - cq1.1))) ++ (((p3q0.drop cq2.1).take (cq2.2 - cq2.1)))))) : Int) ≤ (volW (((((p2q0.drop cq1.1).take (cq1.2 - cq1.1))) ++ (((p3q0.drop cq2.1).take (cq2.2 - cq2.1))))))) && decide (((volW (((((p2q0.drop cq1.1).take (cq1.2 - cq1.1))) ++ (((p3q0.drop cq2.1).take (cq2.2 - cq2.1)))))) : Int) ≤ 1152921504606846976) && decide (((8 : Nat) : Int) * (volW (((((p2q0.drop cq1.1).take (cq1.2 - cq1.1))) ++ (((p3q0.drop cq2.1).take (cq2.2 - cq2.1)))))) ≤ 281474976710656) then
  L0 fuel fuel (t0 p2q0 p2q1 p3q0 p3q1 p0 p1 0 ((((List.replicate ((volW (((((p2q0.drop cq1.1).take (cq1.2 - cq1.1))) ++ (((p3q0.drop cq2.1).take (cq2.2 - cq2.1))))))).toNat (0 : Int)).length : Nat) : Int)) 0 (((((p2q0.drop cq1.1).take (cq1.2 - cq1.1))) ++ (((p3q0.drop cq2.1).take (cq2.2 - cq2.1))))) ((List.replicate ((volW (((((p2q0.drop cq1.1).take (cq1.2 - cq1.1))) ++ (((p3q0.drop cq2.1).take (cq2.2 - cq2.1))))))).toNat (0 : Int))) 0 (((p2q0.drop cq1.1).take (cq1.2 - cq1.1))) (((p3q0.drop cq2.1).take (cq2.2 - cq2.1))) (((p2q0.drop cq1.1).take (cq1.2 - cq1.1))) (((p3q0.drop cq2.1).take (cq2.2 - cq2.1))) 0) (k0  fuel)
  else
  none)
  else
  some ([.agg [((.ints .i64 []), true), ((.ints .i64 []), true)], .one ((.bool false), false)], []))
  else
  none)
  else
  none))
  else
  none))))
  else
  none)
  else
  none)
  else
  (bif decide (p2q0.length < 9223372036854775808) && decide (p2q1.length < 9223372036854775808) then
  (bif decide (p3q0.length < 9223372036854775808) && decide (p3q1.length < 9223372036854775808) then
  some ([.agg [((.ints .i64 []), true), ((.ints .i64 []), true)], .one ((.bool false), false)], [])
  else
  none)
  else
  none))
  else
  (bif opOk p1 then
  (bif decide (p2q0.length < 9223372036854775808) && decide (p2q1.length < 9223372036854775808) then
  (bif decide (p3q0.length < 9223372036854775808) && decide (p3q1.length < 9223372036854775808) then
  some ([.agg [((.ints .i64 []), true), ((.ints .i64 []), true)], .one ((.bool false), false)], [])
  else
  none)
  else
  none)
  else
  (bif decide (p2q0.length < 9223372036854775808) && decide (p2q1.length < 9223372036854775808) then
  (bif decide (p3q0.length < 9223372036854775808) && decide (p3q1.length < 9223372036854775808) then
  some ([.agg [((.ints .i64 []), true), ((.ints .i64 []), true)], .one ((.bool false), false)], [])
  else
  none)
  else
  none))) := by kernel_rfl
theorem s0 (fuel n0 : Nat) (p2q0 : List Int) (p2q1 : List Int) (p3q0 : List Int) (p3q1 : List Int) (p0 : Int) (p1 : Int) (x0q3 : Int) (x0q10 : Int) (x0q11 : Int) (x0q12 : List Int) (x0q13 : List Int) (x0q23 : Int) (x0q28 : List Int) (x0q32 : List Int) (x0q33 : List Int) (x0q34 : List Int) (x0q38 : Int) : L0 fuel (n0 + 1) (t0 p2q0 p2q1 p3q0 p3q1 p0 p1 x0q3 x0q10 x0q11 x0q12 x0q13 x0q23 x0q28 x0q32 x0q33 x0q34 x0q38) (k0  fuel) =
  (bif (decide ((x0q11 : Int) < x0q10)) then
  (bif inP ql q2 ((q2v (operF p1))) p2q0 p2q1 ((IntKind.wrap .i64 (((p2q0.length : Nat) : Int) - 1))) x0q3 p3q0 p3q1 x0q11 then
  (idx x0q11 x0q13.length).bind fun j4 =>
  (bif decide (j4 < x0q13.length) then
  L0 fuel n0 (t0 p2q0 p2q1 p3q0 p3q1 p0 p1 x0q3 x0q10 ((IntKind.wrap .i64 (x0q11 + 1))) x0q12 ((x0q13.set j4 (((qlv (redF p0))) [.l (inL ((q2v (operF p1))) p2q0 p2q1 p3q0 p3q1 x0q11.toNat)]))) x0q23 x0q28 x0q32 x0q33 x0q34 x0q38) (k0  fuel)
  else
  none)
  else
  none)
  else
  some ([.agg [((.ints .i64 x0q12), true), ((.ints .i64 x0q13), true)], .one ((.bool true), false)], [])) := by kernel_rfl
end impl_InnerProduct
theorem impl_InnerProduct.ok_of (hX : ∀ E ∈ impl_InnerProduct.X, CallSpec Try.prog E) (h : ∀ (f : Int) (g : Int) (sa : List Int) (da : List Int) (sb : List Int) (db : List Int), (decide (sa.length < 9223372036854775808) && decide (da.length < 9223372036854775808) && decide (sb.length < 9223372036854775808) && decide (db.length < 9223372036854775808)) = true → ∃ fuel, runF Try.prog impl_InnerProduct.X impl_InnerProduct.I 4 fuel 67 Try.f67 [.d (.int .i64 f), .d (.int .i64 g), .d (.agg [(.ints .i64 sa), (.ints .i64 da)]), .d (.agg [(.ints .i64 sb), (.ints .i64 db)])] = some ([.agg [((.ints .i64 (inS f g sa da sb db)), true), ((.ints .i64 (inD f g sa da sb db)), true)], .one ((.bool (inB f g sa da sb db)), false)], [])) : CallSpec Try.prog impl_InnerProduct.E :=
  callSpec_of (d := 4) hX (by kernel_rfl) impl_InnerProduct.I_ok (by kernel_rfl) (by kernel_rfl) (by kernel_rfl) (fun _ _ _ _ h => by dsimp only [impl_InnerProduct.E] at h; cases h) (fun xs hp => by
    dsimp only [impl_InnerProduct.E] at hp ⊢
    split at hp
    · exact h _ _ _ _ _ _ hp
    · cases hp)
theorem impl_InnerProduct.loop (fuel : Nat) (f g : Int) (sa da sb db : List Int) (hb : inB f g sa da sb db = true) (hf : 60 < fuel) (st : Int) (hst : st = ((behN sb 0 : Nat) : Int)) (shp : List Int) (hs : shp = inSh sa sb) (j1 j2 : Int) (z1 z2 z3 z4 : List Int) (M : Int) (hM : M = ((prodN (inSh sa sb) : Nat) : Int)) :
    impl_InnerProduct.L0 fuel fuel (impl_InnerProduct.t0 sa da sb db f g st M 0 shp (List.replicate (prodN (inSh sa sb)) 0) j1 z1 z2 z3 z4 j2) (impl_InnerProduct.k0 fuel) = some ([.agg [((.ints .i64 (inSh sa sb)), true), ((.ints .i64 (inN f g sa da sb db)), true)], .one ((.bool true), false)], []) := by
  subst hs
  subst hM
  obtain ⟨hA, hvs, hvol, h60⟩ := inB_A hb
  obtain ⟨a1, a2, a3, a4, a5, a6, a7⟩ := inA_inv hA
  obtain ⟨jj, hjj, hj2, hvb, ax, _⟩ := axB_inv a2
  have hjj0 : jj = 0 := by omega
  subst hjj0
  have hL := ax.len_le
  have hlN : (inN f g sa da sb db).length = prodN (inSh sa sb) := by simp only [inN, tab_length]
  have hr : sa.length ≤ 3 := by
    obtain ⟨q, _, hq, hv, _⟩ := axB_inv a1
    exact (validS_inv (validA_inv hv).1).1
  have hK : IntKind.wrap .i64 (((sa.length : Nat) : Int) - 1) = inK sa := by unfold inK; rw [wS (by omega) (by omega)]
  refine run_loop (N := prodN (inSh sa sb)) (fun n j out => impl_InnerProduct.L0 fuel n (impl_InnerProduct.t0 sa da sb db f g st ((prodN (inSh sa sb) : Nat) : Int) (j : Int) (inSh sa sb) out j1 z1 z2 z3 z4 j2) (impl_InnerProduct.k0 fuel)) (fun j out => out = part (inN f g sa da sb db) j) ?_ ?_ fuel 0 _ (by omega) (by omega) (by rw [part_zero, hlN])
  · intro n out ho
    have hall := part_all (inN f g sa da sb db)
    rw [hlN] at hall
    rw [hall] at ho
    rw [impl_InnerProduct.s0, dge (by omega), cond_false, ho]
  · intro n j out hj ho
    have hol : out.length = prodN (inSh sa sb) := by rw [ho, part_length (by omega), hlN]
    have l1 := inX_length (sa := sa) (da := da) (sb := sb) (n := j) a5
    have hq : inP ql q2 (q2v (operF g)) sa da (inK sa) st sb db (j : Int) = true := by
      simp only [inP, hst, Int.toNat_natCast, hA, pwB_q2, ql, inL, pwD_q2, tab_length, Bool.and_eq_true, decide_eq_true_eq]
      refine ⟨⟨⟨⟨⟨⟨trivial, trivial⟩, trivial⟩, by omega⟩, by omega⟩, trivial⟩, by omega⟩
    rw [impl_InnerProduct.s0, dlt hj, cond_true, hK, hq, idx_nat (by omega), w1 (by omega)]
    simp only [cond_true, Option.bind_some, Int.toNat_natCast]
    rw [decide_eq_true (by omega), cond_true]
    refine ⟨_, ?_, rfl⟩
    rw [ho, part_set (by omega)]
    simp only [inN]
    rw [tab_getD hj]
    rfl
theorem impl_InnerProduct.ok : CallSpec Try.prog impl_InnerProduct.E := impl_InnerProduct.ok_of (by simp [impl_InnerProduct.X, impl_reductionOf.ok, impl_functionOfTwo_f.ok, impl_axisLength.ok, impl_layoutOf_j.ok, slices_Concat_int_int.ok, impl_InnerProduct_1.ok]) fun f g sa da sb db h => by
  obtain ⟨F, hF⟩ : ∃ F : Nat, 60 < F := ⟨61, by omega⟩
  refine ⟨F, ?_⟩
  simp only [Bool.and_eq_true] at h
  rw [impl_InnerProduct.e, h.1.1.1, h.1.1.2, h.1.2, h.2]
  have hK : IntKind.wrap .i64 (((sa.length : Nat) : Int) - 1) = inK sa := by
    have := of_decide_eq_true h.1.1.1
    unfold inK; rw [wS (by omega) (by omega)]
  unfold inS inD
  cases h1 : opOk f with
  | false =>
    simp only [inB, h1]
    cases opOk g <;> rfl
  | true =>
    cases h2 : opOk g with
    | false => simp only [inB, h1, h2]; rfl
    | true =>
      rw [hK]
      cases h3 : axB sa da (inK sa) with
      | false => simp only [inB, h1, h2, h3]; rfl
      | true =>
        cases h4 : axB sb db 0 with
        | false => simp only [inB, h1, h2, h3, h4]; rfl
        | true =>
          obtain ⟨ja, hja, hja2, hva, axa, hda, hla⟩ := axB_inv h3
          obtain ⟨jb, hjb, hjb2, hvb, axb, hdb, hlb⟩ := axB_inv h4
          have hja3 : ja = sa.length - 1 := by unfold inK at hja; omega
          have hjb3 : jb = 0 := by omega
          subst hja3
          subst hjb3
          by_cases h5 : lenN sa (sa.length - 1) = lenN sb 0
          · have hr := axa.rank
            have hrb := axb.rank
            have c1 : cutEnds sa.length none (some (.imm (.int .i64 (inK sa)))) = some (0, sa.length - 1) := by rw [hja]; exact cut_hi (by omega)
            have c2 := cut_one (n := sb.length) (by omega)
            have hne : (((lenN sb 0 : Nat) : Int) != ((lenN sb 0 : Nat) : Int)) = false := by simp
            rw [hla, hlb, h5, hne, (validA_inv hvb).1, c1, c2]
            simp only [Bool.not_true, cond_true, cond_false, Option.bind_some, Bool.and_self]
            rw [in_parts, szB_of (by simp; omega), szB_of (by simp; omega), Bool.and_self, cond_true, lt_of (by simp only [inSh, List.length_append, List.length_take, List.length_drop]; omega), cond_true]
            cases h6 : validS (inSh sa sb) with
            | false =>
              have : inB f g sa da sb db = false := by simp only [inB, h6, Bool.and_false]
              rw [this]; rfl
            | true =>
              have hb : inB f g sa da sb db = true := by simp only [inB, h1, h2, h3, h4, h6, h5, decide_true, Bool.and_self]
              obtain ⟨_, _, hvol, h60⟩ := inB_A hb
              have hvbd := vol_bd h6
              rw [mkOk hvbd.1 (by omega), hb, hvol, Int.toNat_natCast, List.length_replicate]
              simp only [cond_true]
              exact impl_InnerProduct.loop F f g sa da sb db hb hF _ (strd_beh axb) _ rfl _ _ _ _ _ _ _ rfl
          · have hne : (((lenN sa (sa.length - 1) : Nat) : Int) != ((lenN sb 0 : Nat) : Int)) = true := by simp; omega
            have : inB f g sa da sb db = false := by simp only [inB, decide_eq_false h5, Bool.and_false, Bool.false_and]
            rw [hla, hlb, hne, this]; rfl

namespace impl_SumProduct
noncomputable def E : Entry := ⟨42, false, false, fun | [.d (.agg [(.ints .i64 sa), (.ints .i64 da)]), .d (.agg [(.ints .i64 sb), (.ints .i64 db)])] => decide (sa.length < 9223372036854775808) && decide (da.length < 9223372036854775808) && decide (sb.length < 9223372036854775808) && decide (db.length < 9223372036854775808) | _ => false, fun | [.d (.agg [(.ints .i64 sa), (.ints .i64 da)]), .d (.agg [(.ints .i64 sb), (.ints .i64 db)])] => ([.agg [((.ints .i64 (inS 1 3 sa da sb db)), true), ((.ints .i64 (inD 1 3 sa da sb db)), true)], .one ((.bool (inB 1 3 sa da sb db)), false)], []) | _ => ([], []), fun _ => [], true, fun _ => none⟩
end impl_SumProduct
namespace impl_SumProduct
noncomputable def X : List Entry := [impl_InnerProduct.E]
noncomputable def I : List Inl := [⟨42, Try.f42, ⟨[8], [], [], [], [], []⟩⟩]
theorem I_ok : ∀ i ∈ I, Try.prog.funcs[i.f]? = some i.fn ∧ (i.fn.name == "runtime.NumGoroutine") = false := by
  intro i hi
  simp only [I, List.mem_cons, List.not_mem_nil, or_false] at hi
  subst hi
  exact ⟨by kernel_rfl, by kernel_rfl⟩
theorem e (fuel : Nat) (p0q0 : List Int) (p0q1 : List Int) (p1q0 : List Int) (p1q1 : List Int) : runF Try.prog X I 0 fuel 42 Try.f42 [.d (.agg [(.ints .i64 p0q0), (.ints .i64 p0q1)]), .d (.agg [(.ints .i64 p1q0), (.ints .i64 p1q1)])] =
  (bif decide (p0q0.length < 9223372036854775808) && decide (p0q1.length < 9223372036854775808) && decide (p1q0.length < 9223372036854775808) && decide (p1q1.length < 9223372036854775808) then
  some ([.agg [((.ints .i64 (inS 1 3 p0q0 p0q1 p1q0 p1q1)), true), ((.ints .i64 (inD 1 3 p0q0 p0q1 p1q0 p1q1)), true)], .one ((.bool (inB 1 3 p0q0 p0q1 p1q0 p1q1)), false)], [])
  else
  none) := by kernel_rfl
end impl_SumProduct
theorem impl_SumProduct.ok_of (hX : ∀ E ∈ impl_SumProduct.X, CallSpec Try.prog E) (h : ∀ (sa : List Int) (da : List Int) (sb : List Int) (db : List Int), (decide (sa.length < 9223372036854775808) && decide (da.length < 9223372036854775808) && decide (sb.length < 9223372036854775808) && decide (db.length < 9223372036854775808)) = true → ∃ fuel, runF Try.prog impl_SumProduct.X impl_SumProduct.I 0 fuel 42 Try.f42 [.d (.agg [(.ints .i64 sa), (.ints .i64 da)]), .d (.agg [(.ints .i64 sb), (.ints .i64 db)])] = some ([.agg [((.ints .i64 (inS 1 3 sa da sb db)), true), ((.ints .i64 (inD 1 3 sa da sb db)), true)], .one ((.bool (inB 1 3 sa da sb db)), false)], [])) : CallSpec Try.prog impl_SumProduct.E :=
  callSpec_of (d := 0) hX (by kernel_rfl) impl_SumProduct.I_ok (by kernel_rfl) (by kernel_rfl) (by kernel_rfl) (fun _ _ _ _ h => by dsimp only [impl_SumProduct.E] at h; cases h) (fun xs hp => by
    dsimp only [impl_SumProduct.E] at hp ⊢
    split at hp
    · exact h _ _ _ _ hp
    · cases hp)
theorem impl_SumProduct.ok : CallSpec Try.prog impl_SumProduct.E := impl_SumProduct.ok_of (by simp [impl_SumProduct.X, impl_InnerProduct.ok]) fun sa da sb db h => ⟨0, by
  rw [impl_SumProduct.e, h]
  rfl⟩

namespace impl_PowerOf
noncomputable def E : Entry := ⟨19, false, false, fun | [.d (.agg [(.ints .i64 sh), (.ints .i64 da)]), .d (.int .i64 n)] => decide (sh.length < 9223372036854775808) && decide (da.length < 9223372036854775808) | _ => false, fun | [.d (.agg [(.ints .i64 sh), (.ints .i64 da)]), .d (.int .i64 n)] => ([.agg [((.ints .i64 (pwS sh da n)), true), ((.ints .i64 (ppD sh da n)), true)], .one ((.bool (poOk sh da n)), false)], []) | _ => ([], []), fun _ => [], true, fun _ => none⟩
end impl_PowerOf
namespace impl_PowerOf
noncomputable def X : List Entry := [impl_isSquare.E, impl_Identity.E, impl_SumProduct.E]
noncomputable def I : List Inl := [⟨19, Try.f19, ⟨[23, 30], [(1000005, [0, 1, 3, 5, 7, 8, 9, 10, 11, 12, 13, 14, 15, 16, 17, 18, 19, 20, 21, 22, 23, 26, 27, 28, 29, 30, 31, 32, 33, 34])], [], [], [], []⟩⟩]
theorem I_ok : ∀ i ∈ I, Try.prog.funcs[i.f]? = some i.fn ∧ (i.fn.name == "runtime.NumGoroutine") = false := by
  intro i hi
  simp only [I, List.mem_cons, List.not_mem_nil, or_false] at hi
  subst hi
  exact ⟨by kernel_rfl, by kernel_rfl⟩
noncomputable abbrev L0 (fuel n : Nat) (s : St) (k : Kont) := lAt Try.prog X I fuel true 0 false 19 (bodyOf Try.f19) [1, 1, 1, 0, 1, 0] n s k
noncomputable abbrev k0  (fuel : Nat) : Kont := (kAt Try.prog X I fuel true 0 false 19 (bodyOf Try.f19) [1, 1, 1, 0, 1, 0] [] (endK Try.prog Try.f19))
noncomputable def t0 (p1 : Int) (p0q0 : List Int) (p0q1 : List Int) (x0q1 : Int) (x0q4 : List Int) (x0q5 : List Int) : St := ⟨[.dead, .dead, (.ptr 1000000000 0 0), .dead, (.ptr 1000000001 0 0), .dead, (.ptr 1000000002 0 0), .dead, .dead, .dead, .dead, .dead, .dead, .dead, .dead, .dead, .dead, .dead, .dead, .dead, .dead, .dead, .dead, .dead, (.imm (.int .i64 p1)), (.imm (.int .i64 x0q1)), .dead, .dead, .dead, .dead, .dead, .dead, .dead, .dead, .dead], hOf [(1000000000, (.box [(.imm (.ints .i64 p0q0)), (.imm (.ints .i64 p0q1))])), (1000000001, (.box [(.imm .nils), (.imm .nils)])), (1000000002, (.box [(.all 1000000003 1), (.all 1000000004 1)])), (1000000003, (.ints .i64 x0q4)), (1000000004, (.ints .i64 x0q5))], [], []⟩
theorem e (fuel : Nat) (p0q0 : List Int) (p0q1 : List Int) (p1 : Int) : runF Try.prog X I 0 fuel 19 Try.f19 [.d (.agg [(.ints .i64 p0q0), (.ints .i64 p0q1)]), .d (.int .i64 p1)] =
  (bif decide (p0q0.length < 9223372036854775808) && decide (p0q1.length < 9223372036854775808) then
  (bif (!(sqB p0q0 p0q1)) then
  some ([.agg [((.ints .i64 []), true), ((.ints .i64 []), true)], .one ((.bool false), false)], [])
  else
  (bif (decide ((p1 : Int) < 0)) then
  some ([.agg [((.ints .i64 []), true), ((.ints .i64 []), true)], .one ((.bool false), false)], [])
  else
  (bif (decide ((p1 : Int) > 5)) then
  some ([.agg [((.ints .i64 []), true), ((.ints .i64 []), true)], .one ((.bool false), false)], [])
  else
  (idx 0 p0q0.length).bind fun j1 =>
  (p0q0[j1]?).bind fun v2 =>
  L0 fuel fuel (t0 p1 p0q0 p0q1 0 ((idS v2)) ((idD v2))) (k0  fuel))))
  else
  none) := by kernel_rfl
theorem s0 (fuel n0 : Nat) (p1 : Int) (p0q0 : List Int) (p0q1 : List Int) (x0q1 : Int) (x0q4 : List Int) (x0q5 : List Int) : L0 fuel (n0 + 1) (t0 p1 p0q0 p0q1 x0q1 x0q4 x0q5) (k0  fuel) =
  (bif (decide ((x0q1 : Int) < p1)) then
  (bif decide (x0q4.length < 9223372036854775808) && decide (x0q5.length < 9223372036854775808) && decide (p0q0.length < 9223372036854775808) && decide (p0q1.length < 9223372036854775808) then
  L0 fuel n0 (t0 p1 p0q0 p0q1 ((IntKind.wrap .i64 (x0q1 + 1))) ((inS 1 3 x0q4 x0q5 p0q0 p0q1)) ((inD 1 3 x0q4 x0q5 p0q0 p0q1))) (k0  fuel)
  else
  none)
  else
  some ([.agg [((.ints .i64 x0q4), true), ((.ints .i64 x0q5), true)], .one ((.bool true), false)], [])) := by kernel_rfl
end impl_PowerOf
theorem impl_PowerOf.ok_of (hX : ∀ E ∈ impl_PowerOf.X, CallSpec Try.prog E) (h : ∀ (sh : List Int) (da : List Int) (n : Int), (decide (sh.length < 9223372036854775808) && decide (da.length < 9223372036854775808)) = true → ∃ fuel, runF Try.prog impl_PowerOf.X impl_PowerOf.I 0 fuel 19 Try.f19 [.d (.agg [(.ints .i64 sh), (.ints .i64 da)]), .d (.int .i64 n)] = some ([.agg [((.ints .i64 (pwS sh da n)), true), ((.ints .i64 (ppD sh da n)), true)], .one ((.bool (poOk sh da n)), false)], [])) : CallSpec Try.prog impl_PowerOf.E :=
  callSpec_of (d := 0) hX (by kernel_rfl) impl_PowerOf.I_ok (by kernel_rfl) (by kernel_rfl) (by kernel_rfl) (fun _ _ _ _ h => by dsimp only [impl_PowerOf.E] at h; cases h) (fun xs hp => by
    dsimp only [impl_PowerOf.E] at hp ⊢
    split at hp
    · exact h _ _ _ hp
    · cases hp)
theorem impl_PowerOf.ok : CallSpec Try.prog impl_PowerOf.E := impl_PowerOf.ok_of (by simp [impl_PowerOf.X, impl_isSquare.ok, impl_Identity.ok, impl_SumProduct.ok]) fun sh da n h => by
  obtain ⟨F, hF⟩ : ∃ F : Nat, 100 < F := ⟨101, by omega⟩
  refine ⟨F, ?_⟩
  rw [impl_PowerOf.e, h, cond_true]
  unfold pwS ppD poOk
  cases hb : sqB sh da with
  | false => rfl
  | true =>
    have hneg : decide (n < 0) = !decide (0 ≤ n) := by by_cases h0 : 0 ≤ n <;> simp [h0] <;> omega
    have hneg2 : decide (n > 5) = !decide (n ≤ 5) := by by_cases h0 : n ≤ 5 <;> simp [h0] <;> omega
    rw [hneg, hneg2]
    cases hp : decide (0 ≤ n) && decide (n ≤ 5) with
    | false =>
      cases h1 : decide (0 ≤ n) with
      | false => rfl
      | true =>
        rw [h1, Bool.true_and] at hp
        rw [hp]
        rfl
    | true =>
      rw [Bool.and_eq_true] at hp
      rw [hp.1, hp.2]
      simp only [Bool.and_eq_true, decide_eq_true_eq] at hp h
      have hp1 := hp.1
      have hp2 := hp.2
      obtain ⟨p, rfl⟩ : ∃ p : Nat, n = p := ⟨n.toNat, by omega⟩
      obtain ⟨k, hk, hsh, hl, hv, ha⟩ := sqB_inv hb
      have h4 := sq4 hk
      have hF2 := pow_facts hk hl hv hsh
      have ix : idx 0 sh.length = some 0 := by rw [hsh]; rfl
      have ig : sh[0]? = some (k : Int) := by rw [hsh]; rfl
      rw [ix]
      simp only [Option.bind_some, ig]
      rw [(idSD hk).1, (idSD hk).2]
      simp only [Bool.and_self, Bool.not_true, cond_false, cond_true, Int.toNat_natCast]
      refine run_loop (N := p) (fun m j (st : List Int × List Int) => impl_PowerOf.L0 F m (impl_PowerOf.t0 (p : Int) sh da (j : Int) st.1 st.2) (impl_PowerOf.k0 F)) (fun j st => st.1 = sh ∧ st.2 = powL sh da j) ?_ ?_ F 0 (_, _) (by omega) (by omega) ⟨hsh.symm, by rw [hsh]; rfl⟩
      · rintro m ⟨s1, s2⟩ ⟨e1, e2⟩
        simp only at e1 e2
        subst s1; subst s2
        rw [impl_PowerOf.s0, dge (by omega), cond_false]
      · rintro m j ⟨s1, s2⟩ hj ⟨e1, e2⟩
        simp only at e1 e2
        subst s1; subst s2
        obtain ⟨q1, q2, q3⟩ := hF2 j
        dsimp only
        rw [impl_PowerOf.s0, dlt hj, cond_true, w1 (by omega), lt_of (by omega), lt_of (by omega), lt_of (by omega)]
        refine ⟨(sh, powL sh da (j + 1)), ⟨rfl, rfl⟩, ?_⟩
        rw [q2, q3]
        rfl

namespace laws_FnExactPowerOf
noncomputable def E : Entry := ⟨5, true, false, fun | [.d (.agg [(.ints .i64 sh), (.ints .i64 da)]), .d (.int .i64 n)] => decide (sh.length < 9223372036854775808) && decide (da.length < 9223372036854775808) | _ => false, fun | [.d (.agg [(.ints .i64 sh), (.ints .i64 da)]), .d (.int .i64 n)] => ([.one ((.bool true), false)], []) | _ => ([], []), fun _ => [], false, fun _ => none⟩
end laws_FnExactPowerOf
namespace laws_FnExactPowerOf
noncomputable def X : List Entry := [laws_szArray.E, laws_toArray.E, spec_PowerOf.E, impl_PowerOf.E, laws_eqArray.E, laws_markArray.E, laws_heldArray.E]
noncomputable def I : List Inl := [⟨5, Try.f5, ⟨[23, 25, 29, 33, 47, 79, 81], [], [], [], [], []⟩⟩]
theorem I_ok : ∀ i ∈ I, Try.prog.funcs[i.f]? = some i.fn ∧ (i.fn.name == "runtime.NumGoroutine") = false := by
  intro i hi
  simp only [I, List.mem_cons, List.not_mem_nil, or_false] at hi
  subst hi
  exact ⟨by kernel_rfl, by kernel_rfl⟩
theorem e (fuel : Nat) (p0q0 : List Int) (p0q1 : List Int) (p1 : Int) : runF Try.prog X I 0 fuel 5 Try.f5 [.d (.agg [(.ints .i64 p0q0), (.ints .i64 p0q1)]), .d (.int .i64 p1)] =
  (bif (decide (((szA p0q0 p0q1 1048576) : Int) < 0)) then
  some ([.one ((.bool true), false)], [])
  else
  (bif szB p0q0 && szB p0q1 then
  (bif decide (p0q0.length < 9223372036854775808) && decide (p0q1.length < 9223372036854775808) then
  (bif szB p0q0 && szB p0q1 then
  (bif decide (p0q0.length < 9223372036854775808) && decide (p0q1.length < 9223372036854775808) then
  (bif decide (((pwS p0q0 p0q1 p1)).length < 9223372036854775808) && decide (((ppD p0q0 p0q1 p1)).length < 9223372036854775808) && decide (((pwS p0q0 p0q1 p1)).length < 9223372036854775808) && decide (((ppD p0q0 p0q1 p1)).length < 9223372036854775808) then
  (bif (!(decide (((pwS p0q0 p0q1 p1)) = ((pwS p0q0 p0q1 p1))) && decide (((ppD p0q0 p0q1 p1)) = ((ppD p0q0 p0q1 p1))))) then
  some ([.one ((.bool false), false)], [])
  else
  (bif (!((poOk p0q0 p0q1 p1) == (poOk p0q0 p0q1 p1))) then
  some ([.one ((.bool false), false)], [])
  else
  (bif szB p0q0 && szB p0q1 then
  (bif decide (p0q0.length < 9223372036854775808) && decide (p0q1.length < 9223372036854775808) && decide (p0q0.length < 9223372036854775808) && decide (p0q1.length < 9223372036854775808) then
  (bif (!(decide (p0q0 = p0q0) && decide (p0q1 = p0q1))) then
  some ([.one ((.bool false), false)], [])
  else
  (bif decide (p0q0.length < 9223372036854775808) && decide (p0q1.length < 9223372036854775808) then
  (bif (decide (((markK p0q1 (markK p0q0 1)) : Int) < 0)) then
  some ([.one ((.bool false), false)], [])
  else
  (bif decide (((pwS p0q0 p0q1 p1)).length < 9223372036854775808) && decide (((ppD p0q0 p0q1 p1)).length < 9223372036854775808) && decide (((pwS p0q0 p0q1 p1)).length < 9223372036854775808) && decide (((ppD p0q0 p0q1 p1)).length < 9223372036854775808) then
  (bif (!(decide (((pwS p0q0 p0q1 p1)) = ((pwS p0q0 p0q1 p1))) && decide (((ppD p0q0 p0q1 p1)) = ((ppD p0q0 p0q1 p1))))) then
  some ([.one ((.bool false), false)], [])
  else
  (bif (!((poOk p0q0 p0q1 p1) == (poOk p0q0 p0q1 p1))) then
  some ([.one ((.bool false), false)], [])
  else
  (bif decide (((pwS p0q0 p0q1 p1)).length < 9223372036854775808) && decide (((ppD p0q0 p0q1 p1)).length < 9223372036854775808) then
  (bif decide (((markL ((pwS p0q0 p0q1 p1)) 1)).length < 9223372036854775808) && decide (((markL ((ppD p0q0 p0q1 p1)) (markK ((pwS p0q0 p0q1 p1)) 1))).length < 9223372036854775808) then
  (bif (decide (((heldA ((markL ((pwS p0q0 p0q1 p1)) 1)) ((markL ((ppD p0q0 p0q1 p1)) (markK ((pwS p0q0 p0q1 p1)) 1))) 1) : Int) < 0)) then
  some ([.one ((.bool false), false)], [])
  else
  (bif (((heldA ((markL ((pwS p0q0 p0q1 p1)) 1)) ((markL ((ppD p0q0 p0q1 p1)) (markK ((pwS p0q0 p0q1 p1)) 1))) 1) : Int) != (markK ((ppD p0q0 p0q1 p1)) (markK ((pwS p0q0 p0q1 p1)) 1))) then
  some ([.one ((.bool false), false)], [])
  else
  (bif szB p0q0 && szB p0q1 then
  (bif decide (p0q0.length < 9223372036854775808) && decide (p0q1.length < 9223372036854775808) then
  (bif decide (((pwS p0q0 p0q1 p1)).length < 9223372036854775808) && decide (((ppD p0q0 p0q1 p1)).length < 9223372036854775808) && decide (((pwS p0q0 p0q1 p1)).length < 9223372036854775808) && decide (((ppD p0q0 p0q1 p1)).length < 9223372036854775808) then
  (bif (!(decide (((pwS p0q0 p0q1 p1)) = ((pwS p0q0 p0q1 p1))) && decide (((ppD p0q0 p0q1 p1)) = ((ppD p0q0 p0q1 p1))))) then
  some ([.one ((.bool false), false)], [])
  else
  (bif (!((poOk p0q0 p0q1 p1) == (poOk p0q0 p0q1 p1))) then
  some ([.one ((.bool false), false)], [])
  else
  (bif decide (((markL ((pwS p0q0 p0q1 p1)) 1)).length < 9223372036854775808) && decide (((markL ((ppD p0q0 p0q1 p1)) (markK ((pwS p0q0 p0q1 p1)) 1))).length < 9223372036854775808) then
  (bif (decide (((heldA ((markL ((pwS p0q0 p0q1 p1)) 1)) ((markL ((ppD p0q0 p0q1 p1)) (markK ((pwS p0q0 p0q1 p1)) 1))) 1) : Int) < 0)) then
  some ([.one ((.bool false), false)], [])
  else
  (bif (((heldA ((markL ((pwS p0q0 p0q1 p1)) 1)) ((markL ((ppD p0q0 p0q1 p1)) (markK ((pwS p0q0 p0q1 p1)) 1))) 1) : Int) != (markK ((ppD p0q0 p0q1 p1)) (markK ((pwS p0q0 p0q1 p1)) 1))) then
  some ([.one ((.bool false), false)], [])
  else
  some ([.one ((.bool true), false)], [])))
  else
  none)))
  else
  none)
  else
  none)
  else
  none)))
  else
  none)
  else
  none)))
  else
  none))
  else
  none))
  else
  none)
  else
  none)))
  else
  none)
  else
  none)
  else
  none)
  else
  none)
  else
  none)) := by kernel_rfl
end laws_FnExactPowerOf
theorem laws_FnExactPowerOf.ok_of (hX : ∀ E ∈ laws_FnExactPowerOf.X, CallSpec Try.prog E) (h : ∀ (sh : List Int) (da : List Int) (n : Int), (decide (sh.length < 9223372036854775808) && decide (da.length < 9223372036854775808)) = true → ∃ fuel, runF Try.prog laws_FnExactPowerOf.X laws_FnExactPowerOf.I 0 fuel 5 Try.f5 [.d (.agg [(.ints .i64 sh), (.ints .i64 da)]), .d (.int .i64 n)] = some ([.one ((.bool true), false)], [])) : CallSpec Try.prog laws_FnExactPowerOf.E :=
  callSpec_of (d := 0) hX (by kernel_rfl) laws_FnExactPowerOf.I_ok (by kernel_rfl) (by kernel_rfl) (by kernel_rfl) (fun _ _ _ _ h => by dsimp only [laws_FnExactPowerOf.E] at h; cases h) (fun xs hp => by
    dsimp only [laws_FnExactPowerOf.E] at hp ⊢
    split at hp
    · exact h _ _ _ hp
    · cases hp)
theorem laws_FnExactPowerOf.ok : CallSpec Try.prog laws_FnExactPowerOf.E := laws_FnExactPowerOf.ok_of (by simp [laws_FnExactPowerOf.X, laws_szArray.ok, laws_toArray.ok, spec_PowerOf.ok, impl_PowerOf.ok, laws_eqArray.ok, laws_markArray.ok, laws_heldArray.ok]) fun sh da n h => ⟨0, by
  rw [laws_FnExactPowerOf.e]
  simp only [Bool.and_eq_true] at h
  obtain ⟨g0, g1⟩ := h
  by_cases a0 : szA sh da 1048576 < 0
  · rw [decide_eq_true a0]; rfl
  obtain ⟨q0, p0⟩ := szA_le (by omega) (by omega) (of_decide_eq_true g0) (of_decide_eq_true g1) a0
  have z0 := szB_of (xs := sh) (by omega)
  have z1 := szB_of (xs := da) (by omega)
  have hl := pp_len sh da n
  obtain ⟨r0a, r0b, r0c, r0d, r0e, r0f⟩ := marks_ok (sh := (pwS sh da n)) (da := (ppD sh da n)) (by omega) (by omega)
  have mk := mark2_ok (xs := sh) (ys := da) (by omega) (by omega)
  simp only [decide_eq_false a0, g0, g1, z0, z1, r0a, r0b, r0c, r0d, r0e, r0f, mk, bne_self_eq_false, beq_self_eq_true, decide_true, Bool.and_self, Bool.not_true, cond_true, cond_false]⟩

namespace spec_isVector
noncomputable def E : Entry := ⟨43, true, false, fun | [.d (.agg [(.ints .i64 sh), (.ints .i64 da)])] => decide (sh.length < 9223372036854775808) && decide (da.length < 9223372036854775808) | _ => false, fun | [.d (.agg [(.ints .i64 sh), (.ints .i64 da)])] => ([.one ((.bool (vcB sh da)), false)], []) | _ => ([], []), fun _ => [], false, fun _ => none⟩
end spec_isVector
namespace spec_isVector
noncomputable def X : List Entry := [spec_valid.E]
noncomputable def I : List Inl := [⟨43, Try.f43, ⟨[], [], [], [], [], []⟩⟩]
theorem I_ok : ∀ i ∈ I, Try.prog.funcs[i.f]? = some i.fn ∧ (i.fn.name == "runtime.NumGoroutine") = false := by
  intro i hi
  simp only [I, List.mem_cons, List.not_mem_nil, or_false] at hi
  subst hi
  exact ⟨by kernel_rfl, by kernel_rfl⟩
theorem e (fuel : Nat) (p0q0 : List Int) (p0q1 : List Int) : runF Try.prog X I 0 fuel 43 Try.f43 [.d (.agg [(.ints .i64 p0q0), (.ints .i64 p0q1)])] =
  (bif decide (p0q0.length < 9223372036854775808) && decide (p0q1.length < 9223372036854775808) then
  (bif (validA p0q0 p0q1) then
  some ([.one ((.bool ((((p0q0.length : Nat) : Int) : Int) == 1)), false)], [])
  else
  some ([.one ((.bool false), false)], []))
  else
  none) := by kernel_rfl
end spec_isVector
theorem spec_isVector.ok_of (hX : ∀ E ∈ spec_isVector.X, CallSpec Try.prog E) (h : ∀ (sh : List Int) (da : List Int), (decide (sh.length < 9223372036854775808) && decide (da.length < 9223372036854775808)) = true → ∃ fuel, runF Try.prog spec_isVector.X spec_isVector.I 0 fuel 43 Try.f43 [.d (.agg [(.ints .i64 sh), (.ints .i64 da)])] = some ([.one ((.bool (vcB sh da)), false)], [])) : CallSpec Try.prog spec_isVector.E :=
  callSpec_of (d := 0) hX (by kernel_rfl) spec_isVector.I_ok (by kernel_rfl) (by kernel_rfl) (by kernel_rfl) (fun _ _ _ _ h => by dsimp only [spec_isVector.E] at h; cases h) (fun xs hp => by
    dsimp only [spec_isVector.E] at hp ⊢
    split at hp
    · exact h _ _ hp
    · cases hp)
theorem spec_isVector.ok : CallSpec Try.prog spec_isVector.E := spec_isVector.ok_of (by simp [spec_isVector.X, spec_valid.ok]) fun sh da h => ⟨0, by
  rw [spec_isVector.e, h]
  unfold vcB
  cases validA sh da with
  | false => rfl
  | true =>
    rw [show ((((sh.length : Nat) : Int)) == 1) = decide (sh.length = 1) by by_cases h : sh.length = 1 <;> simp [h]; omega]
    rfl⟩

namespace spec_WindowsOf
noncomputable def E : Entry := ⟨20, false, false, fun | [.d (.agg [(.ints .i64 sh), (.ints .i64 da)]), .d (.int .i64 n)] => decide (sh.length < 9223372036854775808) && decide (da.length < 9223372036854775808) | _ => false, fun | [.d (.agg [(.ints .i64 sh), (.ints .i64 da)]), .d (.int .i64 n)] => ([.agg [((.ints .i64 (wiS sh da n)), true), ((.ints .i64 (wiD sh da n)), true)], .one ((.bool (wiB sh da n)), false)], []) | _ => ([], []), fun _ => [], true, fun _ => none⟩
end spec_WindowsOf
namespace spec_WindowsOf
noncomputable def X : List Entry := [spec_isVector.E, spec_inRange.E, spec_validShape.E, spec_make1.E]
noncomputable def I : List Inl := [⟨20, Try.f20, ⟨[53], [(1000006, [0, 3, 5, 9, 10, 11, 12, 13, 14, 15, 16, 17, 18, 19, 20, 21, 22, 23, 24, 25, 26, 27, 28, 29, 30, 31, 32, 33, 34, 35, 36, 37, 38, 39, 40, 41, 42, 43, 44, 45, 46, 47, 48, 49, 50, 51, 52, 53])], [], [], [45, 51], []⟩⟩]
theorem I_ok : ∀ i ∈ I, Try.prog.funcs[i.f]? = some i.fn ∧ (i.fn.name == "runtime.NumGoroutine") = false := by
  intro i hi
  simp only [I, List.mem_cons, List.not_mem_nil, or_false] at hi
  subst hi
  exact ⟨by kernel_rfl, by kernel_rfl⟩
noncomputable abbrev L0 (fuel n : Nat) (s : St) (k : Kont) := lAt Try.prog X I fuel true 0 false 20 (bodyOf Try.f20) [1, 1, 1, 1, 0, 1, 0] n s k
noncomputable abbrev k0  (fuel : Nat) : Kont := (kAt Try.prog X I fuel true 0 false 20 (bodyOf Try.f20) [1, 1, 1, 1, 0, 1, 0] [] (endK Try.prog Try.f20))
noncomputable def t0 (p1 : Int) (p0q1 : List Int) (p0q0 : List Int) (x0q2 : Int) (x0q5 : List Int) : St := ⟨[.dead, (.imm (.int .i64 p1)), (.ptr 1000000000 0 0), .dead, (.ptr 1000000001 0 0), .dead, (.imm (.int .i64 (IntKind.wrap .i64 ((IntKind.wrap .i64 (((p0q1.length : Nat) : Int) - p1)) + 1)))), (.all 1000000002 1), (.imm (.int .i64 x0q2)), .dead, .dead, .dead, .dead, .dead, .dead, .dead, .dead, .dead, .dead, .dead, .dead, .dead, .dead, .dead, .dead, .dead, .dead, .dead, .dead, .dead, .dead, .dead, .dead, .dead, .dead, .dead, .dead, .dead, .dead, .dead, .dead, .dead, .dead, .dead, .dead, .dead, .dead, .dead, .dead, .dead, .dead, .dead, .dead, .dead], hOf [(1000000000, (.box [(.imm (.ints .i64 p0q0)), (.imm (.ints .i64 p0q1))])), (1000000001, (.box [(.imm .nils), (.imm .nils)])), (1000000002, (.ints .i64 x0q5))], [], []⟩
theorem e (fuel : Nat) (p0q0 : List Int) (p0q1 : List Int) (p1 : Int) : runF Try.prog X I 0 fuel 20 Try.f20 [.d (.agg [(.ints .i64 p0q0), (.ints .i64 p0q1)]), .d (.int .i64 p1)] =
  (bif decide (p0q0.length < 9223372036854775808) && decide (p0q1.length < 9223372036854775808) then
  (bif (!(vcB p0q0 p0q1)) then
  some ([.agg [((.ints .i64 []), true), ((.ints .i64 []), true)], .one ((.bool false), false)], [])
  else
  (bif (!(decide (1 ≤ p1) && decide (p1 ≤ ((IntKind.wrap .i64 (((p0q1.length : Nat) : Int) + 1)))))) then
  some ([.agg [((.ints .i64 []), true), ((.ints .i64 []), true)], .one ((.bool false), false)], [])
  else
  L0 fuel fuel (t0 p1 p0q1 p0q0 0 ([])) (k0  fuel)))
  else
  none) := by kernel_rfl
theorem s0 (fuel n0 : Nat) (p1 : Int) (p0q1 : List Int) (p0q0 : List Int) (x0q2 : Int) (x0q5 : List Int) : L0 fuel (n0 + 1) (t0 p1 p0q1 p0q0 x0q2 x0q5) (k0  fuel) =
  (bif (decide ((x0q2 : Int) < (IntKind.wrap .i64 ((IntKind.wrap .i64 (((p0q1.length : Nat) : Int) - p1)) + 1)))) then
  (cutEnds p0q1.length (some (.imm (.int .i64 x0q2))) (some (.imm (.int .i64 (IntKind.wrap .i64 (x0q2 + p1)))))).bind fun cq3 =>
  (bif fits (x0q5.length + ((p0q1.drop cq3.1).take (cq3.2 - cq3.1)).length) 8 then
  L0 fuel n0 (t0 p1 p0q1 p0q0 ((IntKind.wrap .i64 (x0q2 + 1))) ((x0q5 ++ ((p0q1.drop cq3.1).take (cq3.2 - cq3.1))))) (k0  fuel)
  else
  none)
  else
  (bif decide ((([(IntKind.wrap .i64 ((IntKind.wrap .i64 (((p0q1.length : Nat) : Int) - p1)) + 1)), p1] : List Int)).length < 9223372036854775808) then
  (bif (!(validS (([(IntKind.wrap .i64 ((IntKind.wrap .i64 (((p0q1.length : Nat) : Int) - p1)) + 1)), p1] : List Int)))) then
  some ([.agg [((.ints .i64 []), true), ((.ints .i64 []), true)], .one ((.bool false), false)], [])
  else
  (bif szB (([(IntKind.wrap .i64 ((IntKind.wrap .i64 (((p0q1.length : Nat) : Int) - p1)) + 1)), p1] : List Int)) && szB x0q5 then
  some ([.agg [((.ints .i64 (([(IntKind.wrap .i64 ((IntKind.wrap .i64 (((p0q1.length : Nat) : Int) - p1)) + 1)), p1] : List Int))), true), ((.ints .i64 x0q5), true)], .one ((.bool true), false)], [])
  else
  none))
  else
  none)) := by kernel_rfl
end spec_WindowsOf
theorem spec_WindowsOf.ok_of (hX : ∀ E ∈ spec_WindowsOf.X, CallSpec Try.prog E) (h : ∀ (sh : List Int) (da : List Int) (n : Int), (decide (sh.length < 9223372036854775808) && decide (da.length < 9223372036854775808)) = true → ∃ fuel, runF Try.prog spec_WindowsOf.X spec_WindowsOf.I 0 fuel 20 Try.f20 [.d (.agg [(.ints .i64 sh), (.ints .i64 da)]), .d (.int .i64 n)] = some ([.agg [((.ints .i64 (wiS sh da n)), true), ((.ints .i64 (wiD sh da n)), true)], .one ((.bool (wiB sh da n)), false)], [])) : CallSpec Try.prog spec_WindowsOf.E :=
  callSpec_of (d := 0) hX (by kernel_rfl) spec_WindowsOf.I_ok (by kernel_rfl) (by kernel_rfl) (by kernel_rfl) (fun _ _ _ _ h => by dsimp only [spec_WindowsOf.E] at h; cases h) (fun xs hp => by
    dsimp only [spec_WindowsOf.E] at hp ⊢
    split at hp
    · exact h _ _ _ hp
    · cases hp)
theorem spec_WindowsOf.ok : CallSpec Try.prog spec_WindowsOf.E := spec_WindowsOf.ok_of (by simp [spec_WindowsOf.X, spec_isVector.ok, spec_inRange.ok, spec_validShape.ok, spec_make1.ok]) fun sh da n h => by
  obtain ⟨F, hF⟩ : ∃ F : Nat, 100 < F := ⟨101, by omega⟩
  refine ⟨F, ?_⟩
  rw [spec_WindowsOf.e, h, cond_true]
  cases hb : vcB sh da with
  | false => simp only [wiS, wiD, wiB, wiK, hb]; rfl
  | true =>
    obtain ⟨_, _, hl, _⟩ := vcB_inv hb
    rw [w1 (by omega)]
    cases hn : decide (1 ≤ n) && decide (n ≤ ((da.length + 1 : Nat) : Int)) with
    | false => simp only [wiS, wiD, wiB, wiK, hb, hn]; rfl
    | true =>
      have hK : wiK sh da n = true := by simp only [wiK, hb, hn, Bool.and_self]
      obtain ⟨k, rfl, k1, k2, _⟩ := wiK_inv hK
      have hbd := wi_bd k2 hl
      have eR : IntKind.wrap .i64 (IntKind.wrap .i64 (((da.length : Nat) : Int) - (k : Int)) + 1) = ((da.length + 1 - k : Nat) : Int) := by
        rw [wS (x := ((da.length : Nat) : Int) - (k : Int)) (by omega) (by omega), wS (by omega) (by omega)]; omega
      simp only [Bool.not_true, cond_false]
      refine run_loop (N := da.length + 1 - k) (fun m j out => spec_WindowsOf.L0 F m (spec_WindowsOf.t0 (k : Int) da sh (j : Int) out) (spec_WindowsOf.k0 F)) (fun j out => out = tab (j * k) fun i => da.getD (i / k + i % k) 0) ?_ ?_ F 0 [] (by omega) (by omega) (by simp [tab])
      · rintro m out rfl
        rw [spec_WindowsOf.s0, eR, dge (by omega), cond_false, lt_of (by simp)]
        cases hs : validS ([((da.length + 1 - k : Nat) : Int), (k : Int)] : List Int) with
        | false =>
          have hB : wiB sh da (k : Int) = false := by simp only [wiB, hK, wiSh, Int.toNat_natCast, hs, Bool.and_false]
          simp only [wiS, wiD, hB]
          rfl
        | true =>
          have hB : wiB sh da (k : Int) = true := by simp only [wiB, hK, wiSh, Int.toNat_natCast, hs, Bool.and_self]
          rw [szB_of (by simp), szB_of (by rw [tab_length]; omega)]
          simp only [wiS, wiD, hB, wiSh, wiN, Int.toNat_natCast]
          rfl
      · rintro m j out hj rfl
        have hjl : (j + 1) * k ≤ (da.length + 1 - k) * k := Nat.mul_le_mul (by omega) (Nat.le_refl _)
        have hjl2 : (j + 1) * k = j * k + k := Nat.succ_mul _ _
        rw [spec_WindowsOf.s0, eR, dlt hj, cond_true, w1 (by omega), wAdd (by omega), cut_both (by omega) (by omega)]
        simp only [Option.bind_some]
        have ew : (da.drop j).take (j + k - j) = wpL da k j := by rw [Nat.add_sub_cancel_left]; rfl
        rw [ew, fitsOk (by rw [tab_length, wpL_length (by omega)]; omega), cond_true]
        exact ⟨_, wi_push k1 (by omega), rfl⟩

namespace impl_isVector
noncomputable def E : Entry := ⟨51, true, false, fun | [.d (.agg [(.ints .i64 sh), (.ints .i64 da)])] => decide (sh.length < 9223372036854775808) && decide (da.length < 9223372036854775808) | _ => false, fun | [.d (.agg [(.ints .i64 sh), (.ints .i64 da)])] => ([.one ((.bool (vcB sh da)), false)], []) | _ => ([], []), fun _ => [], false, fun _ => none⟩
end impl_isVector
namespace impl_isVector
noncomputable def X : List Entry := [impl_ValidArray.E]
noncomputable def I : List Inl := [⟨51, Try.f51, ⟨[], [], [], [], [], []⟩⟩]
theorem I_ok : ∀ i ∈ I, Try.prog.funcs[i.f]? = some i.fn ∧ (i.fn.name == "runtime.NumGoroutine") = false := by
  intro i hi
  simp only [I, List.mem_cons, List.not_mem_nil, or_false] at hi
  subst hi
  exact ⟨by kernel_rfl, by kernel_rfl⟩
theorem e (fuel : Nat) (p0q0 : List Int) (p0q1 : List Int) : runF Try.prog X I 0 fuel 51 Try.f51 [.d (.agg [(.ints .i64 p0q0), (.ints .i64 p0q1)])] =
  (bif decide (p0q0.length < 9223372036854775808) && decide (p0q1.length < 9223372036854775808) then
  (bif (validA p0q0 p0q1) then
  some ([.one ((.bool ((((p0q0.length : Nat) : Int) : Int) == 1)), false)], [])
  else
  some ([.one ((.bool false), false)], []))
  else
  none) := by kernel_rfl
end impl_isVector
theorem impl_isVector.ok_of (hX : ∀ E ∈ impl_isVector.X, CallSpec Try.prog E) (h : ∀ (sh : List Int) (da : List Int), (decide (sh.length < 9223372036854775808) && decide (da.length < 9223372036854775808)) = true → ∃ fuel, runF Try.prog impl_isVector.X impl_isVector.I 0 fuel 51 Try.f51 [.d (.agg [(.ints .i64 sh), (.ints .i64 da)])] = some ([.one ((.bool (vcB sh da)), false)], [])) : CallSpec Try.prog impl_isVector.E :=
  callSpec_of (d := 0) hX (by kernel_rfl) impl_isVector.I_ok (by kernel_rfl) (by kernel_rfl) (by kernel_rfl) (fun _ _ _ _ h => by dsimp only [impl_isVector.E] at h; cases h) (fun xs hp => by
    dsimp only [impl_isVector.E] at hp ⊢
    split at hp
    · exact h _ _ hp
    · cases hp)
theorem impl_isVector.ok : CallSpec Try.prog impl_isVector.E := impl_isVector.ok_of (by simp [impl_isVector.X, impl_ValidArray.ok]) fun sh da h => ⟨0, by
  rw [impl_isVector.e, h]
  unfold vcB
  cases validA sh da with
  | false => rfl
  | true =>
    rw [show ((((sh.length : Nat) : Int)) == 1) = decide (sh.length = 1) by by_cases h : sh.length = 1 <;> simp [h]; omega]
    rfl⟩

namespace impl_WindowsOf
noncomputable def E : Entry := ⟨21, false, false, fun | [.d (.agg [(.ints .i64 sh), (.ints .i64 da)]), .d (.int .i64 n)] => decide (sh.length < 9223372036854775808) && decide (da.length < 9223372036854775808) | _ => false, fun | [.d (.agg [(.ints .i64 sh), (.ints .i64 da)]), .d (.int .i64 n)] => ([.agg [((.ints .i64 (wiS sh da n)), true), ((.ints .i64 (wiD sh da n)), true)], .one ((.bool (wiB sh da n)), false)], []) | _ => ([], []), fun _ => [], true, fun _ => none⟩
end impl_WindowsOf
namespace impl_WindowsOf
noncomputable def X : List Entry := [impl_isVector.E, impl_layoutOf_j.E]
noncomputable def I : List Inl := [⟨21, Try.f21, ⟨[11, 22], [(1, [0, 1, 5, 6, 7, 8, 9, 10, 11, 12, 13, 14, 15, 16, 17, 18, 19, 20, 21, 22, 23, 24]), (4, [0, 1, 2, 5, 7, 8, 9, 10, 11, 12, 13, 14, 15, 16, 17, 18, 19, 20, 21, 22, 23, 24])], [(4, [6, 3])], [], [], []⟩⟩, ⟨45, Try.f45, ⟨[], [(1000005, [0, 3, 4, 5, 7, 8, 9, 10, 11, 12, 13, 14, 15, 16, 17, 18, 19, 20, 21, 22, 23, 24, 25, 26, 27, 28, 29, 30, 33, 34, 35, 36, 37, 38, 39, 40, 41, 42, 43, 44, 45, 46])], [], [], [], []⟩⟩, ⟨29, Try.f29, ⟨[12], [(1000006, [2, 3, 5, 6, 7, 9, 10, 11, 12, 13, 14, 15, 16, 17, 18, 19, 20, 21, 24, 25, 26, 27, 28, 29, 30, 31, 32, 33, 34, 35])], [], [], [], []⟩⟩, ⟨46, Try.f46, ⟨[], [], [], [(1, [1, 6, 0, 2, 3, 4, 5, 7, 8, 9, 10, 11])], [], []⟩⟩]
theorem I_ok : ∀ i ∈ I, Try.prog.funcs[i.f]? = some i.fn ∧ (i.fn.name == "runtime.NumGoroutine") = false := by
  intro i hi
  simp only [I, List.mem_cons, List.not_mem_nil, or_false] at hi
  rcases hi with rfl | rfl | rfl | rfl
  all_goals exact ⟨by kernel_rfl, by kernel_rfl⟩
noncomputable abbrev L0 (fuel n : Nat) (s : St) (k : Kont) := lAt Try.prog X I fuel true 3 false 45 (bodyOf Try.f45) [1, 1, 1, 0, 1, 0] n s k
noncomputable abbrev k0  (fuel : Nat) : Kont := (kAt Try.prog X I fuel true 3 false 45 (bodyOf Try.f45) [1, 1, 1, 0, 1, 0] [] (endFn Try.prog Try.f45 25 (kOp Try.prog X I fuel true 4 21 (cAt (bodyOf Try.f21) [1, 0]) 2 (kAt Try.prog X I fuel true 4 false 21 (bodyOf Try.f21) [1, 0] [] (endK Try.prog Try.f21)))))
noncomputable def t0 (p1 : Int) (p0q1 : List Int) (p0q0 : List Int) (x0q2 : Int) (x0q8 : List D) : St := ⟨[.dead, (.imm (.int .i64 p1)), (.ptr 1000000003 0 0), .dead, .dead, .dead, (.all 1000000004 1), .dead, .dead, .dead, .dead, .dead, .dead, .dead, .dead, .dead, .dead, .dead, .dead, .dead, .dead, .dead, .dead, .dead, .dead, .dead, .dead, .dead, .dead, .dead, .dead, (.imm (.int .i64 (((List.replicate ((IntKind.wrap .i64 ((IntKind.wrap .i64 (((p0q1.length : Nat) : Int) + 1)) - p1))).toNat (D.ints .i64 [])).length : Nat) : Int))), (.imm (.int .i64 x0q2)), .dead, .dead, .dead, .dead, .dead, .dead, .dead, .dead, .dead, .dead, .dead, .dead, .dead, .dead], hOf [(1000000000, (.box [(.imm (.ints .i64 p0q0)), (.imm (.ints .i64 p0q1))])), (1000000001, (.box [(.imm (.int .i64 p1))])), (1000000002, (.box [(.imm .nils), (.imm .nils)])), (1000000003, (.box [(.imm (.ints .i64 p0q0)), (.imm (.ints .i64 p0q1))])), (1000000004, (.ds 1 x0q8))], [.dead, .dead, (.ptr 1000000000 0 0), (.ptr 1000000001 0 0), (.ptr 1000000002 0 0), .dead, .dead, .dead, .dead, (.agg [(.imm (.ints .i64 p0q0)), (.imm (.ints .i64 p0q1))]), (.imm (.int .i64 p1)), .dead, .dead, .dead, .dead, .dead, .dead, .dead, .dead, .dead, .dead, .dead, .dead, .dead, .dead, (.tup [])], []⟩
noncomputable abbrev L1 (fuel n : Nat) (s : St) (k : Kont) := lAt Try.prog X I fuel true 3 false 29 (bodyOf Try.f29) [1, 1, 1, 1, 0, 1, 0] n s k
noncomputable abbrev k1  (fuel : Nat) : Kont := (kAt Try.prog X I fuel true 3 false 29 (bodyOf Try.f29) [1, 1, 1, 1, 0, 1, 0] [] (endFn Try.prog Try.f29 25 (kOp Try.prog X I fuel true 4 21 (cAt (bodyOf Try.f21) [1, 1, 1, 0]) 5 (kAt Try.prog X I fuel true 4 false 21 (bodyOf Try.f21) [1, 1, 1, 0] [] (endK Try.prog Try.f21)))))
noncomputable def t1 (p1 : Int) (x0q8 : List D) (x1q2 : Int) (x1q4 : List Int) : St := ⟨[(.all 1000000001 1), (.clo 46 [(.ptr 1000000002 0 0), (.dptr [(.int .i64 p1)] 0)]), .dead, .dead, (.ptr 1000000003 0 0), .dead, .dead, .dead, (.all 1000000004 1), .dead, .dead, .dead, .dead, .dead, .dead, .dead, .dead, .dead, .dead, .dead, .dead, .dead, (.imm (.int .i64 (((List.replicate ((volW ([((x0q8.length : Nat) : Int), p1]))).toNat (0 : Int)).length : Nat) : Int))), (.imm (.int .i64 x1q2)), .dead, .dead, .dead, .dead, .dead, .dead, .dead, .dead, .dead, .dead, .dead, .dead], hOf [(1000000000, (.box [(.imm .nils), (.imm .nils)])), (1000000001, (.ints .i64 [((x0q8.length : Nat) : Int), p1])), (1000000002, (.box [(.all 1000000005 1)])), (1000000003, (.box [(.imm .nils), (.imm .nils)])), (1000000004, (.ints .i64 x1q4)), (1000000005, (.ds 1 x0q8))], [.dead, .dead, .dead, (.dptr [(.int .i64 p1)] 0), (.ptr 1000000000 0 0), .dead, (.ptr 1000000002 0 0), .dead, .dead, .dead, .dead, .dead, .dead, .dead, .dead, .dead, .dead, (.all 1000000005 1), (.imm (.int .i64 ((x0q8.length : Nat) : Int))), (.imm (.int .i64 p1)), (.all 1000000001 1), (.clo 46 [(.ptr 1000000002 0 0), (.dptr [(.int .i64 p1)] 0)]), .dead, .dead, .dead, (.tup [])], []⟩
theorem e (fuel : Nat) (p0q0 : List Int) (p0q1 : List Int) (p1 : Int) : runF Try.prog X I 4 fuel 21 Try.f21 [.d (.agg [(.ints .i64 p0q0), (.ints .i64 p0q1)]), .d (.int .i64 p1)] =
  (bif decide (p0q0.length < 9223372036854775808) && decide (p0q1.length < 9223372036854775808) then
  (bif (!(vcB p0q0 p0q1)) then
  some ([.agg [((.ints .i64 []), true), ((.ints .i64 []), true)], .one ((.bool false), false)], [])
  else
  (bif (decide ((p1 : Int) < 1)) then
  some ([.agg [((.ints .i64 []), true), ((.ints .i64 []), true)], .one ((.bool false), false)], [])
  else
  (bif (decide ((p1 : Int) > (IntKind.wrap .i64 (((p0q1.length : Nat) : Int) + 1)))) then
  some ([.agg [((.ints .i64 []), true), ((.ints .i64 []), true)], .one ((.bool false), false)], [])
  else
  (bif decide (0 ≤ ((IntKind.wrap .i64 ((IntKind.wrap .i64 (((p0q1.length : Nat) : Int) + 1)) - p1)) : Int)) && decide (((IntKind.wrap .i64 ((IntKind.wrap .i64 (((p0q1.length : Nat) : Int) + 1)) - p1)) : Int) ≤ (IntKind.wrap .i64 ((IntKind.wrap .i64 (((p0q1.length : Nat) : Int) + 1)) - p1))) && decide (((IntKind.wrap .i64 ((IntKind.wrap .i64 (((p0q1.length : Nat) : Int) + 1)) - p1)) : Int) ≤ 1152921504606846976) && decide (((24 : Nat) : Int) * (IntKind.wrap .i64 ((IntKind.wrap .i64 (((p0q1.length : Nat) : Int) + 1)) - p1)) ≤ 281474976710656) then
  L0 fuel fuel (t0 p1 p0q1 p0q0 0 ((List.replicate ((IntKind.wrap .i64 ((IntKind.wrap .i64 (((p0q1.length : Nat) : Int) + 1)) - p1))).toNat (D.ints .i64 [])))) (k0  fuel)
  else
  none))))
  else
  none) := by kernel_rfl
theorem s0 (fuel n0 : Nat) (p1 : Int) (p0q1 : List Int) (p0q0 : List Int) (x0q2 : Int) (x0q8 : List D) : L0 fuel (n0 + 1) (t0 p1 p0q1 p0q0 x0q2 x0q8) (k0  fuel) =
  (bif (decide ((x0q2 : Int) < (((List.replicate ((IntKind.wrap .i64 ((IntKind.wrap .i64 (((p0q1.length : Nat) : Int) + 1)) - p1))).toNat (D.ints .i64 [])).length : Nat) : Int))) then
  (cutEnds p0q1.length (some (.imm (.int .i64 x0q2))) (some (.imm (.int .i64 (IntKind.wrap .i64 (x0q2 + p1)))))).bind fun cq30 =>
  (idx x0q2 x0q8.length).bind fun j31 =>
  (bif decide (j31 < x0q8.length) then
  L0 fuel n0 (t0 p1 p0q1 p0q0 ((IntKind.wrap .i64 (x0q2 + 1))) ((x0q8.set j31 (.ints .i64 ((p0q1.drop cq30.1).take (cq30.2 - cq30.1)))))) (k0  fuel)
  else
  none)
  else
  (bif decide (([((x0q8.length : Nat) : Int), p1]).length < 9223372036854775808) then
  (bif validS ([((x0q8.length : Nat) : Int), p1]) then
  (bif decide (0 ≤ ((volW ([((x0q8.length : Nat) : Int), p1])) : Int)) && decide (((volW ([((x0q8.length : Nat) : Int), p1])) : Int) ≤ (volW ([((x0q8.length : Nat) : Int), p1]))) && decide (((volW ([((x0q8.length : Nat) : Int), p1])) : Int) ≤ 1152921504606846976) && decide (((8 : Nat) : Int) * (volW ([((x0q8.length : Nat) : Int), p1])) ≤ 281474976710656) then
  L1 fuel fuel (t1 p1 x0q8 0 ((List.replicate ((volW ([((x0q8.length : Nat) : Int), p1]))).toNat (0 : Int)))) (k1  fuel)
  else
  none)
  else
  some ([.agg [((.ints .i64 []), true), ((.ints .i64 []), true)], .one ((.bool false), false)], []))
  else
  none)) := by kernel_rfl
theorem s1 (fuel n1 : Nat) (p1 : Int) (x0q8 : List D) (x1q2 : Int) (x1q4 : List Int) : L1 fuel (n1 + 1) (t1 p1 x0q8 x1q2 x1q4) (k1  fuel) =
  (bif (decide ((x1q2 : Int) < (((List.replicate ((volW ([((x0q8.length : Nat) : Int), p1]))).toNat (0 : Int)).length : Nat) : Int))) then
  (bif decide ((p1 : Int) = 0) then
  none
  else
  (idx (IntKind.wrap .i64 (Int.tdiv x1q2 p1)) x0q8.length).bind fun j37 =>
  (getI .i64 x0q8 j37).bind fun v38 =>
  (bif decide ((p1 : Int) = 0) then
  none
  else
  (idx (Int.tmod x1q2 p1) v38.length).bind fun j39 =>
  (v38[j39]?).bind fun v40 =>
  (idx x1q2 x1q4.length).bind fun j41 =>
  (bif decide (j41 < x1q4.length) then
  L1 fuel n1 (t1 p1 x0q8 ((IntKind.wrap .i64 (x1q2 + 1))) ((x1q4.set j41 v40))) (k1  fuel)
  else
  none)))
  else
  some ([.agg [((.ints .i64 [((x0q8.length : Nat) : Int), p1]), true), ((.ints .i64 x1q4), true)], .one ((.bool true), false)], [])) := by kernel_rfl
end impl_WindowsOf
theorem impl_WindowsOf.ok_of (hX : ∀ E ∈ impl_WindowsOf.X, CallSpec Try.prog E) (h : ∀ (sh : List Int) (da : List Int) (n : Int), (decide (sh.length < 9223372036854775808) && decide (da.length < 9223372036854775808)) = true → ∃ fuel, runF Try.prog impl_WindowsOf.X impl_WindowsOf.I 4 fuel 21 Try.f21 [.d (.agg [(.ints .i64 sh), (.ints .i64 da)]), .d (.int .i64 n)] = some ([.agg [((.ints .i64 (wiS sh da n)), true), ((.ints .i64 (wiD sh da n)), true)], .one ((.bool (wiB sh da n)), false)], [])) : CallSpec Try.prog impl_WindowsOf.E :=
  callSpec_of (d := 4) hX (by kernel_rfl) impl_WindowsOf.I_ok (by kernel_rfl) (by kernel_rfl) (by kernel_rfl) (fun _ _ _ _ h => by dsimp only [impl_WindowsOf.E] at h; cases h) (fun xs hp => by
    dsimp only [impl_WindowsOf.E] at hp ⊢
    split at hp
    · exact h _ _ _ hp
    · cases hp)
theorem impl_WindowsOf.ok : CallSpec Try.prog impl_WindowsOf.E := impl_WindowsOf.ok_of (by simp [impl_WindowsOf.X, impl_isVector.ok, impl_layoutOf_j.ok]) fun sh da n h => by
  obtain ⟨F, hF⟩ : ∃ F : Nat, 4000 < F := ⟨4001, by omega⟩
  refine ⟨F, ?_⟩
  rw [impl_WindowsOf.e, h, cond_true]
  cases hb : vcB sh da with
  | false => simp only [wiS, wiD, wiB, wiK, hb]; rfl
  | true =>
    obtain ⟨_, _, hl, _⟩ := vcB_inv hb
    by_cases hn1 : n < 1
    · have hK : wiK sh da n = false := by simp [wiK]; omega
      rw [decide_eq_true hn1]
      simp only [wiS, wiD, wiB, hK]; rfl
    by_cases hn2 : n > ((da.length + 1 : Nat) : Int)
    · have hK : wiK sh da n = false := by simp [wiK]; omega
      rw [decide_eq_false hn1, w1 (by omega), decide_eq_true hn2]
      simp only [wiS, wiD, wiB, hK]; rfl
    have hK : wiK sh da n = true := by simp [wiK, hb]; omega
    obtain ⟨k, rfl, k1, k2, _⟩ := wiK_inv hK
    have eC := wiC k2 hl
    have eW := w1 (j := da.length) (by omega)
    rw [decide_eq_false hn1, eW, decide_eq_false hn2]
    rw [eW] at eC
    rw [eC]
    have hXl := wiL_length da k
    simp only [Bool.not_true, cond_false]
    rw [decide_eq_true (p := (0:Int) ≤ ((da.length + 1 - k : Nat) : Int)) (by omega), decide_eq_true (p := ((da.length + 1 - k : Nat) : Int) ≤ ((da.length + 1 - k : Nat) : Int)) (by omega), decide_eq_true (p := ((da.length + 1 - k : Nat) : Int) ≤ 1152921504606846976) (by omega), decide_eq_true (p := ((24 : Nat) : Int) * ((da.length + 1 - k : Nat) : Int) ≤ 281474976710656) (by omega)]
    simp only [Bool.and_self, cond_true, Int.toNat_natCast]
    refine run_loop (N := da.length + 1 - k) (fun m j xs => impl_WindowsOf.L0 F m (impl_WindowsOf.t0 (k : Int) da sh (j : Int) xs) (impl_WindowsOf.k0 F)) (fun j xs => xs = partX (wiL da k) j) ?_ ?_ F 0 _ (by omega) (by omega) (by rw [partX_zero, hXl])
    · intro m xs hI
      rw [show partX (wiL da k) (da.length + 1 - k) = dL (wiL da k) by rw [← hXl]; exact partX_all _] at hI
      subst hI
      rw [impl_WindowsOf.s0, eW, eC]
      simp only [Int.toNat_natCast, List.length_replicate]
      rw [dge (by omega), cond_false]
      have hdl : (dL (wiL da k)).length = da.length + 1 - k := by rw [dL_length, hXl]
      simp only [hdl]
      rw [lt_of (by simp), cond_true]
      cases hs : validS ([((da.length + 1 - k : Nat) : Int), (k : Int)] : List Int) with
      | false =>
        have hB : wiB sh da (k : Int) = false := by simp only [wiB, hK, wiSh, Int.toNat_natCast, hs, Bool.and_false]
        simp only [wiS, wiD, hB]
        rfl
      | true =>
        have hB : wiB sh da (k : Int) = true := by simp only [wiB, hK, wiSh, Int.toNat_natCast, hs, Bool.and_self]
        have hvo := wi_vol (da := da) (n := k) (by unfold wiSh; rw [Int.toNat_natCast]; exact hs)
        have hvo1 := hvo.1
        unfold wiSh at hvo1
        rw [Int.toNat_natCast] at hvo1
        rw [hvo1]
        have hA := wiN_length da k
        rw [mkOk (by omega) (by omega), cond_true, cond_true, Int.toNat_natCast]
        simp only [wiS, wiD, hB, wiSh, Int.toNat_natCast]
        refine run_loop (N := (da.length + 1 - k) * k) (fun m2 i out => impl_WindowsOf.L1 F m2 (impl_WindowsOf.t1 (k : Int) (dL (wiL da k)) (i : Int) out) (impl_WindowsOf.k1 F)) (fun i out => out = part (wiN da k) i) ?_ ?_ F 0 _ (by omega) (by omega) (by rw [part_zero, hA])
        · intro m2 out hI
          have hall := part_all (wiN da k)
          rw [hA] at hall
          rw [hall] at hI
          rw [impl_WindowsOf.s1]
          simp only [hdl, hvo1, Int.toNat_natCast, List.length_replicate]
          rw [dge (by omega), cond_false, hI]
          rfl
        · intro m2 i out hi hI
          have hol : out.length = (da.length + 1 - k) * k := by rw [hI, part_length (by omega), hA]
          have hq : i / k < da.length + 1 - k := Nat.div_lt_of_lt_mul (by rw [Nat.mul_comm]; exact hi)
          have hm : i % k < k := Nat.mod_lt _ (by omega)
          have hwl := wpL_length (da := da) (n := k) (i := i / k) (by omega)
          have ed : Int.tdiv (i : Int) (k : Int) = ((i / k : Nat) : Int) := rfl
          have hg : (wpL da k (i / k))[i % k]? = some (da.getD (i / k + i % k) 0) := by
            rw [wpL_tab (by omega), tab_get hm]
          rw [impl_WindowsOf.s1]
          simp only [hdl, hvo1, Int.toNat_natCast, List.length_replicate]
          rw [dlt hi, cond_true, decide_eq_false (p := (k : Int) = 0) (by omega), cond_false, ed, wN (n := i / k) (by omega), idx_nat hq, tmodN, w1 (by omega)]
          simp only [Option.bind_some, getI_dL, wiL_get' hq, cond_false]
          rw [hwl, idx_nat hm, idx_nat (j := i) (by omega)]
          simp only [Option.bind_some, hg]
          rw [decide_eq_true (by omega), cond_true]
          refine ⟨_, ?_, rfl⟩
          rw [hI, part_set (by omega)]
          simp only [wiN]
          rw [tab_getD hi]
    · intro m j xs hj hI
      have hle : xs.length = da.length + 1 - k := by rw [hI, partX_length (by omega), hXl]
      rw [impl_WindowsOf.s0, eW, eC]
      simp only [Int.toNat_natCast, List.length_replicate]
      rw [dlt hj, cond_true, w1 (by omega), wAdd (by omega), cut_both (by omega) (by omega), idx_nat (by omega)]
      simp only [Option.bind_some]
      rw [decide_eq_true (by omega), cond_true, show (da.drop j).take (j + k - j) = wpL da k j by rw [Nat.add_sub_cancel_left]; rfl]
      exact ⟨_, by rw [hI, wiX_set (by omega)], rfl⟩

namespace laws_FnExactWindowsOf
noncomputable def E : Entry := ⟨6, true, false, fun | [.d (.agg [(.ints .i64 sh), (.ints .i64 da)]), .d (.int .i64 n)] => decide (sh.length < 9223372036854775808) && decide (da.length < 9223372036854775808) | _ => false, fun | [.d (.agg [(.ints .i64 sh), (.ints .i64 da)]), .d (.int .i64 n)] => ([.one ((.bool true), false)], []) | _ => ([], []), fun _ => [], false, fun _ => none⟩
end laws_FnExactWindowsOf
namespace laws_FnExactWindowsOf
noncomputable def X : List Entry := [laws_szArray.E, laws_toArray.E, spec_WindowsOf.E, impl_WindowsOf.E, laws_eqArray.E, laws_markArray.E, laws_heldArray.E]
noncomputable def I : List Inl := [⟨6, Try.f6, ⟨[23, 25, 29, 33, 47, 79, 81], [], [], [], [], []⟩⟩]
theorem I_ok : ∀ i ∈ I, Try.prog.funcs[i.f]? = some i.fn ∧ (i.fn.name == "runtime.NumGoroutine") = false := by
  intro i hi
  simp only [I, List.mem_cons, List.not_mem_nil, or_false] at hi
  subst hi
  exact ⟨by kernel_rfl, by kernel_rfl⟩
theorem e (fuel : Nat) (p0q0 : List Int) (p0q1 : List Int) (p1 : Int) : runF Try.prog X I 0 fuel 6 Try.f6 [.d (.agg [(.ints .i64 p0q0), (.ints .i64 p0q1)]), .d (.int .i64 p1)] =
  (bif (decide (((szA p0q0 p0q1 1048576) : Int) < 0)) then
  some ([.one ((.bool true), false)], [])
  else
  (bif szB p0q0 && szB p0q1 then
  (bif decide (p0q0.length < 9223372036854775808) && decide (p0q1.length < 9223372036854775808) then
  (bif szB p0q0 && szB p0q1 then
  (bif decide (p0q0.length < 9223372036854775808) && decide (p0q1.length < 9223372036854775808) then
  (bif decide (((wiS p0q0 p0q1 p1)).length < 9223372036854775808) && decide (((wiD p0q0 p0q1 p1)).length < 9223372036854775808) && decide (((wiS p0q0 p0q1 p1)).length < 9223372036854775808) && decide (((wiD p0q0 p0q1 p1)).length < 9223372036854775808) then
  (bif (!(decide (((wiS p0q0 p0q1 p1)) = ((wiS p0q0 p0q1 p1))) && decide (((wiD p0q0 p0q1 p1)) = ((wiD p0q0 p0q1 p1))))) then
  some ([.one ((.bool false), false)], [])
  else
  (bif (!((wiB p0q0 p0q1 p1) == (wiB p0q0 p0q1 p1))) then
  some ([.one ((.bool false), false)], [])
  else
  (bif szB p0q0 && szB p0q1 then
  (bif decide (p0q0.length < 9223372036854775808) && decide (p0q1.length < 9223372036854775808) && decide (p0q0.length < 9223372036854775808) && decide (p0q1.length < 9223372036854775808) then
  (bif (!(decide (p0q0 = p0q0) && decide (p0q1 = p0q1))) then
  some ([.one ((.bool false), false)], [])
  else
  (bif decide (p0q0.length < 9223372036854775808) && decide (p0q1.length < 9223372036854775808) then
  (bif (decide (((markK p0q1 (markK p0q0 1)) : Int) < 0)) then
  some ([.one ((.bool false), false)], [])
  else
  (bif decide (((wiS p0q0 p0q1 p1)).length < 9223372036854775808) && decide (((wiD p0q0 p0q1 p1)).length < 9223372036854775808) && decide (((wiS p0q0 p0q1 p1)).length < 9223372036854775808) && decide (((wiD p0q0 p0q1 p1)).length < 9223372036854775808) then
  (bif (!(decide (((wiS p0q0 p0q1 p1)) = ((wiS p0q0 p0q1 p1))) && decide (((wiD p0q0 p0q1 p1)) = ((wiD p0q0 p0q1 p1))))) then
  some ([.one ((.bool false), false)], [])
  else
  (bif (!((wiB p0q0 p0q1 p1) == (wiB p0q0 p0q1 p1))) then
  some ([.one ((.bool false), false)], [])
  else
  (bif decide (((wiS p0q0 p0q1 p1)).length < 9223372036854775808) && decide (((wiD p0q0 p0q1 p1)).length < 9223372036854775808) then
  (bif decide (((markL ((wiS p0q0 p0q1 p1)) 1)).length < 9223372036854775808) && decide (((markL ((wiD p0q0 p0q1 p1)) (markK ((wiS p0q0 p0q1 p1)) 1))).length < 9223372036854775808) then
  (bif (decide (((heldA ((markL ((wiS p0q0 p0q1 p1)) 1)) ((markL ((wiD p0q0 p0q1 p1)) (markK ((wiS p0q0 p0q1 p1)) 1))) 1) : Int) < 0)) then
  some ([.one ((.bool false), false)], [])
  else
  (bif (((heldA ((markL ((wiS p0q0 p0q1 p1)) 1)) ((markL ((wiD p0q0 p0q1 p1)) (markK ((wiS p0q0 p0q1 p1)) 1))) 1) : Int) != (markK ((wiD p0q0 p0q1 p1)) (markK ((wiS p0q0 p0q1 p1)) 1))) then
  some ([.one ((.bool false), false)], [])
  else
  (bif szB p0q0 && szB p0q1 then
  (bif decide (p0q0.length < 9223372036854775808) && decide (p0q1.length < 9223372036854775808) then
  (bif decide (((wiS p0q0 p0q1 p1)).length < 9223372036854775808) && decide (((wiD p0q0 p0q1 p1)).length < 9223372036854775808) && decide (((wiS p0q0 p0q1 p1)).length < 9223372036854775808) && decide (((wiD p0q0 p0q1 p1)).length < 9223372036854775808) then
  (bif (!(decide (((wiS p0q0 p0q1 p1)) = ((wiS p0q0 p0q1 p1))) && decide (((wiD p0q0 p0q1 p1)) = ((wiD p0q0 p0q1 p1))))) then
  some ([.one ((.bool false), false)], [])
  else
  (bif (!((wiB p0q0 p0q1 p1) == (wiB p0q0 p0q1 p1))) then
  some ([.one ((.bool false), false)], [])
  else
  (bif decide (((markL ((wiS p0q0 p0q1 p1)) 1)).length < 9223372036854775808) && decide (((markL ((wiD p0q0 p0q1 p1)) (markK ((wiS p0q0 p0q1 p1)) 1))).length < 9223372036854775808) then
  (bif (decide (((heldA ((markL ((wiS p0q0 p0q1 p1)) 1)) ((markL ((wiD p0q0 p0q1 p1)) (markK ((wiS p0q0 p0q1 p1)) 1))) 1) : Int) < 0)) then
  some ([.one ((.bool false), false)], [])
  else
  (bif (((heldA ((markL ((wiS p0q0 p0q1 p1)) 1)) ((markL ((wiD p0q0 p0q1 p1)) (markK ((wiS p0q0 p0q1 p1)) 1))) 1) : Int) != (markK ((wiD p0q0 p0q1 p1)) (markK ((wiS p0q0 p0q1 p1)) 1))) then
  some ([.one ((.bool false), false)], [])
  else
  some ([.one ((.bool true), false)], [])))
  else
  none)))
  else
  none)
  else
  none)
  else
  none)))
  else
  none)
  else
  none)))
  else
  none))
  else
  none))
  else
  none)
  else
  none)))
  else
  none)
  else
  none)
  else
  none)
  else
  none)
  else
  none)) := by kernel_rfl
end laws_FnExactWindowsOf
theorem laws_FnExactWindowsOf.ok_of (hX : ∀ E ∈ laws_FnExactWindowsOf.X, CallSpec Try.prog E) (h : ∀ (sh : List Int) (da : List Int) (n : Int), (decide (sh.length < 9223372036854775808) && decide (da.length < 9223372036854775808)) = true → ∃ fuel, runF Try.prog laws_FnExactWindowsOf.X laws_FnExactWindowsOf.I 0 fuel 6 Try.f6 [.d (.agg [(.ints .i64 sh), (.ints .i64 da)]), .d (.int .i64 n)] = some ([.one ((.bool true), false)], [])) : CallSpec Try.prog laws_FnExactWindowsOf.E :=
  callSpec_of (d := 0) hX (by kernel_rfl) laws_FnExactWindowsOf.I_ok (by kernel_rfl) (by kernel_rfl) (by kernel_rfl) (fun _ _ _ _ h => by dsimp only [laws_FnExactWindowsOf.E] at h; cases h) (fun xs hp => by
    dsimp only [laws_FnExactWindowsOf.E] at hp ⊢
    split at hp
    · exact h _ _ _ hp
    · cases hp)
theorem laws_FnExactWindowsOf.ok : CallSpec Try.prog laws_FnExactWindowsOf.E := laws_FnExactWindowsOf.ok_of (by simp [laws_FnExactWindowsOf.X, laws_szArray.ok, laws_toArray.ok, spec_WindowsOf.ok, impl_WindowsOf.ok, laws_eqArray.ok, laws_markArray.ok, laws_heldArray.ok]) fun sh da n h => ⟨0, by
  rw [laws_FnExactWindowsOf.e]
  simp only [Bool.and_eq_true] at h
  obtain ⟨g0, g1⟩ := h
  by_cases a0 : szA sh da 1048576 < 0
  · rw [decide_eq_true a0]; rfl
  obtain ⟨q0, p0⟩ := szA_le (by omega) (by omega) (of_decide_eq_true g0) (of_decide_eq_true g1) a0
  have z0 := szB_of (xs := sh) (by omega)
  have z1 := szB_of (xs := da) (by omega)
  have hl := wi_len sh da n
  obtain ⟨r0a, r0b, r0c, r0d, r0e, r0f⟩ := marks_ok (sh := (wiS sh da n)) (da := (wiD sh da n)) (by omega) (by omega)
  have mk := mark2_ok (xs := sh) (ys := da) (by omega) (by omega)
  simp only [decide_eq_false a0, g0, g1, z0, z1, r0a, r0b, r0c, r0d, r0e, r0f, mk, bne_self_eq_false, beq_self_eq_true, decide_true, Bool.and_self, Bool.not_true, cond_true, cond_false]⟩

namespace spec_NeighboursOf
noncomputable def E : Entry := ⟨22, false, false, fun | [.d (.int .i64 op), .d (.agg [(.ints .i64 sh), (.ints .i64 da)])] => decide (sh.length < 9223372036854775808) && decide (da.length < 9223372036854775808) | _ => false, fun | [.d (.int .i64 op), .d (.agg [(.ints .i64 sh), (.ints .i64 da)])] => ([.agg [((.ints .i64 (nbS op sh da)), true), ((.ints .i64 (nbD op sh da)), true)], .one ((.bool (nbB op sh da)), false)], []) | _ => ([], []), fun _ => [], true, fun _ => none⟩
end spec_NeighboursOf
namespace spec_NeighboursOf
noncomputable def X : List Entry := [spec_isVector.E, spec_validOp.E, spec_operate.E, spec_vector.E]
noncomputable def I : List Inl := [⟨22, Try.f22, ⟨[48], [(1000005, [1, 2, 5, 8, 9, 10, 11, 12, 13, 14, 15, 16, 17, 18, 19, 20, 21, 22, 23, 24, 25, 26, 27, 28, 29, 30, 31, 32, 33, 34, 35, 36, 37, 38, 39, 40, 41, 42, 43, 44, 45, 46, 47, 48])], [], [(7, [0, 1, 2, 4, 5, 8, 10, 3, 6, 7, 9, 11, 12, 13, 14, 15, 16])], [], []⟩⟩]
theorem I_ok : ∀ i ∈ I, Try.prog.funcs[i.f]? = some i.fn ∧ (i.fn.name == "runtime.NumGoroutine") = false := by
  intro i hi
  simp only [I, List.mem_cons, List.not_mem_nil, or_false] at hi
  subst hi
  exact ⟨by kernel_rfl, by kernel_rfl⟩
noncomputable abbrev L0 (fuel n : Nat) (s : St) (k : Kont) := lAt Try.prog X I fuel true 0 false 22 (bodyOf Try.f22) [1, 1, 1, 0, 1, 0] n s k
noncomputable abbrev k0  (fuel : Nat) : Kont := (kAt Try.prog X I fuel true 0 false 22 (bodyOf Try.f22) [1, 1, 1, 0, 1, 0] [] (endK Try.prog Try.f22))
noncomputable def t0 (p0 : Int) (p1q0 : List Int) (p1q1 : List Int) (x0q1 : Int) (x0q4 : List Int) : St := ⟨[(.imm (.int .i64 p0)), .dead, .dead, (.ptr 1000000000 0 0), (.ptr 1000000001 0 0), .dead, (.all 1000000002 1), (.imm (.int .i64 x0q1)), .dead, .dead, .dead, .dead, .dead, .dead, .dead, .dead, .dead, .dead, .dead, .dead, .dead, .dead, .dead, .dead, .dead, .dead, .dead, .dead, .dead, .dead, .dead, .dead, .dead, .dead, .dead, .dead, .dead, .dead, .dead, .dead, .dead, .dead, .dead, .dead, .dead, .dead, .dead, .dead, .dead], hOf [(1000000000, (.box [(.imm (.ints .i64 p1q0)), (.imm (.ints .i64 p1q1))])), (1000000001, (.box [(.imm .nils), (.imm .nils)])), (1000000002, (.ints .i64 x0q4))], [], []⟩
theorem e (fuel : Nat) (p0 : Int) (p1q0 : List Int) (p1q1 : List Int) : runF Try.prog X I 0 fuel 22 Try.f22 [.d (.int .i64 p0), .d (.agg [(.ints .i64 p1q0), (.ints .i64 p1q1)])] =
  (bif decide (p1q0.length < 9223372036854775808) && decide (p1q1.length < 9223372036854775808) then
  (bif (!(vcB p1q0 p1q1)) then
  some ([.agg [((.ints .i64 []), true), ((.ints .i64 []), true)], .one ((.bool false), false)], [])
  else
  (bif (!(opOk p0)) then
  some ([.agg [((.ints .i64 []), true), ((.ints .i64 []), true)], .one ((.bool false), false)], [])
  else
  (bif ((((p1q1.length : Nat) : Int) : Int) == 0) then
  some ([.agg [((.ints .i64 []), true), ((.ints .i64 []), true)], .one ((.bool false), false)], [])
  else
  L0 fuel fuel (t0 p0 p1q0 p1q1 1 ([])) (k0  fuel))))
  else
  none) := by kernel_rfl
theorem s0 (fuel n0 : Nat) (p0 : Int) (p1q0 : List Int) (p1q1 : List Int) (x0q1 : Int) (x0q4 : List Int) : L0 fuel (n0 + 1) (t0 p0 p1q0 p1q1 x0q1 x0q4) (k0  fuel) =
  (bif (decide ((x0q1 : Int) < ((p1q1.length : Nat) : Int))) then
  (idx (IntKind.wrap .i64 (x0q1 - 1)) p1q1.length).bind fun j9 =>
  (p1q1[j9]?).bind fun v10 =>
  (idx x0q1 p1q1.length).bind fun j11 =>
  (p1q1[j11]?).bind fun v12 =>
  (bif fits (x0q4.length + ([(operF p0 v10 v12)] : List Int).length) 8 then
  L0 fuel n0 (t0 p0 p1q0 p1q1 ((IntKind.wrap .i64 (x0q1 + 1))) ((x0q4 ++ [(operF p0 v10 v12)]))) (k0  fuel)
  else
  none)
  else
  (bif szB x0q4 then
  some ([.agg [((.ints .i64 [((x0q4.length : Nat) : Int)]), true), ((.ints .i64 x0q4), true)], .one ((.bool true), false)], [])
  else
  none)) := by kernel_rfl
end spec_NeighboursOf
theorem spec_NeighboursOf.ok_of (hX : ∀ E ∈ spec_NeighboursOf.X, CallSpec Try.prog E) (h : ∀ (op : Int) (sh : List Int) (da : List Int), (decide (sh.length < 9223372036854775808) && decide (da.length < 9223372036854775808)) = true → ∃ fuel, runF Try.prog spec_NeighboursOf.X spec_NeighboursOf.I 0 fuel 22 Try.f22 [.d (.int .i64 op), .d (.agg [(.ints .i64 sh), (.ints .i64 da)])] = some ([.agg [((.ints .i64 (nbS op sh da)), true), ((.ints .i64 (nbD op sh da)), true)], .one ((.bool (nbB op sh da)), false)], [])) : CallSpec Try.prog spec_NeighboursOf.E :=
  callSpec_of (d := 0) hX (by kernel_rfl) spec_NeighboursOf.I_ok (by kernel_rfl) (by kernel_rfl) (by kernel_rfl) (fun _ _ _ _ h => by dsimp only [spec_NeighboursOf.E] at h; cases h) (fun xs hp => by
    dsimp only [spec_NeighboursOf.E] at hp ⊢
    split at hp
    · exact h _ _ _ hp
    · cases hp)
theorem spec_NeighboursOf.ok : CallSpec Try.prog spec_NeighboursOf.E := spec_NeighboursOf.ok_of (by simp [spec_NeighboursOf.X, spec_isVector.ok, spec_validOp.ok, spec_operate.ok, spec_vector.ok]) fun op sh da h => by
  obtain ⟨F, hF⟩ : ∃ F : Nat, 100 < F := ⟨101, by omega⟩
  refine ⟨F, ?_⟩
  rw [spec_NeighboursOf.e, h, cond_true]
  unfold nbS nbD nbB
  cases hb : vcB sh da with
  | false => cases opOk op <;> rfl
  | true =>
    cases ho : opOk op with
    | false => rfl
    | true =>
      obtain ⟨_, _, hl, _⟩ := vcB_inv hb
      by_cases h0 : 0 < da.length
      · rw [decide_eq_true h0, beq0 (by omega)]
        simp only [Bool.and_self, Bool.not_true, cond_false, cond_true]
        refine run_loop (N := da.length - 1) (fun m j out => spec_NeighboursOf.L0 F m (spec_NeighboursOf.t0 op sh da ((j + 1 : Nat) : Int) out) (spec_NeighboursOf.k0 F)) (fun j out => out = tab j fun i => operF op (da.getD i 0) (da.getD (i + 1) 0)) ?_ ?_ F 0 [] (by omega) (by omega) rfl
        · rintro m out rfl
          rw [spec_NeighboursOf.s0, dge (by omega), cond_false, szB_of (by rw [tab_length]; omega), tab_length]
          rfl
        · rintro m j out hj rfl
          rw [spec_NeighboursOf.s0, dlt (by omega), cond_true, show IntKind.wrap .i64 (((j + 1 : Nat) : Int) - 1) = (j : Int) by rw [wS (by omega) (by omega)]; omega, idx_nat (j := j) (by omega), idx_nat (j := j + 1) (by omega), w1 (by omega)]
          simp only [Option.bind_some, getD_get (show j < da.length by omega), getD_get (show j + 1 < da.length by omega)]
          rw [fitsOk (by rw [tab_length]; simp only [List.length_cons, List.length_nil]; omega), cond_true]
          exact ⟨_, by rw [tab_succ], rfl⟩
      · have e0 : ((((da.length : Nat) : Int) : Int) == 0) = true := by rw [beq_iff_eq]; omega
        rw [decide_eq_false h0, e0]; rfl

namespace impl_copyList
noncomputable def E : Entry := ⟨78, false, false, fun | [.d (.ints .i64 xs)] => szB xs | _ => false, fun | [.d (.ints .i64 xs)] => ([.one ((.ints .i64 xs), true)], []) | _ => ([], []), fun _ => [], true, fun _ => none⟩
end impl_copyList
namespace impl_copyList
noncomputable def X : List Entry := []
noncomputable def I : List Inl := [⟨78, Try.f78, ⟨[], [], [], [], [], []⟩⟩]
theorem I_ok : ∀ i ∈ I, Try.prog.funcs[i.f]? = some i.fn ∧ (i.fn.name == "runtime.NumGoroutine") = false := by
  intro i hi
  simp only [I, List.mem_cons, List.not_mem_nil, or_false] at hi
  subst hi
  exact ⟨by kernel_rfl, by kernel_rfl⟩
theorem e (fuel : Nat) (p0 : List Int) : runF Try.prog X I 0 fuel 78 Try.f78 [.d (.ints .i64 p0)] =
  (bif decide (0 ≤ (((p0.length : Nat) : Int) : Int)) && decide ((((p0.length : Nat) : Int) : Int) ≤ ((p0.length : Nat) : Int)) && decide ((((p0.length : Nat) : Int) : Int) ≤ 1152921504606846976) && decide (((8 : Nat) : Int) * ((p0.length : Nat) : Int) ≤ 281474976710656) then
  some ([.one ((.ints .i64 (copyL (List.replicate (((p0.length : Nat) : Int)).toNat (0 : Int)) 0 (List.replicate (((p0.length : Nat) : Int)).toNat (0 : Int)).length p0)), true)], [])
  else
  none) := by kernel_rfl
end impl_copyList
theorem impl_copyList.ok_of (hX : ∀ E ∈ impl_copyList.X, CallSpec Try.prog E) (h : ∀ (xs : List Int), (szB xs) = true → ∃ fuel, runF Try.prog impl_copyList.X impl_copyList.I 0 fuel 78 Try.f78 [.d (.ints .i64 xs)] = some ([.one ((.ints .i64 xs), true)], [])) : CallSpec Try.prog impl_copyList.E :=
  callSpec_of (d := 0) hX (by kernel_rfl) impl_copyList.I_ok (by kernel_rfl) (by kernel_rfl) (by kernel_rfl) (fun _ _ _ _ h => by dsimp only [impl_copyList.E] at h; cases h) (fun xs hp => by
    dsimp only [impl_copyList.E] at hp ⊢
    split at hp
    · exact h _ hp
    · cases hp)
theorem impl_copyList.ok : CallSpec Try.prog impl_copyList.E := impl_copyList.ok_of (by simp [impl_copyList.X]) fun xs h => ⟨0, by
  have hx := szB_le h
  rw [impl_copyList.e, mkOk (by omega) (by omega)]
  simp only [cond_true, Int.toNat_natCast, copyL_all]⟩

namespace impl_VectorOf
noncomputable def E : Entry := ⟨52, false, false, fun | [.d (.ints .i64 xs)] => szB xs | _ => false, fun | [.d (.ints .i64 xs)] => ([.agg [((.ints .i64 (vecS xs)), true), ((.ints .i64 (vecD xs)), true)]], []) | _ => ([], []), fun _ => [], true, fun _ => none⟩
end impl_VectorOf
namespace impl_VectorOf
noncomputable def X : List Entry := [impl_ValidArray.E, impl_copyList.E]
noncomputable def I : List Inl := [⟨52, Try.f52, ⟨[15], [], [], [], [], []⟩⟩]
theorem I_ok : ∀ i ∈ I, Try.prog.funcs[i.f]? = some i.fn ∧ (i.fn.name == "runtime.NumGoroutine") = false := by
  intro i hi
  simp only [I, List.mem_cons, List.not_mem_nil, or_false] at hi
  subst hi
  exact ⟨by kernel_rfl, by kernel_rfl⟩
theorem e (fuel : Nat) (p0 : List Int) : runF Try.prog X I 0 fuel 52 Try.f52 [.d (.ints .i64 p0)] =
  (bif decide (([((p0.length : Nat) : Int)]).length < 9223372036854775808) && decide (p0.length < 9223372036854775808) then
  (bif (!(validA ([((p0.length : Nat) : Int)]) p0)) then
  some ([.agg [((.ints .i64 []), true), ((.ints .i64 []), true)]], [])
  else
  (bif szB p0 then
  some ([.agg [((.ints .i64 [((p0.length : Nat) : Int)]), true), ((.ints .i64 p0), true)]], [])
  else
  none))
  else
  none) := by kernel_rfl
end impl_VectorOf
theorem impl_VectorOf.ok_of (hX : ∀ E ∈ impl_VectorOf.X, CallSpec Try.prog E) (h : ∀ (xs : List Int), (szB xs) = true → ∃ fuel, runF Try.prog impl_VectorOf.X impl_VectorOf.I 0 fuel 52 Try.f52 [.d (.ints .i64 xs)] = some ([.agg [((.ints .i64 (vecS xs)), true), ((.ints .i64 (vecD xs)), true)]], [])) : CallSpec Try.prog impl_VectorOf.E :=
  callSpec_of (d := 0) hX (by kernel_rfl) impl_VectorOf.I_ok (by kernel_rfl) (by kernel_rfl) (by kernel_rfl) (fun _ _ _ _ h => by dsimp only [impl_VectorOf.E] at h; cases h) (fun xs hp => by
    dsimp only [impl_VectorOf.E] at hp ⊢
    split at hp
    · exact h _ hp
    · cases hp)
theorem validA_vec0 (xs : List Int) (hx : xs.length < 9223372036854775808) : validA [((xs.length : Nat) : Int)] xs = vecOk xs := by
  have e1 := @wS ((xs.length : Nat) : Int) (by omega) (by omega)
  by_cases h1 : xs.length ≤ 60
  · have h2 : ((xs.length : Nat) : Int) ≤ 60 := by omega
    simp [validA, validS, vecOk, allB_cons, allB_nil, volW, volFrom, e1, h1, h2]
  · have h2 : ¬ ((xs.length : Nat) : Int) ≤ 60 := by omega
    simp [validA, validS, vecOk, allB_cons, allB_nil, volW, volFrom, e1, h1, h2]

theorem impl_VectorOf.ok : CallSpec Try.prog impl_VectorOf.E := impl_VectorOf.ok_of (by simp [impl_VectorOf.X, impl_ValidArray.ok, impl_copyList.ok]) fun xs h => ⟨0, by
  rw [impl_VectorOf.e, lt_of (szB_lt h), h, validA_vec0 xs (szB_lt h), lt_of (by simp)]
  unfold vecS vecD
  cases vecOk xs <;> rfl⟩

namespace impl_NeighboursOf
noncomputable def E : Entry := ⟨23, false, false, fun | [.d (.int .i64 op), .d (.agg [(.ints .i64 sh), (.ints .i64 da)])] => decide (sh.length < 9223372036854775808) && decide (da.length < 9223372036854775808) | _ => false, fun | [.d (.int .i64 op), .d (.agg [(.ints .i64 sh), (.ints .i64 da)])] => ([.agg [((.ints .i64 (nbS op sh da)), true), ((.ints .i64 (nbD op sh da)), true)], .one ((.bool (nbB op sh da)), false)], []) | _ => ([], []), fun _ => [], true, fun _ => none⟩
end impl_NeighboursOf
namespace impl_NeighboursOf
noncomputable def X : List Entry := [impl_functionOfTwo_f.E, impl_isVector.E, impl_pairwise.E, impl_VectorOf.E]
noncomputable def I : List Inl := [⟨23, Try.f23, ⟨[36, 37], [], [], [(5, [0, 1, 3, 5, 2, 4, 6, 7, 8, 9, 10, 11])], [], []⟩⟩]
theorem I_ok : ∀ i ∈ I, Try.prog.funcs[i.f]? = some i.fn ∧ (i.fn.name == "runtime.NumGoroutine") = false := by
  intro i hi
  simp only [I, List.mem_cons, List.not_mem_nil, or_false] at hi
  subst hi
  exact ⟨by kernel_rfl, by kernel_rfl⟩
theorem e (fuel : Nat) (p0 : Int) (p1q0 : List Int) (p1q1 : List Int) : runF Try.prog X I 0 fuel 23 Try.f23 [.d (.int .i64 p0), .d (.agg [(.ints .i64 p1q0), (.ints .i64 p1q1)])] =
  (bif opOk p0 then
  (bif decide (p1q0.length < 9223372036854775808) && decide (p1q1.length < 9223372036854775808) then
  (bif (!(vcB p1q0 p1q1)) then
  some ([.agg [((.ints .i64 []), true), ((.ints .i64 []), true)], .one ((.bool false), false)], [])
  else
  (bif ((((p1q1.length : Nat) : Int) : Int) == 0) then
  some ([.agg [((.ints .i64 []), true), ((.ints .i64 []), true)], .one ((.bool false), false)], [])
  else
  (cutEnds p1q1.length (none) (some (.imm (.int .i64 (IntKind.wrap .i64 (((p1q1.length : Nat) : Int) - 1)))))).bind fun cq1 =>
  (cutEnds p1q1.length (some (.imm (.int .i64 1))) (none)).bind fun cq2 =>
  (bif szB (((p1q1.drop cq1.1).take (cq1.2 - cq1.1))) && decide ((((p1q1.drop cq1.1).take (cq1.2 - cq1.1))).length ≤ (((p1q1.drop cq2.1).take (cq2.2 - cq2.1))).length) && pwB q2 (((p1q1.drop cq1.1).take (cq1.2 - cq1.1))) (((p1q1.drop cq2.1).take (cq2.2 - cq2.1))) then
  (bif szB ((pwD ((q2v (operF p0))) (((p1q1.drop cq1.1).take (cq1.2 - cq1.1))) (((p1q1.drop cq2.1).take (cq2.2 - cq2.1))))) then
  some ([.agg [((.ints .i64 (vecS ((pwD ((q2v (operF p0))) (((p1q1.drop cq1.1).take (cq1.2 - cq1.1))) (((p1q1.drop cq2.1).take (cq2.2 - cq2.1))))))), true), ((.ints .i64 (vecD ((pwD ((q2v (operF p0))) (((p1q1.drop cq1.1).take (cq1.2 - cq1.1))) (((p1q1.drop cq2.1).take (cq2.2 - cq2.1))))))), true)], .one ((.bool true), false)], [])
  else
  none)
  else
  none)))
  else
  none)
  else
  some ([.agg [((.ints .i64 []), true), ((.ints .i64 []), true)], .one ((.bool false), false)], [])) := by kernel_rfl
end impl_NeighboursOf
theorem impl_NeighboursOf.ok_of (hX : ∀ E ∈ impl_NeighboursOf.X, CallSpec Try.prog E) (h : ∀ (op : Int) (sh : List Int) (da : List Int), (decide (sh.length < 9223372036854775808) && decide (da.length < 9223372036854775808)) = true → ∃ fuel, runF Try.prog impl_NeighboursOf.X impl_NeighboursOf.I 0 fuel 23 Try.f23 [.d (.int .i64 op), .d (.agg [(.ints .i64 sh), (.ints .i64 da)])] = some ([.agg [((.ints .i64 (nbS op sh da)), true), ((.ints .i64 (nbD op sh da)), true)], .one ((.bool (nbB op sh da)), false)], [])) : CallSpec Try.prog impl_NeighboursOf.E :=
  callSpec_of (d := 0) hX (by kernel_rfl) impl_NeighboursOf.I_ok (by kernel_rfl) (by kernel_rfl) (by kernel_rfl) (fun _ _ _ _ h => by dsimp only [impl_NeighboursOf.E] at h; cases h) (fun xs hp => by
    dsimp only [impl_NeighboursOf.E] at hp ⊢
    split at hp
    · exact h _ _ _ hp
    · cases hp)
theorem impl_NeighboursOf.ok : CallSpec Try.prog impl_NeighboursOf.E := impl_NeighboursOf.ok_of (by simp [impl_NeighboursOf.X, impl_functionOfTwo_f.ok, impl_isVector.ok, impl_pairwise.ok, impl_VectorOf.ok]) fun op sh da h => ⟨0, by
  rw [impl_NeighboursOf.e, h]
  cases ho : opOk op with
  | false => simp only [nbS, nbD, nbB, ho]; rfl
  | true =>
    cases hb : vcB sh da with
    | false => simp only [nbS, nbD, nbB, ho, hb]; rfl
    | true =>
      obtain ⟨_, _, hl, _⟩ := vcB_inv hb
      by_cases h0 : 0 < da.length
      · have hB : nbB op sh da = true := by simp only [nbB, ho, hb, decide_eq_true h0, Bool.and_self]
        have hv := nb_vec hB
        obtain ⟨e1, e2⟩ := vecOk_eq hv
        obtain ⟨k, hk⟩ : ∃ k, da.length = k + 1 := ⟨da.length - 1, by omega⟩
        have hc1 : cutEnds da.length none (some (.imm (.int .i64 (IntKind.wrap .i64 (((da.length : Nat) : Int) - 1))))) = some (0, k) := by
          rw [hk, show IntKind.wrap .i64 (((k + 1 : Nat) : Int) - 1) = (k : Int) by rw [wS (by omega) (by omega)]; omega]
          exact cut_hi (by omega)
        have hc2 : cutEnds da.length (some (.imm (.int .i64 1))) none = some (1, k + 1) := by
          rw [hk]; exact cut_one (by omega)
        have hpw : pwD (q2v (operF op)) ((da.drop 0).take (k - 0)) ((da.drop 1).take (k + 1 - 1)) = nbN op da := by
          rw [pwD_q2]
          have : ((da.drop 0).take (k - 0)).length = da.length - 1 := by simp; omega
          rw [this]
          refine tab_congr fun i hi => ?_
          congr 1
          · simp [List.getD, List.getElem?_take, show i < k by omega]
          · simp [List.getD, List.getElem?_take, show i < k by omega, Nat.add_comm]
        rw [beq0 (by omega), hc1, hc2]
        simp only [Option.bind_some, Bool.not_true, cond_true, cond_false]
        rw [hpw, szB_of (by simp; omega), decide_eq_true (by simp; omega), pwB_q2, szB_of (by rw [nbN_length]; omega), e1, e2, nbN_length]
        simp only [nbS, nbD, hB, Bool.and_self, cond_true]
      · have e0 : ((((da.length : Nat) : Int) : Int) == 0) = true := by rw [beq_iff_eq]; omega
        rw [e0]
        simp only [nbS, nbD, nbB, ho, hb, decide_eq_false h0]
        rfl⟩

namespace laws_FnExactNeighboursOf
noncomputable def E : Entry := ⟨7, true, false, fun | [.d (.int .i64 op), .d (.agg [(.ints .i64 sh), (.ints .i64 da)])] => decide (sh.length < 9223372036854775808) && decide (da.length < 9223372036854775808) | _ => false, fun | [.d (.int .i64 op), .d (.agg [(.ints .i64 sh), (.ints .i64 da)])] => ([.one ((.bool true), false)], []) | _ => ([], []), fun _ => [], false, fun _ => none⟩
end laws_FnExactNeighboursOf
namespace laws_FnExactNeighboursOf
noncomputable def X : List Entry := [laws_szArray.E, laws_toArray.E, spec_NeighboursOf.E, impl_NeighboursOf.E, laws_eqArray.E, laws_markArray.E, laws_heldArray.E]
noncomputable def I : List Inl := [⟨7, Try.f7, ⟨[24, 25, 29, 33, 47, 80, 81], [], [], [], [], []⟩⟩]
theorem I_ok : ∀ i ∈ I, Try.prog.funcs[i.f]? = some i.fn ∧ (i.fn.name == "runtime.NumGoroutine") = false := by
  intro i hi
  simp only [I, List.mem_cons, List.not_mem_nil, or_false] at hi
  subst hi
  exact ⟨by kernel_rfl, by kernel_rfl⟩
theorem e (fuel : Nat) (p0 : Int) (p1q0 : List Int) (p1q1 : List Int) : runF Try.prog X I 0 fuel 7 Try.f7 [.d (.int .i64 p0), .d (.agg [(.ints .i64 p1q0), (.ints .i64 p1q1)])] =
  (bif (decide (((szA p1q0 p1q1 1048576) : Int) < 0)) then
  some ([.one ((.bool true), false)], [])
  else
  (bif szB p1q0 && szB p1q1 then
  (bif decide (p1q0.length < 9223372036854775808) && decide (p1q1.length < 9223372036854775808) then
  (bif szB p1q0 && szB p1q1 then
  (bif decide (p1q0.length < 9223372036854775808) && decide (p1q1.length < 9223372036854775808) then
  (bif decide (((nbS p0 p1q0 p1q1)).length < 9223372036854775808) && decide (((nbD p0 p1q0 p1q1)).length < 9223372036854775808) && decide (((nbS p0 p1q0 p1q1)).length < 9223372036854775808) && decide (((nbD p0 p1q0 p1q1)).length < 9223372036854775808) then
  (bif (!(decide (((nbS p0 p1q0 p1q1)) = ((nbS p0 p1q0 p1q1))) && decide (((nbD p0 p1q0 p1q1)) = ((nbD p0 p1q0 p1q1))))) then
  some ([.one ((.bool false), false)], [])
  else
  (bif (!((nbB p0 p1q0 p1q1) == (nbB p0 p1q0 p1q1))) then
  some ([.one ((.bool false), false)], [])
  else
  (bif szB p1q0 && szB p1q1 then
  (bif decide (p1q0.length < 9223372036854775808) && decide (p1q1.length < 9223372036854775808) && decide (p1q0.length < 9223372036854775808) && decide (p1q1.length < 9223372036854775808) then
  (bif (!(decide (p1q0 = p1q0) && decide (p1q1 = p1q1))) then
  some ([.one ((.bool false), false)], [])
  else
  (bif decide (p1q0.length < 9223372036854775808) && decide (p1q1.length < 9223372036854775808) then
  (bif (decide (((markK p1q1 (markK p1q0 1)) : Int) < 0)) then
  some ([.one ((.bool false), false)], [])
  else
  (bif decide (((nbS p0 p1q0 p1q1)).length < 9223372036854775808) && decide (((nbD p0 p1q0 p1q1)).length < 9223372036854775808) && decide (((nbS p0 p1q0 p1q1)).length < 9223372036854775808) && decide (((nbD p0 p1q0 p1q1)).length < 9223372036854775808) then
  (bif (!(decide (((nbS p0 p1q0 p1q1)) = ((nbS p0 p1q0 p1q1))) && decide (((nbD p0 p1q0 p1q1)) = ((nbD p0 p1q0 p1q1))))) then
  some ([.one ((.bool false), false)], [])
  else
  (bif (!((nbB p0 p1q0 p1q1) == (nbB p0 p1q0 p1q1))) then
  some ([.one ((.bool false), false)], [])
  else
  (bif decide (((nbS p0 p1q0 p1q1)).length < 9223372036854775808) && decide (((nbD p0 p1q0 p1q1)).length < 9223372036854775808) then
  (bif decide (((markL ((nbS p0 p1q0 p1q1)) 1)).length < 9223372036854775808) && decide (((markL ((nbD p0 p1q0 p1q1)) (markK ((nbS p0 p1q0 p1q1)) 1))).length < 9223372036854775808) then
  (bif (decide (((heldA ((markL ((nbS p0 p1q0 p1q1)) 1)) ((markL ((nbD p0 p1q0 p1q1)) (markK ((nbS p0 p1q0 p1q1)) 1))) 1) : Int) < 0)) then
  some ([.one ((.bool false), false)], [])
  else
  (bif (((heldA ((markL ((nbS p0 p1q0 p1q1)) 1)) ((markL ((nbD p0 p1q0 p1q1)) (markK ((nbS p0 p1q0 p1q1)) 1))) 1) : Int) != (markK ((nbD p0 p1q0 p1q1)) (markK ((nbS p0 p1q0 p1q1)) 1))) then
  some ([.one ((.bool false), false)], [])
  else
  (bif szB p1q0 && szB p1q1 then
  (bif decide (p1q0.length < 9223372036854775808) && decide (p1q1.length < 9223372036854775808) then
  (bif decide (((nbS p0 p1q0 p1q1)).length < 9223372036854775808) && decide (((nbD p0 p1q0 p1q1)).length < 9223372036854775808) && decide (((nbS p0 p1q0 p1q1)).length < 9223372036854775808) && decide (((nbD p0 p1q0 p1q1)).length < 9223372036854775808) then
  (bif (!(decide (((nbS p0 p1q0 p1q1)) = ((nbS p0 p1q0 p1q1))) && decide (((nbD p0 p1q0 p1q1)) = ((nbD p0 p1q0 p1q1))))) then
  some ([.one ((.bool false), false)], [])
  else
  (bif (!((nbB p0 p1q0 p1q1) == (nbB p0 p1q0 p1q1))) then
  some ([.one ((.bool false), false)], [])
  else
  (bif decide (((markL ((nbS p0 p1q0 p1q1)) 1)).length < 9223372036854775808) && decide (((markL ((nbD p0 p1q0 p1q1)) (markK ((nbS p0 p1q0 p1q1)) 1))).length < 9223372036854775808) then
  (bif (decide (((heldA ((markL ((nbS p0 p1q0 p1q1)) 1)) ((markL ((nbD p0 p1q0 p1q1)) (markK ((nbS p0 p1q0 p1q1)) 1))) 1) : Int) < 0)) then
  some ([.one ((.bool false), false)], [])
  else
  (bif (((heldA ((markL ((nbS p0 p1q0 p1q1)) 1)) ((markL ((nbD p0 p1q0 p1q1)) (markK ((nbS p0 p1q0 p1q1)) 1))) 1) : Int) != (markK ((nbD p0 p1q0 p1q1)) (markK ((nbS p0 p1q0 p1q1)) 1))) then
  some ([.one ((.bool false), false)], [])
  else
  some ([.one ((.bool true), false)], [])))
  else
  none)))
  else
  none)
  else
  none)
  else
  none)))
  else
  none)
  else
  none)))
  else
  none))
  else
  none))
  else
  none)
  else
  none)))
  else
  none)
  else
  none)
  else
  none)
  else
  none)
  else
  none)) := by kernel_rfl
end laws_FnExactNeighboursOf
theorem laws_FnExactNeighboursOf.ok_of (hX : ∀ E ∈ laws_FnExactNeighboursOf.X, CallSpec Try.prog E) (h : ∀ (op : Int) (sh : List Int) (da : List Int), (decide (sh.length < 9223372036854775808) && decide (da.length < 9223372036854775808)) = true → ∃ fuel, runF Try.prog laws_FnExactNeighboursOf.X laws_FnExactNeighboursOf.I 0 fuel 7 Try.f7 [.d (.int .i64 op), .d (.agg [(.ints .i64 sh), (.ints .i64 da)])] = some ([.one ((.bool true), false)], [])) : CallSpec Try.prog laws_FnExactNeighboursOf.E :=
  callSpec_of (d := 0) hX (by kernel_rfl) laws_FnExactNeighboursOf.I_ok (by kernel_rfl) (by kernel_rfl) (by kernel_rfl) (fun _ _ _ _ h => by dsimp only [laws_FnExactNeighboursOf.E] at h; cases h) (fun xs hp => by
    dsimp only [laws_FnExactNeighboursOf.E] at hp ⊢
    split at hp
    · exact h _ _ _ hp
    · cases hp)
theorem laws_FnExactNeighboursOf.ok : CallSpec Try.prog laws_FnExactNeighboursOf.E := laws_FnExactNeighboursOf.ok_of (by simp [laws_FnExactNeighboursOf.X, laws_szArray.ok, laws_toArray.ok, spec_NeighboursOf.ok, impl_NeighboursOf.ok, laws_eqArray.ok, laws_markArray.ok, laws_heldArray.ok]) fun op sh da h => ⟨0, by
  rw [laws_FnExactNeighboursOf.e]
  simp only [Bool.and_eq_true] at h
  obtain ⟨g0, g1⟩ := h
  by_cases a0 : szA sh da 1048576 < 0
  · rw [decide_eq_true a0]; rfl
  obtain ⟨q0, p0⟩ := szA_le (by omega) (by omega) (of_decide_eq_true g0) (of_decide_eq_true g1) a0
  have z0 := szB_of (xs := sh) (by omega)
  have z1 := szB_of (xs := da) (by omega)
  have hl := nb_len op sh da
  obtain ⟨r0a, r0b, r0c, r0d, r0e, r0f⟩ := marks_ok (sh := (nbS op sh da)) (da := (nbD op sh da)) (by omega) (by omega)
  have mk := mark2_ok (xs := sh) (ys := da) (by omega) (by omega)
  simp only [decide_eq_false a0, g0, g1, z0, z1, r0a, r0b, r0c, r0d, r0e, r0f, mk, bne_self_eq_false, beq_self_eq_true, decide_true, Bool.and_self, Bool.not_true, cond_true, cond_false]⟩

namespace spec_MoveSums
noncomputable def E : Entry := ⟨24, false, false, fun | [.d (.agg [(.ints .i64 sh), (.ints .i64 da)]), .d (.int .i64 n)] => decide (sh.length < 9223372036854775808) && decide (da.length < 9223372036854775808) | _ => false, fun | [.d (.agg [(.ints .i64 sh), (.ints .i64 da)]), .d (.int .i64 n)] => ([.agg [((.ints .i64 (msS sh da n)), true), ((.ints .i64 (msD sh da n)), true)], .one ((.bool (wiK sh da n)), false)], []) | _ => ([], []), fun _ => [], true, fun _ => none⟩
end spec_MoveSums
namespace spec_MoveSums
noncomputable def X : List Entry := [spec_isVector.E, spec_inRange.E, spec_limit.E, spec_vector.E]
noncomputable def I : List Inl := [⟨24, Try.f24, ⟨[54], [(1000005, [0, 3, 5, 8, 9, 10, 11, 12, 13, 14, 15, 16, 17, 18, 19, 20, 21, 22, 23, 24, 25, 26, 27, 28, 29, 30, 31, 32, 33, 34, 35, 36, 37, 38, 39, 40, 41, 42, 43, 44, 45, 46, 47, 48, 49, 50, 51, 52, 53, 54]), (1000009, [0, 3, 5, 10, 11, 12, 13, 14, 15, 16, 17, 18, 19, 20, 21, 22, 23, 24, 25, 26, 27, 28, 29, 30, 31, 32, 33, 34, 35, 36, 37, 38, 39, 40, 41, 42, 43, 44, 45, 46, 47, 48, 49, 50, 51, 52, 53, 54])], [], [], [], []⟩⟩]
theorem I_ok : ∀ i ∈ I, Try.prog.funcs[i.f]? = some i.fn ∧ (i.fn.name == "runtime.NumGoroutine") = false := by
  intro i hi
  simp only [I, List.mem_cons, List.not_mem_nil, or_false] at hi
  subst hi
  exact ⟨by kernel_rfl, by kernel_rfl⟩
noncomputable abbrev L0 (fuel n : Nat) (s : St) (k : Kont) := lAt Try.prog X I fuel true 0 false 24 (bodyOf Try.f24) [1, 1, 1, 0, 1, 0] n s k
noncomputable abbrev k0  (fuel : Nat) : Kont := (kAt Try.prog X I fuel true 0 false 24 (bodyOf Try.f24) [1, 1, 1, 0, 1, 0] [] (endK Try.prog Try.f24))
noncomputable def t0 (p1 : Int) (p0q0 : List Int) (p0q1 : List Int) (x0q1 : Int) (x0q4 : List Int) : St := ⟨[.dead, (.imm (.int .i64 p1)), (.ptr 1000000000 0 0), .dead, (.ptr 1000000001 0 0), .dead, (.all 1000000002 1), (.imm (.int .i64 x0q1)), .dead, .dead, .dead, .dead, .dead, .dead, .dead, .dead, .dead, .dead, .dead, .dead, .dead, .dead, .dead, .dead, .dead, .dead, .dead, .dead, .dead, .dead, .dead, .dead, .dead, .dead, .dead, .dead, .dead, .dead, .dead, .dead, .dead, .dead, .dead, .dead, .dead, .dead, .dead, .dead, .dead, .dead, .dead, .dead, .dead, .dead, .dead], hOf [(1000000000, (.box [(.imm (.ints .i64 p0q0)), (.imm (.ints .i64 p0q1))])), (1000000001, (.box [(.imm .nils), (.imm .nils)])), (1000000002, (.ints .i64 x0q4))], [], []⟩
noncomputable abbrev L1 (fuel n : Nat) (s : St) (k : Kont) := lAt Try.prog X I fuel true 0 false 24 (bodyOf Try.f24) [1, 1, 1, 0, 1, 0, 0, 1, 0, 0, 1, 0, 1, 0] n s k
noncomputable abbrev k1 (n0 : Nat) (fuel : Nat) : Kont := (kAt Try.prog X I fuel true 0 false 24 (bodyOf Try.f24) [1, 1, 1, 0, 1, 0, 0, 1, 0, 0, 1, 0, 1, 0] [n0] (endK Try.prog Try.f24))
noncomputable def t1 (p1 : Int) (x0q1 : Int) (p0q0 : List Int) (p0q1 : List Int) (x0q4 : List Int) (x1q2 : Int) (x1q3 : Int) : St := ⟨[.dead, (.imm (.int .i64 p1)), (.ptr 1000000000 0 0), .dead, (.ptr 1000000001 0 0), .dead, (.all 1000000002 1), (.imm (.int .i64 x0q1)), (.imm (.int .i64 x1q2)), (.imm (.int .i64 x1q3)), .dead, .dead, .dead, .dead, .dead, .dead, .dead, .dead, .dead, .dead, .dead, .dead, .dead, .dead, .dead, .dead, .dead, .dead, .dead, .dead, .dead, .dead, .dead, .dead, .dead, .dead, .dead, .dead, .dead, .dead, .dead, .dead, .dead, .dead, .dead, .dead, .dead, .dead, .dead, .dead, .dead, .dead, .dead, .dead, .dead], hOf [(1000000000, (.box [(.imm (.ints .i64 p0q0)), (.imm (.ints .i64 p0q1))])), (1000000001, (.box [(.imm .nils), (.imm .nils)])), (1000000002, (.ints .i64 x0q4))], [], []⟩
theorem e (fuel : Nat) (p0q0 : List Int) (p0q1 : List Int) (p1 : Int) : runF Try.prog X I 0 fuel 24 Try.f24 [.d (.agg [(.ints .i64 p0q0), (.ints .i64 p0q1)]), .d (.int .i64 p1)] =
  (bif decide (p0q0.length < 9223372036854775808) && decide (p0q1.length < 9223372036854775808) then
  (bif (!(vcB p0q0 p0q1)) then
  some ([.agg [((.ints .i64 []), true), ((.ints .i64 []), true)], .one ((.bool false), false)], [])
  else
  (bif (!(decide (1 ≤ p1) && decide (p1 ≤ ((IntKind.wrap .i64 (((p0q1.length : Nat) : Int) + 1)))))) then
  some ([.agg [((.ints .i64 []), true), ((.ints .i64 []), true)], .one ((.bool false), false)], [])
  else
  L0 fuel fuel (t0 p1 p0q0 p0q1 0 ([])) (k0  fuel)))
  else
  none) := by kernel_rfl
theorem s0 (fuel n0 : Nat) (p1 : Int) (p0q0 : List Int) (p0q1 : List Int) (x0q1 : Int) (x0q4 : List Int) : L0 fuel (n0 + 1) (t0 p1 p0q0 p0q1 x0q1 x0q4) (k0  fuel) =
  (bif (decide (((IntKind.wrap .i64 (x0q1 + p1)) : Int) ≤ ((p0q1.length : Nat) : Int))) then
  L1 fuel fuel (t1 p1 x0q1 p0q0 p0q1 x0q4 0 x0q1) (k1 n0 fuel)
  else
  (bif szB x0q4 then
  some ([.agg [((.ints .i64 [((x0q4.length : Nat) : Int)]), true), ((.ints .i64 x0q4), true)], .one ((.bool true), false)], [])
  else
  none)) := by kernel_rfl
theorem s1 (fuel n0 n1 : Nat) (p1 : Int) (x0q1 : Int) (p0q0 : List Int) (p0q1 : List Int) (x0q4 : List Int) (x1q2 : Int) (x1q3 : Int) : L1 fuel (n1 + 1) (t1 p1 x0q1 p0q0 p0q1 x0q4 x1q2 x1q3) (k1 n0 fuel) =
  (bif (decide ((x1q3 : Int) < (IntKind.wrap .i64 (x0q1 + p1)))) then
  (idx x1q3 p0q1.length).bind fun j13 =>
  (p0q1[j13]?).bind fun v14 =>
  L1 fuel n1 (t1 p1 x0q1 p0q0 p0q1 x0q4 ((IntKind.wrap .i64 (x1q2 + v14))) ((IntKind.wrap .i64 (x1q3 + 1)))) (k1 n0 fuel)
  else
  (bif fits (x0q4.length + ([(limV x1q2)] : List Int).length) 8 then
  L0 fuel n0 (t0 p1 p0q0 p0q1 ((IntKind.wrap .i64 (x0q1 + 1))) ((x0q4 ++ [(limV x1q2)]))) (k0  fuel)
  else
  none)) := by kernel_rfl
end spec_MoveSums
theorem spec_MoveSums.ok_of (hX : ∀ E ∈ spec_MoveSums.X, CallSpec Try.prog E) (h : ∀ (sh : List Int) (da : List Int) (n : Int), (decide (sh.length < 9223372036854775808) && decide (da.length < 9223372036854775808)) = true → ∃ fuel, runF Try.prog spec_MoveSums.X spec_MoveSums.I 0 fuel 24 Try.f24 [.d (.agg [(.ints .i64 sh), (.ints .i64 da)]), .d (.int .i64 n)] = some ([.agg [((.ints .i64 (msS sh da n)), true), ((.ints .i64 (msD sh da n)), true)], .one ((.bool (wiK sh da n)), false)], [])) : CallSpec Try.prog spec_MoveSums.E :=
  callSpec_of (d := 0) hX (by kernel_rfl) spec_MoveSums.I_ok (by kernel_rfl) (by kernel_rfl) (by kernel_rfl) (fun _ _ _ _ h => by dsimp only [spec_MoveSums.E] at h; cases h) (fun xs hp => by
    dsimp only [spec_MoveSums.E] at hp ⊢
    split at hp
    · exact h _ _ _ hp
    · cases hp)
theorem spec_MoveSums.ok : CallSpec Try.prog spec_MoveSums.E := spec_MoveSums.ok_of (by simp [spec_MoveSums.X, spec_isVector.ok, spec_inRange.ok, spec_limit.ok, spec_vector.ok]) fun sh da n h => by
  obtain ⟨F, hF⟩ : ∃ F : Nat, 100 < F := ⟨101, by omega⟩
  refine ⟨F, ?_⟩
  rw [spec_MoveSums.e, h, cond_true]
  cases hb : vcB sh da with
  | false => simp only [msS, msD, wiK, hb]; rfl
  | true =>
    obtain ⟨_, _, hl, _⟩ := vcB_inv hb
    rw [w1 (by omega)]
    cases hn : decide (1 ≤ n) && decide (n ≤ ((da.length + 1 : Nat) : Int)) with
    | false => simp only [msS, msD, wiK, hb, hn]; rfl
    | true =>
      have hK : wiK sh da n = true := by simp only [wiK, hb, hn, Bool.and_self]
      obtain ⟨k, rfl, k1, k2, _⟩ := wiK_inv hK
      simp only [Bool.not_true, cond_false]
      refine run_loop (N := da.length + 1 - k) (fun m j out => spec_MoveSums.L0 F m (spec_MoveSums.t0 (k : Int) sh da (j : Int) out) (spec_MoveSums.k0 F)) (fun j out => out = tab j fun i => limV (sumW (wpL da k i))) ?_ ?_ F 0 [] (by omega) (by omega) rfl
      · rintro m out rfl
        rw [spec_MoveSums.s0, wAdd (by omega), decide_eq_false (by omega), cond_false, szB_of (by rw [tab_length]; omega), tab_length]
        simp only [msS, msD, hK, Int.toNat_natCast]
        rfl
      · rintro m j out hj rfl
        refine ⟨tab (j + 1) fun i => limV (sumW (wpL da k i)), rfl, ?_⟩
        rw [spec_MoveSums.s0, wAdd (by omega), decide_eq_true (by omega), cond_true]
        refine run_loop (N := k) (fun m2 i a => spec_MoveSums.L1 F m2 (spec_MoveSums.t1 (k : Int) (j : Int) sh da (tab j fun i => limV (sumW (wpL da k i))) a ((j + i : Nat) : Int)) (spec_MoveSums.k1 m F)) (fun i a => a = sumF ((wpL da k j).take i) 0) ?_ ?_ F 0 0 (by omega) (by omega) rfl
        · rintro m2 a rfl
          have hle := wpL_length (da := da) (n := k) (i := j) (by omega)
          rw [spec_MoveSums.s1, wAdd (by omega), decide_eq_false (by omega), cond_false, List.take_of_length_le (by omega), fitsOk (by rw [tab_length]; simp only [List.length_cons, List.length_nil]; omega), cond_true, w1 (by omega), tab_succ]
          rfl
        · rintro m2 i a hi rfl
          have hle := wpL_length (da := da) (n := k) (i := j) (by omega)
          rw [spec_MoveSums.s1, wAdd (by omega), decide_eq_true (by omega), cond_true, idx_nat (by omega)]
          simp only [Option.bind_some, getD_get (show j + i < da.length by omega)]
          refine ⟨_, ?_, by rw [w1 (by omega), Nat.add_assoc]⟩
          rw [← take_push (A := wpL da k j) (n := i) (v := da.getD (j + i) 0) (by omega) (by simp [wpL, List.getD, List.getElem?_take, hi]), sumF_app]
          rfl

namespace impl_MoveSums
noncomputable def E : Entry := ⟨25, false, false, fun | [.d (.agg [(.ints .i64 sh), (.ints .i64 da)]), .d (.int .i64 n)] => decide (sh.length < 9223372036854775808) && decide (da.length < 9223372036854775808) | _ => false, fun | [.d (.agg [(.ints .i64 sh), (.ints .i64 da)]), .d (.int .i64 n)] => ([.agg [((.ints .i64 (msS sh da n)), true), ((.ints .i64 (msD sh da n)), true)], .one ((.bool (wiK sh da n)), false)], []) | _ => ([], []), fun _ => [], true, fun _ => none⟩
end impl_MoveSums
namespace impl_MoveSums
noncomputable def X : List Entry := [impl_isVector.E, impl_sumOf.E, impl_limited.E, impl_VectorOf.E]
noncomputable def I : List Inl := [⟨25, Try.f25, ⟨[14, 38], [(1, [0, 3, 5, 6, 7, 8, 9, 10, 11, 12, 13, 14, 15, 16, 17, 18, 19, 20, 21, 22, 23, 24, 25, 26, 27, 28, 29, 30, 31, 32, 33, 34, 35, 36, 37, 38]), (1000006, [0, 1, 2, 3, 5, 6, 7, 9, 10, 11, 12, 13, 14, 15, 16, 17, 18, 19, 20, 21, 22, 26, 27, 28, 29, 30, 31, 32, 33, 34, 35, 36, 37, 38])], [], [], [], []⟩⟩, ⟨45, Try.f45, ⟨[], [(1000005, [0, 3, 4, 5, 7, 8, 9, 10, 11, 12, 13, 14, 15, 16, 17, 18, 19, 20, 21, 22, 23, 24, 25, 26, 27, 28, 29, 30, 33, 34, 35, 36, 37, 38, 39, 40, 41, 42, 43, 44, 45, 46])], [], [], [], []⟩⟩]
theorem I_ok : ∀ i ∈ I, Try.prog.funcs[i.f]? = some i.fn ∧ (i.fn.name == "runtime.NumGoroutine") = false := by
  intro i hi
  simp only [I, List.mem_cons, List.not_mem_nil, or_false] at hi
  rcases hi with rfl | rfl
  all_goals exact ⟨by kernel_rfl, by kernel_rfl⟩
noncomputable abbrev L0 (fuel n : Nat) (s : St) (k : Kont) := lAt Try.prog X I fuel true 3 false 45 (bodyOf Try.f45) [1, 1, 1, 0, 1, 0] n s k
noncomputable abbrev k0  (fuel : Nat) : Kont := (kAt Try.prog X I fuel true 3 false 45 (bodyOf Try.f45) [1, 1, 1, 0, 1, 0] [] (endFn Try.prog Try.f45 39 (kOp Try.prog X I fuel true 4 25 (cAt (bodyOf Try.f25) [1, 0]) 2 (kAt Try.prog X I fuel true 4 false 25 (bodyOf Try.f25) [1, 0] [] (endK Try.prog Try.f25)))))
noncomputable def t0 (p1 : Int) (p0q1 : List Int) (p0q0 : List Int) (x0q2 : Int) (x0q7 : List D) : St := ⟨[.dead, (.imm (.int .i64 p1)), (.ptr 1000000002 0 0), .dead, .dead, .dead, (.all 1000000003 1), .dead, .dead, .dead, .dead, .dead, .dead, .dead, .dead, .dead, .dead, .dead, .dead, .dead, .dead, .dead, .dead, .dead, .dead, .dead, .dead, .dead, .dead, .dead, .dead, (.imm (.int .i64 (((List.replicate ((IntKind.wrap .i64 ((IntKind.wrap .i64 (((p0q1.length : Nat) : Int) + 1)) - p1))).toNat (D.ints .i64 [])).length : Nat) : Int))), (.imm (.int .i64 x0q2)), .dead, .dead, .dead, .dead, .dead, .dead, .dead, .dead, .dead, .dead, .dead, .dead, .dead, .dead], hOf [(1000000000, (.box [(.imm (.ints .i64 p0q0)), (.imm (.ints .i64 p0q1))])), (1000000001, (.box [(.imm .nils), (.imm .nils)])), (1000000002, (.box [(.imm (.ints .i64 p0q0)), (.imm (.ints .i64 p0q1))])), (1000000003, (.ds 1 x0q7))], [.dead, (.imm (.int .i64 p1)), (.ptr 1000000000 0 0), .dead, (.ptr 1000000001 0 0), .dead, .dead, .dead, .dead, .dead, .dead, .dead, (.agg [(.imm (.ints .i64 p0q0)), (.imm (.ints .i64 p0q1))]), (.imm (.int .i64 p1)), .dead, .dead, .dead, .dead, .dead, .dead, .dead, .dead, .dead, .dead, .dead, .dead, .dead, .dead, .dead, .dead, .dead, .dead, .dead, .dead, .dead, .dead, .dead, .dead, .dead, (.tup [])], []⟩
noncomputable abbrev L1 (fuel n : Nat) (s : St) (k : Kont) := lAt Try.prog X I fuel true 4 false 25 (bodyOf Try.f25) [1, 1, 1, 1, 0, 1, 0] n s k
noncomputable abbrev k1  (fuel : Nat) : Kont := (kAt Try.prog X I fuel true 4 false 25 (bodyOf Try.f25) [1, 1, 1, 1, 0, 1, 0] [] (endK Try.prog Try.f25))
noncomputable def t1 (x0q7 : List D) (x1q1 : Int) (x1q2 : List Int) : St := ⟨[.dead, .dead, .dead, .dead, (.ptr 1000000000 0 0), .dead, .dead, .dead, (.all 1000000001 1), .dead, .dead, .dead, .dead, .dead, .dead, .dead, .dead, .dead, .dead, .dead, .dead, .dead, .dead, (.all 1000000002 1), (.imm (.int .i64 ((x0q7.length : Nat) : Int))), (.imm (.int .i64 x1q1)), .dead, .dead, .dead, .dead, .dead, .dead, .dead, .dead, .dead, .dead, .dead, .dead, .dead], hOf [(1000000000, (.box [(.imm .nils), (.imm .nils)])), (1000000001, (.ints .i64 x1q2)), (1000000002, (.ds 1 x0q7))], [], []⟩
theorem e (fuel : Nat) (p0q0 : List Int) (p0q1 : List Int) (p1 : Int) : runF Try.prog X I 4 fuel 25 Try.f25 [.d (.agg [(.ints .i64 p0q0), (.ints .i64 p0q1)]), .d (.int .i64 p1)] =
  (bif decide (p0q0.length < 9223372036854775808) && decide (p0q1.length < 9223372036854775808) then
  (bif (!(vcB p0q0 p0q1)) then
  some ([.agg [((.ints .i64 []), true), ((.ints .i64 []), true)], .one ((.bool false), false)], [])
  else
  (bif (decide ((p1 : Int) < 1)) then
  some ([.agg [((.ints .i64 []), true), ((.ints .i64 []), true)], .one ((.bool false), false)], [])
  else
  (bif (decide ((p1 : Int) > (IntKind.wrap .i64 (((p0q1.length : Nat) : Int) + 1)))) then
  some ([.agg [((.ints .i64 []), true), ((.ints .i64 []), true)], .one ((.bool false), false)], [])
  else
  (bif decide (0 ≤ ((IntKind.wrap .i64 ((IntKind.wrap .i64 (((p0q1.length : Nat) : Int) + 1)) - p1)) : Int)) && decide (((IntKind.wrap .i64 ((IntKind.wrap .i64 (((p0q1.length : Nat) : Int) + 1)) - p1)) : Int) ≤ (IntKind.wrap .i64 ((IntKind.wrap .i64 (((p0q1.length : Nat) : Int) + 1)) - p1))) && decide (((IntKind.wrap .i64 ((IntKind.wrap .i64 (((p0q1.length : Nat) : Int) + 1)) - p1)) : Int) ≤ 1152921504606846976) && decide (((24 : Nat) : Int) * (IntKind.wrap .i64 ((IntKind.wrap .i64 (((p0q1.length : Nat) : Int) + 1)) - p1)) ≤ 281474976710656) then
  L0 fuel fuel (t0 p1 p0q1 p0q0 0 ((List.replicate ((IntKind.wrap .i64 ((IntKind.wrap .i64 (((p0q1.length : Nat) : Int) + 1)) - p1))).toNat (D.ints .i64 [])))) (k0  fuel)
  else
  none))))
  else
  none) := by kernel_rfl
theorem s0 (fuel n0 : Nat) (p1 : Int) (p0q1 : List Int) (p0q0 : List Int) (x0q2 : Int) (x0q7 : List D) : L0 fuel (n0 + 1) (t0 p1 p0q1 p0q0 x0q2 x0q7) (k0  fuel) =
  (bif (decide ((x0q2 : Int) < (((List.replicate ((IntKind.wrap .i64 ((IntKind.wrap .i64 (((p0q1.length : Nat) : Int) + 1)) - p1))).toNat (D.ints .i64 [])).length : Nat) : Int))) then
  (cutEnds p0q1.length (some (.imm (.int .i64 x0q2))) (some (.imm (.int .i64 (IntKind.wrap .i64 (x0q2 + p1)))))).bind fun cq20 =>
  (idx x0q2 x0q7.length).bind fun j21 =>
  (bif decide (j21 < x0q7.length) then
  L0 fuel n0 (t0 p1 p0q1 p0q0 ((IntKind.wrap .i64 (x0q2 + 1))) ((x0q7.set j21 (.ints .i64 ((p0q1.drop cq20.1).take (cq20.2 - cq20.1)))))) (k0  fuel)
  else
  none)
  else
  (bif decide (0 ≤ (((x0q7.length : Nat) : Int) : Int)) && decide ((((x0q7.length : Nat) : Int) : Int) ≤ ((x0q7.length : Nat) : Int)) && decide ((((x0q7.length : Nat) : Int) : Int) ≤ 1152921504606846976) && decide (((8 : Nat) : Int) * ((x0q7.length : Nat) : Int) ≤ 281474976710656) then
  L1 fuel fuel (t1 x0q7 0 ((List.replicate (((x0q7.length : Nat) : Int)).toNat (0 : Int)))) (k1  fuel)
  else
  none)) := by kernel_rfl
theorem s1 (fuel n1 : Nat) (x0q7 : List D) (x1q1 : Int) (x1q2 : List Int) : L1 fuel (n1 + 1) (t1 x0q7 x1q1 x1q2) (k1  fuel) =
  (bif (decide ((x1q1 : Int) < ((x0q7.length : Nat) : Int))) then
  (idx x1q1 x0q7.length).bind fun j25 =>
  (getI .i64 x0q7 j25).bind fun v26 =>
  (bif decide (v26.length < 9223372036854775808) then
  (idx x1q1 x1q2.length).bind fun j27 =>
  (bif decide (j27 < x1q2.length) then
  L1 fuel n1 (t1 x0q7 ((IntKind.wrap .i64 (x1q1 + 1))) ((x1q2.set j27 (limV ((sumW v26)))))) (k1  fuel)
  else
  none)
  else
  none)
  else
  (bif szB x1q2 then
  some ([.agg [((.ints .i64 (vecS x1q2)), true), ((.ints .i64 (vecD x1q2)), true)], .one ((.bool true), false)], [])
  else
  none)) := by kernel_rfl
end impl_MoveSums
theorem impl_MoveSums.ok_of (hX : ∀ E ∈ impl_MoveSums.X, CallSpec Try.prog E) (h : ∀ (sh : List Int) (da : List Int) (n : Int), (decide (sh.length < 9223372036854775808) && decide (da.length < 9223372036854775808)) = true → ∃ fuel, runF Try.prog impl_MoveSums.X impl_MoveSums.I 4 fuel 25 Try.f25 [.d (.agg [(.ints .i64 sh), (.ints .i64 da)]), .d (.int .i64 n)] = some ([.agg [((.ints .i64 (msS sh da n)), true), ((.ints .i64 (msD sh da n)), true)], .one ((.bool (wiK sh da n)), false)], [])) : CallSpec Try.prog impl_MoveSums.E :=
  callSpec_of (d := 4) hX (by kernel_rfl) impl_MoveSums.I_ok (by kernel_rfl) (by kernel_rfl) (by kernel_rfl) (fun _ _ _ _ h => by dsimp only [impl_MoveSums.E] at h; cases h) (fun xs hp => by
    dsimp only [impl_MoveSums.E] at hp ⊢
    split at hp
    · exact h _ _ _ hp
    · cases hp)
theorem impl_MoveSums.ok : CallSpec Try.prog impl_MoveSums.E := impl_MoveSums.ok_of (by simp [impl_MoveSums.X, impl_isVector.ok, impl_sumOf.ok, impl_limited.ok, impl_VectorOf.ok]) fun sh da n h => by
  obtain ⟨F, hF⟩ : ∃ F : Nat, 4000 < F := ⟨4001, by omega⟩
  refine ⟨F, ?_⟩
  rw [impl_MoveSums.e, h, cond_true]
  cases hb : vcB sh da with
  | false => simp only [msS, msD, wiK, hb]; rfl
  | true =>
    obtain ⟨_, _, hl, _⟩ := vcB_inv hb
    by_cases hn1 : n < 1
    · have hK : wiK sh da n = false := by simp [wiK]; omega
      rw [decide_eq_true hn1]
      simp only [msS, msD, hK]; rfl
    by_cases hn2 : n > ((da.length + 1 : Nat) : Int)
    · have hK : wiK sh da n = false := by simp [wiK]; omega
      rw [decide_eq_false hn1, w1 (by omega), decide_eq_true hn2]
      simp only [msS, msD, hK]; rfl
    have hK : wiK sh da n = true := by simp [wiK, hb]; omega
    obtain ⟨k, rfl, k1, k2, _⟩ := wiK_inv hK
    have eC := wiC k2 hl
    have eW := w1 (j := da.length) (by omega)
    rw [decide_eq_false hn1, eW, decide_eq_false hn2]
    rw [eW] at eC
    rw [eC]
    have hXl := wiL_length da k
    simp only [Bool.not_true, cond_false]
    rw [decide_eq_true (p := (0:Int) ≤ ((da.length + 1 - k : Nat) : Int)) (by omega), decide_eq_true (p := ((da.length + 1 - k : Nat) : Int) ≤ ((da.length + 1 - k : Nat) : Int)) (by omega), decide_eq_true (p := ((da.length + 1 - k : Nat) : Int) ≤ 1152921504606846976) (by omega), decide_eq_true (p := ((24 : Nat) : Int) * ((da.length + 1 - k : Nat) : Int) ≤ 281474976710656) (by omega)]
    simp only [Bool.and_self, cond_true, Int.toNat_natCast]
    refine run_loop (N := da.length + 1 - k) (fun m j xs => impl_MoveSums.L0 F m (impl_MoveSums.t0 (k : Int) da sh (j : Int) xs) (impl_MoveSums.k0 F)) (fun j xs => xs = partX (wiL da k) j) ?_ ?_ F 0 _ (by omega) (by omega) (by rw [partX_zero, hXl])
    · intro m xs hI
      rw [show partX (wiL da k) (da.length + 1 - k) = dL (wiL da k) by rw [← hXl]; exact partX_all _] at hI
      subst hI
      rw [impl_MoveSums.s0, eW, eC]
      simp only [Int.toNat_natCast, List.length_replicate]
      rw [dge (by omega), cond_false]
      have hdl : (dL (wiL da k)).length = da.length + 1 - k := by rw [dL_length, hXl]
      have hA := msN_length da k
      have hv := ms_vec hK
      rw [Int.toNat_natCast] at hv
      obtain ⟨v1, v2⟩ := vecOk_eq hv
      simp only [hdl, Int.toNat_natCast]
      rw [mkOk (by omega) (by omega), cond_true]
      simp only [msS, msD, hK, Int.toNat_natCast, cond_true]
      refine run_loop (N := da.length + 1 - k) (fun m2 i out => impl_MoveSums.L1 F m2 (impl_MoveSums.t1 (dL (wiL da k)) (i : Int) out) (impl_MoveSums.k1 F)) (fun i out => out = part (msN da k) i) ?_ ?_ F 0 _ (by omega) (by omega) (by rw [part_zero, hA])
      · intro m2 out hI
        have hall := part_all (msN da k)
        rw [hA] at hall
        rw [hall] at hI
        rw [impl_MoveSums.s1]
        simp only [hdl]
        rw [dge (by omega), cond_false, hI, szB_of (by omega), v1, v2, hA]
        rfl
      · intro m2 i out hi hI
        have hol : out.length = da.length + 1 - k := by rw [hI, part_length (by omega), hA]
        have hwl := wpL_length (da := da) (n := k) (i := i) (by omega)
        rw [impl_MoveSums.s1]
        simp only [hdl]
        rw [dlt hi, cond_true, idx_nat hi, w1 (by omega), idx_nat (j := i) (n := out.length) (by omega)]
        simp only [Option.bind_some, getI_dL, wiL_get' hi]
        rw [lt_of (by omega), decide_eq_true (by omega), cond_true, cond_true]
        refine ⟨_, ?_, rfl⟩
        rw [hI, part_set (by omega)]
        simp only [msN]
        rw [tab_getD hi]
    · intro m j xs hj hI
      have hle : xs.length = da.length + 1 - k := by rw [hI, partX_length (by omega), hXl]
      rw [impl_MoveSums.s0, eW, eC]
      simp only [Int.toNat_natCast, List.length_replicate]
      rw [dlt hj, cond_true, w1 (by omega), wAdd (by omega), cut_both (by omega) (by omega), idx_nat (by omega)]
      simp only [Option.bind_some]
      rw [decide_eq_true (by omega), cond_true, show (da.drop j).take (j + k - j) = wpL da k j by rw [Nat.add_sub_cancel_left]; rfl]
      exact ⟨_, by rw [hI, wiX_set (by omega)], rfl⟩

namespace laws_FnExactMoveSums
noncomputable def E : Entry := ⟨8, true, false, fun | [.d (.agg [(.ints .i64 sh), (.ints .i64 da)]), .d (.int .i64 n)] => decide (sh.length < 9223372036854775808) && decide (da.length < 9223372036854775808) | _ => false, fun | [.d (.agg [(.ints .i64 sh), (.ints .i64 da)]), .d (.int .i64 n)] => ([.one ((.bool true), false)], []) | _ => ([], []), fun _ => [], false, fun _ => none⟩
end laws_FnExactMoveSums
namespace laws_FnExactMoveSums
noncomputable def X : List Entry := [laws_szArray.E, laws_toArray.E, spec_MoveSums.E, impl_MoveSums.E, laws_eqArray.E, laws_markArray.E, laws_heldArray.E]
noncomputable def I : List Inl := [⟨8, Try.f8, ⟨[23, 25, 29, 33, 47, 79, 81], [], [], [], [], []⟩⟩]
theorem I_ok : ∀ i ∈ I, Try.prog.funcs[i.f]? = some i.fn ∧ (i.fn.name == "runtime.NumGoroutine") = false := by
  intro i hi
  simp only [I, List.mem_cons, List.not_mem_nil, or_false] at hi
  subst hi
  exact ⟨by kernel_rfl, by kernel_rfl⟩
theorem e (fuel : Nat) (p0q0 : List Int) (p0q1 : List Int) (p1 : Int) : runF Try.prog X I 0 fuel 8 Try.f8 [.d (.agg [(.ints .i64 p0q0), (.ints .i64 p0q1)]), .d (.int .i64 p1)] =
  (bif (decide (((szA p0q0 p0q1 1048576) : Int) < 0)) then
  some ([.one ((.bool true), false)], [])
  else
  (bif szB p0q0 && szB p0q1 then
  (bif decide (p0q0.length < 9223372036854775808) && decide (p0q1.length < 9223372036854775808) then
  (bif szB p0q0 && szB p0q1 then
  (bif decide (p0q0.length < 9223372036854775808) && decide (p0q1.length < 9223372036854775808) then
  (bif decide (((msS p0q0 p0q1 p1)).length < 9223372036854775808) && decide (((msD p0q0 p0q1 p1)).length < 9223372036854775808) && decide (((msS p0q0 p0q1 p1)).length < 9223372036854775808) && decide (((msD p0q0 p0q1 p1)).length < 9223372036854775808) then
  (bif (!(decide (((msS p0q0 p0q1 p1)) = ((msS p0q0 p0q1 p1))) && decide (((msD p0q0 p0q1 p1)) = ((msD p0q0 p0q1 p1))))) then
  some ([.one ((.bool false), false)], [])
  else
  (bif (!((wiK p0q0 p0q1 p1) == (wiK p0q0 p0q1 p1))) then
  some ([.one ((.bool false), false)], [])
  else
  (bif szB p0q0 && szB p0q1 then
  (bif decide (p0q0.length < 9223372036854775808) && decide (p0q1.length < 9223372036854775808) && decide (p0q0.length < 9223372036854775808) && decide (p0q1.length < 9223372036854775808) then
  (bif (!(decide (p0q0 = p0q0) && decide (p0q1 = p0q1))) then
  some ([.one ((.bool false), false)], [])
  else
  (bif decide (p0q0.length < 9223372036854775808) && decide (p0q1.length < 9223372036854775808) then
  (bif (decide (((markK p0q1 (markK p0q0 1)) : Int) < 0)) then
  some ([.one ((.bool false), false)], [])
  else
  (bif decide (((msS p0q0 p0q1 p1)).length < 9223372036854775808) && decide (((msD p0q0 p0q1 p1)).length < 9223372036854775808) && decide (((msS p0q0 p0q1 p1)).length < 9223372036854775808) && decide (((msD p0q0 p0q1 p1)).length < 9223372036854775808) then
  (bif (!(decide (((msS p0q0 p0q1 p1)) = ((msS p0q0 p0q1 p1))) && decide (((msD p0q0 p0q1 p1)) = ((msD p0q0 p0q1 p1))))) then
  some ([.one ((.bool false), false)], [])
  else
  (bif (!((wiK p0q0 p0q1 p1) == (wiK p0q0 p0q1 p1))) then
  some ([.one ((.bool false), false)], [])
  else
  (bif decide (((msS p0q0 p0q1 p1)).length < 9223372036854775808) && decide (((msD p0q0 p0q1 p1)).length < 9223372036854775808) then
  (bif decide (((markL ((msS p0q0 p0q1 p1)) 1)).length < 9223372036854775808) && decide (((markL ((msD p0q0 p0q1 p1)) (markK ((msS p0q0 p0q1 p1)) 1))).length < 9223372036854775808) then
  (bif (decide (((heldA ((markL ((msS p0q0 p0q1 p1)) 1)) ((markL ((msD p0q0 p0q1 p1)) (markK ((msS p0q0 p0q1 p1)) 1))) 1) : Int) < 0)) then
  some ([.one ((.bool false), false)], [])
  else
  (bif (((heldA ((markL ((msS p0q0 p0q1 p1)) 1)) ((markL ((msD p0q0 p0q1 p1)) (markK ((msS p0q0 p0q1 p1)) 1))) 1) : Int) != (markK ((msD p0q0 p0q1 p1)) (markK ((msS p0q0 p0q1 p1)) 1))) then
  some ([.one ((.bool false), false)], [])
  else
  (bif szB p0q0 && szB p0q1 then
  (bif decide (p0q0.length < 9223372036854775808) && decide (p0q1.length < 9223372036854775808) then
  (bif decide (((msS p0q0 p0q1 p1)).length < 9223372036854775808) && decide (((msD p0q0 p0q1 p1)).length < 9223372036854775808) && decide (((msS p0q0 p0q1 p1)).length < 9223372036854775808) && decide (((msD p0q0 p0q1 p1)).length < 9223372036854775808) then
  (bif (!(decide (((msS p0q0 p0q1 p1)) = ((msS p0q0 p0q1 p1))) && decide (((msD p0q0 p0q1 p1)) = ((msD p0q0 p0q1 p1))))) then
  some ([.one ((.bool false), false)], [])
  else
  (bif (!((wiK p0q0 p0q1 p1) == (wiK p0q0 p0q1 p1))) then
  some ([.one ((.bool false), false)], [])
  else
  (bif decide (((markL ((msS p0q0 p0q1 p1)) 1)).length < 9223372036854775808) && decide (((markL ((msD p0q0 p0q1 p1)) (markK ((msS p0q0 p0q1 p1)) 1))).length < 9223372036854775808) then
  (bif (decide (((heldA ((markL ((msS p0q0 p0q1 p1)) 1)) ((markL ((msD p0q0 p0q1 p1)) (markK ((msS p0q0 p0q1 p1)) 1))) 1) : Int) < 0)) then
  some ([.one ((.bool false), false)], [])
  else
  (bif (((heldA ((markL ((msS p0q0 p0q1 p1)) 1)) ((markL ((msD p0q0 p0q1 p1)) (markK ((msS p0q0 p0q1 p1)) 1))) 1) : Int) != (markK ((msD p0q0 p0q1 p1)) (markK ((msS p0q0 p0q1 p1)) 1))) then
  some ([.one ((.bool false), false)], [])
  else
  some ([.one ((.bool true), false)], [])))
  else
  none)))
  else
  none)
  else
  none)
  else
  none)))
  else
  none)
  else
  none)))
  else
  none))
  else
  none))
  else
  none)
  else
  none)))
  else
  none)
  else
  none)
  else
  none)
  else
  none)
  else
  none)) := by kernel_rfl
end laws_FnExactMoveSums
theorem laws_FnExactMoveSums.ok_of (hX : ∀ E ∈ laws_FnExactMoveSums.X, CallSpec Try.prog E) (h : ∀ (sh : List Int) (da : List Int) (n : Int), (decide (sh.length < 9223372036854775808) && decide (da.length < 9223372036854775808)) = true → ∃ fuel, runF Try.prog laws_FnExactMoveSums.X laws_FnExactMoveSums.I 0 fuel 8 Try.f8 [.d (.agg [(.ints .i64 sh), (.ints .i64 da)]), .d (.int .i64 n)] = some ([.one ((.bool true), false)], [])) : CallSpec Try.prog laws_FnExactMoveSums.E :=
  callSpec_of (d := 0) hX (by kernel_rfl) laws_FnExactMoveSums.I_ok (by kernel_rfl) (by kernel_rfl) (by kernel_rfl) (fun _ _ _ _ h => by dsimp only [laws_FnExactMoveSums.E] at h; cases h) (fun xs hp => by
    dsimp only [laws_FnExactMoveSums.E] at hp ⊢
    split at hp
    · exact h _ _ _ hp
    · cases hp)
theorem laws_FnExactMoveSums.ok : CallSpec Try.prog laws_FnExactMoveSums.E := laws_FnExactMoveSums.ok_of (by simp [laws_FnExactMoveSums.X, laws_szArray.ok, laws_toArray.ok, spec_MoveSums.ok, impl_MoveSums.ok, laws_eqArray.ok, laws_markArray.ok, laws_heldArray.ok]) fun sh da n h => ⟨0, by
  rw [laws_FnExactMoveSums.e]
  simp only [Bool.and_eq_true] at h
  obtain ⟨g0, g1⟩ := h
  by_cases a0 : szA sh da 1048576 < 0
  · rw [decide_eq_true a0]; rfl
  obtain ⟨q0, p0⟩ := szA_le (by omega) (by omega) (of_decide_eq_true g0) (of_decide_eq_true g1) a0
  have z0 := szB_of (xs := sh) (by omega)
  have z1 := szB_of (xs := da) (by omega)
  have hl := ms_len sh da n
  obtain ⟨r0a, r0b, r0c, r0d, r0e, r0f⟩ := marks_ok (sh := (msS sh da n)) (da := (msD sh da n)) (by omega) (by omega)
  have mk := mark2_ok (xs := sh) (ys := da) (by omega) (by omega)
  simp only [decide_eq_false a0, g0, g1, z0, z1, r0a, r0b, r0c, r0d, r0e, r0f, mk, bne_self_eq_false, beq_self_eq_true, decide_true, Bool.and_self, Bool.not_true, cond_true, cond_false]⟩

end Go.Ab
