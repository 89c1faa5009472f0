import Derived.Test.YtekiklpgcjlegaaEg1
import Derived.Test.YtekiklpgcjlegaaProg
import Derived.Test.YtekiklpgcjlegaaChecked
open Go Go.Ab Go.Proofs
set_option maxRecDepth 100000
set_option linter.unusedVariables false
set_option linter.unusedSimpArgs false
namespace Go.Ab
namespace impl_PickItems
noncomputable def E : Entry := ⟨15, false, false, fun | [.d (.agg [(.ints .i64 sh), (.ints .i64 da)]), .d (.agg [(.ints .i64 s2), (.ints .i64 d2)])] => decide (sh.length < 9223372036854775808) && decide (da.length < 9223372036854775808) && decide (s2.length < 9223372036854775808) && decide (d2.length < 9223372036854775808) | _ => false, fun | [.d (.agg [(.ints .i64 sh), (.ints .i64 da)]), .d (.agg [(.ints .i64 s2), (.ints .i64 d2)])] => ([.agg [((.ints .i64 (pkS sh da s2 d2)), true), ((.ints .i64 (pkD sh da s2 d2)), true)], .one ((.bool (pkB sh da s2 d2)), false)], []) | _ => ([], []), fun _ => [], true, fun _ => none⟩
end impl_PickItems
namespace impl_PickItems
noncomputable def X : List Entry := [impl_isVector.E, impl_ValidArray.E, impl_copyList.E]
noncomputable def I : List Inl := [⟨15, Try.f15, ⟨[51], [(1000005, [0, 1, 5, 7, 8, 9, 10, 11, 12, 13, 14, 15, 16, 17, 18, 19, 20, 21, 22, 26, 27, 28, 29, 30, 31, 32, 33, 34, 35, 36, 37, 38, 39, 40, 41, 42, 43, 44, 45, 46, 47, 48, 49, 50, 51, 52, 53])], [], [], [], []⟩⟩]
theorem I_ok : ∀ i ∈ I, Try.prog.funcs[i.f]? = some i.fn ∧ (i.fn.name == "runtime.NumGoroutine") = false := by
  intro i hi
  simp only [I, List.mem_cons, List.not_mem_nil, or_false] at hi
  subst hi
  exact ⟨by kernel_rfl, by kernel_rfl⟩
noncomputable abbrev L0 (fuel n : Nat) (s : St) (k : Kont) := lAt Try.prog X I fuel true 0 false 15 (bodyOf Try.f15) [1, 1, 1, 0, 1, 0] n s k
noncomputable abbrev k0  (fuel : Nat) : Kont := (kAt Try.prog X I fuel true 0 false 15 (bodyOf Try.f15) [1, 1, 1, 0, 1, 0] [] (endK Try.prog Try.f15))
noncomputable def t0 (p1q1 : List Int) (p0q0 : List Int) (p0q1 : List Int) (p1q0 : List Int) (x0q2 : Int) (x0q7 : List Int) : St := ⟨[.dead, .dead, (.ptr 1000000000 0 0), (.ptr 1000000001 0 0), (.ptr 1000000002 0 0), .dead, (.all 1000000003 1), .dead, .dead, .dead, .dead, .dead, .dead, .dead, .dead, .dead, .dead, .dead, .dead, .dead, .dead, .dead, .dead, (.imm (.ints .i64 p1q1)), (.imm (.int .i64 ((p1q1.length : Nat) : Int))), (.imm (.int .i64 x0q2)), .dead, .dead, .dead, .dead, .dead, .dead, .dead, .dead, .dead, .dead, .dead, .dead, .dead, .dead, .dead, .dead, .dead, .dead, .dead, .dead, .dead, .dead, .dead, .dead, .dead, .dead, .dead, .dead], hOf [(1000000000, (.box [(.imm (.ints .i64 p0q0)), (.imm (.ints .i64 p0q1))])), (1000000001, (.box [(.imm (.ints .i64 p1q0)), (.imm (.ints .i64 p1q1))])), (1000000002, (.box [(.imm .nils), (.imm .nils)])), (1000000003, (.ints .i64 x0q7))], [], []⟩
theorem e (fuel : Nat) (p0q0 : List Int) (p0q1 : List Int) (p1q0 : List Int) (p1q1 : List Int) : runF Try.prog X I 0 fuel 15 Try.f15 [.d (.agg [(.ints .i64 p0q0), (.ints .i64 p0q1)]), .d (.agg [(.ints .i64 p1q0), (.ints .i64 p1q1)])] =
  (bif decide (p0q0.length < 9223372036854775808) && decide (p0q1.length < 9223372036854775808) then
  (bif (!(vcB p0q0 p0q1)) then
  some ([.agg [((.ints .i64 []), true), ((.ints .i64 []), true)], .one ((.bool false), false)], [])
  else
  (bif decide (p1q0.length < 9223372036854775808) && decide (p1q1.length < 9223372036854775808) then
  (bif (!(validA p1q0 p1q1)) then
  some ([.agg [((.ints .i64 []), true), ((.ints .i64 []), true)], .one ((.bool false), false)], [])
  else
  (bif decide (0 ≤ (((p1q1.length : Nat) : Int) : Int)) && decide ((((p1q1.length : Nat) : Int) : Int) ≤ ((p1q1.length : Nat) : Int)) && decide ((((p1q1.length : Nat) : Int) : Int) ≤ 1152921504606846976) && decide (((8 : Nat) : Int) * ((p1q1.length : Nat) : Int) ≤ 281474976710656) then
  L0 fuel fuel (t0 p1q1 p0q0 p0q1 p1q0 0 ((List.replicate (((p1q1.length : Nat) : Int)).toNat (0 : Int)))) (k0  fuel)
  else
  none))
  else
  none))
  else
  none) := by kernel_rfl
theorem s0 (fuel n0 : Nat) (p1q1 : List Int) (p0q0 : List Int) (p0q1 : List Int) (p1q0 : List Int) (x0q2 : Int) (x0q7 : List Int) : L0 fuel (n0 + 1) (t0 p1q1 p0q0 p0q1 p1q0 x0q2 x0q7) (k0  fuel) =
  (bif (decide ((x0q2 : Int) < ((p1q1.length : Nat) : Int))) then
  (idx x0q2 p1q1.length).bind fun j11 =>
  (p1q1[j11]?).bind fun v12 =>
  (bif (decide ((v12 : Int) < 0)) then
  some ([.agg [((.ints .i64 []), true), ((.ints .i64 []), true)], .one ((.bool false), false)], [])
  else
  (bif (decide ((v12 : Int) ≥ ((p0q1.length : Nat) : Int))) then
  some ([.agg [((.ints .i64 []), true), ((.ints .i64 []), true)], .one ((.bool false), false)], [])
  else
  (idx v12 p0q1.length).bind fun j13 =>
  (p0q1[j13]?).bind fun v14 =>
  (idx x0q2 x0q7.length).bind fun j15 =>
  (bif decide (j15 < x0q7.length) then
  L0 fuel n0 (t0 p1q1 p0q0 p0q1 p1q0 ((IntKind.wrap .i64 (x0q2 + 1))) ((x0q7.set j15 v14))) (k0  fuel)
  else
  none)))
  else
  (bif szB p1q0 then
  some ([.agg [((.ints .i64 p1q0), true), ((.ints .i64 x0q7), true)], .one ((.bool true), false)], [])
  else
  none)) := by kernel_rfl
end impl_PickItems
theorem impl_PickItems.ok_of (hX : ∀ E ∈ impl_PickItems.X, CallSpec Try.prog E) (h : ∀ (sh : List Int) (da : List Int) (s2 : List Int) (d2 : List Int), (decide (sh.length < 9223372036854775808) && decide (da.length < 9223372036854775808) && decide (s2.length < 9223372036854775808) && decide (d2.length < 9223372036854775808)) = true → ∃ fuel, runF Try.prog impl_PickItems.X impl_PickItems.I 0 fuel 15 Try.f15 [.d (.agg [(.ints .i64 sh), (.ints .i64 da)]), .d (.agg [(.ints .i64 s2), (.ints .i64 d2)])] = some ([.agg [((.ints .i64 (pkS sh da s2 d2)), true), ((.ints .i64 (pkD sh da s2 d2)), true)], .one ((.bool (pkB sh da s2 d2)), false)], [])) : CallSpec Try.prog impl_PickItems.E :=
  callSpec_of (d := 0) hX (by kernel_rfl) impl_PickItems.I_ok (by kernel_rfl) (by kernel_rfl) (by kernel_rfl) (fun _ _ _ _ h => by dsimp only [impl_PickItems.E] at h; cases h) (fun xs hp => by
    dsimp only [impl_PickItems.E] at hp ⊢
    split at hp
    · exact h _ _ _ _ hp
    · cases hp)
theorem impl_PickItems.ok : CallSpec Try.prog impl_PickItems.E := impl_PickItems.ok_of (by simp [impl_PickItems.X, impl_isVector.ok, impl_ValidArray.ok, impl_copyList.ok]) fun sh da s2 d2 h => by
  obtain ⟨F, hF⟩ : ∃ F : Nat, d2.length < F := ⟨d2.length + 1, by omega⟩
  refine ⟨F, ?_⟩
  simp only [Bool.and_eq_true] at h
  obtain ⟨⟨⟨h1, h2⟩, h3⟩, h4⟩ := h
  rw [impl_PickItems.e, h1, h2, h3, h4]
  unfold pkS pkD
  cases hb : vcB sh da with
  | false =>
    have : pkB sh da s2 d2 = false := by simp only [pkB, hb, Bool.false_and]
    rw [this]; rfl
  | true =>
    cases hv : validA s2 d2 with
    | false =>
      have : pkB sh da s2 d2 = false := by simp only [pkB, hb, hv, Bool.false_and, Bool.and_false]
      rw [this]; rfl
    | true =>
      obtain ⟨_, _, hl, _⟩ := vcB_inv hb
      have hl2 := validA_len hv
      have hN := pkN_length da d2
      rw [mkOk (by omega) (by omega), Int.toNat_natCast]
      simp only [cond_true, Bool.and_self, Bool.not_true, cond_false]
      have hK : pkB sh da s2 d2 = allB d2 0 (((da.length : Nat) : Int) - 1) := by simp only [pkB, hb, hv, Bool.true_and]
      refine cnt_loop (N := d2.length) (fun n j out => impl_PickItems.L0 F n (impl_PickItems.t0 d2 sh da s2 (j : Int) out) (impl_PickItems.k0 F)) (fun j out => out = part (pkN da d2) j ∧ ∀ i, i < j → 0 ≤ d2.getD i 0 ∧ d2.getD i 0 ≤ ((da.length : Nat) : Int) - 1) ?_ ?_ F 0 _ (by omega) (by omega) ⟨by rw [part_zero, hN], fun i hi => absurd hi (by omega)⟩
      · rintro n out ⟨hI, hc⟩
        have ha : allB d2 0 (((da.length : Nat) : Int) - 1) = true := allB_iff.2 fun v hv => by
          obtain ⟨i, hi, rfl⟩ := List.getElem_of_mem hv
          have := hc i hi
          simpa [hi] using this
        have hall := part_all (pkN da d2)
        rw [hN] at hall
        rw [hall] at hI
        rw [impl_PickItems.s0, dge (by omega), cond_false, szB_of (xs := s2) (by omega), hI, hK, ha]
        rfl
      · rintro n j out hj ⟨hI, hc⟩
        have hol : out.length = d2.length := by rw [hI, part_length (by omega), hN]
        rw [impl_PickItems.s0, dlt hj, cond_true, idx_nat hj, w1 (by omega)]
        simp only [Option.bind_some, getD_get hj]
        have hno : (¬ (0 ≤ d2.getD j 0 ∧ d2.getD j 0 ≤ ((da.length : Nat) : Int) - 1)) → pkB sh da s2 d2 = false := by
          intro hn
          rw [hK, Bool.eq_false_iff]
          exact fun ha => hn (allB_inv ha hj)
        by_cases c1 : d2.getD j 0 < 0
        · refine .inl ?_
          rw [decide_eq_true c1, hno (by omega)]; rfl
        · by_cases c2 : d2.getD j 0 ≥ ((da.length : Nat) : Int)
          · refine .inl ?_
            rw [decide_eq_false c1, decide_eq_true c2, hno (by omega)]; rfl
          · refine .inr ⟨out.set j (da.getD (d2.getD j 0).toNat 0), ⟨?_, fun i hi => ?_⟩, ?_⟩
            · rw [hI, part_set (by omega)]
              simp only [pkN]
              rw [tab_getD hj]
            · by_cases h1 : i = j
              · subst h1; omega
              · exact hc i (by omega)
            · obtain ⟨p, hpe⟩ : ∃ p : Nat, d2.getD j 0 = p := ⟨(d2.getD j 0).toNat, by omega⟩
              have hpl : p < da.length := by omega
              rw [decide_eq_false c1, decide_eq_false c2, hpe, idx_nat hpl]
              simp only [cond_false, Option.bind_some, getD_get hpl]
              rw [idx_nat (by omega)]
              simp only [Option.bind_some]
              rw [decide_eq_true (by omega), cond_true, Int.toNat_natCast]

namespace laws_FnFindItemsOwn
noncomputable def E : Entry := ⟨7, true, false, fun | [.d (.ints .u8 bs)] => bytesB bs | _ => false, fun | [.d (.ints .u8 bs)] => ([.one ((.bool true), false)], []) | _ => ([], []), fun _ => [], false, fun _ => none⟩
end laws_FnFindItemsOwn
namespace laws_FnFindItemsOwn
noncomputable def X : List Entry := [spec_DrawFindItems.E, impl_FindItems.E, spec_FindItems.E, laws_equalArray.E, impl_PickItems.E]
noncomputable def I : List Inl := [⟨7, Try.f7, ⟨[18, 24, 30, 57, 63], [], [], [], [], []⟩⟩]
theorem I_ok : ∀ i ∈ I, Try.prog.funcs[i.f]? = some i.fn ∧ (i.fn.name == "runtime.NumGoroutine") = false := by
  intro i hi
  simp only [I, List.mem_cons, List.not_mem_nil, or_false] at hi
  subst hi
  exact ⟨by kernel_rfl, by kernel_rfl⟩
theorem e (fuel : Nat) (p0 : List Int) : runF Try.prog X I 0 fuel 7 Try.f7 [.d (.ints .u8 p0)] =
  (bif (decide ((((p0.length : Nat) : Int) : Int) > 1048576)) then
  some ([.one ((.bool true), false)], [])
  else
  (bif bytesB p0 then
  (bif decide (((avS (cutC p0) 0)).length < 9223372036854775808) && decide (((avD (cutC p0) 0)).length < 9223372036854775808) && decide (((fdS (cutC p0))).length < 9223372036854775808) && decide (((fdD (cutC p0))).length < 9223372036854775808) then
  (bif decide (((avS (cutC p0) 0)).length < 9223372036854775808) && decide (((avD (cutC p0) 0)).length < 9223372036854775808) && decide (((fdS (cutC p0))).length < 9223372036854775808) && decide (((fdD (cutC p0))).length < 9223372036854775808) then
  (bif decide (((fiS ((avS (cutC p0) 0)) ((avD (cutC p0) 0)) ((fdS (cutC p0))) ((fdD (cutC p0))))).length < 9223372036854775808) && decide (((fiD ((avS (cutC p0) 0)) ((avD (cutC p0) 0)) ((fdS (cutC p0))) ((fdD (cutC p0))))).length < 9223372036854775808) && decide (((fiS ((avS (cutC p0) 0)) ((avD (cutC p0) 0)) ((fdS (cutC p0))) ((fdD (cutC p0))))).length < 9223372036854775808) && decide (((fiD ((avS (cutC p0) 0)) ((avD (cutC p0) 0)) ((fdS (cutC p0))) ((fdD (cutC p0))))).length < 9223372036854775808) then
  (bif (!(decide (((fiS ((avS (cutC p0) 0)) ((avD (cutC p0) 0)) ((fdS (cutC p0))) ((fdD (cutC p0))))) = ((fiS ((avS (cutC p0) 0)) ((avD (cutC p0) 0)) ((fdS (cutC p0))) ((fdD (cutC p0)))))) && decide (((fiD ((avS (cutC p0) 0)) ((avD (cutC p0) 0)) ((fdS (cutC p0))) ((fdD (cutC p0))))) = ((fiD ((avS (cutC p0) 0)) ((avD (cutC p0) 0)) ((fdS (cutC p0))) ((fdD (cutC p0)))))))) then
  (bif decide (((fiS ((avS (cutC p0) 0)) ((avD (cutC p0) 0)) ((fdS (cutC p0))) ((fdD (cutC p0))))).length < 9223372036854775808) && decide (((fiD ((avS (cutC p0) 0)) ((avD (cutC p0) 0)) ((fdS (cutC p0))) ((fdD (cutC p0))))).length < 9223372036854775808) && decide (((fiS ((avS (cutC p0) 0)) ((avD (cutC p0) 0)) ((fdS (cutC p0))) ((fdD (cutC p0))))).length < 9223372036854775808) && decide (((fiD ((avS (cutC p0) 0)) ((avD (cutC p0) 0)) ((fdS (cutC p0))) ((fdD (cutC p0))))).length < 9223372036854775808) then
  (bif (decide (((fiS ((avS (cutC p0) 0)) ((avD (cutC p0) 0)) ((fdS (cutC p0))) ((fdD (cutC p0))))) = ((fiS ((avS (cutC p0) 0)) ((avD (cutC p0) 0)) ((fdS (cutC p0))) ((fdD (cutC p0)))))) && decide (((fiD ((avS (cutC p0) 0)) ((avD (cutC p0) 0)) ((fdS (cutC p0))) ((fdD (cutC p0))))) = ((fiD ((avS (cutC p0) 0)) ((avD (cutC p0) 0)) ((fdS (cutC p0))) ((fdD (cutC p0))))))) then
  some ([.one ((.bool ((fiB ((avS (cutC p0) 0)) ((avD (cutC p0) 0)) ((fdS (cutC p0))) ((fdD (cutC p0)))) == (fiB ((avS (cutC p0) 0)) ((avD (cutC p0) 0)) ((fdS (cutC p0))) ((fdD (cutC p0)))))), false)], [])
  else
  some ([.one ((.bool false), false)], []))
  else
  none)
  else
  (bif (!((fiB ((avS (cutC p0) 0)) ((avD (cutC p0) 0)) ((fdS (cutC p0))) ((fdD (cutC p0)))) == (fiB ((avS (cutC p0) 0)) ((avD (cutC p0) 0)) ((fdS (cutC p0))) ((fdD (cutC p0)))))) then
  (bif decide (((fiS ((avS (cutC p0) 0)) ((avD (cutC p0) 0)) ((fdS (cutC p0))) ((fdD (cutC p0))))).length < 9223372036854775808) && decide (((fiD ((avS (cutC p0) 0)) ((avD (cutC p0) 0)) ((fdS (cutC p0))) ((fdD (cutC p0))))).length < 9223372036854775808) && decide (((fiS ((avS (cutC p0) 0)) ((avD (cutC p0) 0)) ((fdS (cutC p0))) ((fdD (cutC p0))))).length < 9223372036854775808) && decide (((fiD ((avS (cutC p0) 0)) ((avD (cutC p0) 0)) ((fdS (cutC p0))) ((fdD (cutC p0))))).length < 9223372036854775808) then
  (bif (decide (((fiS ((avS (cutC p0) 0)) ((avD (cutC p0) 0)) ((fdS (cutC p0))) ((fdD (cutC p0))))) = ((fiS ((avS (cutC p0) 0)) ((avD (cutC p0) 0)) ((fdS (cutC p0))) ((fdD (cutC p0)))))) && decide (((fiD ((avS (cutC p0) 0)) ((avD (cutC p0) 0)) ((fdS (cutC p0))) ((fdD (cutC p0))))) = ((fiD ((avS (cutC p0) 0)) ((avD (cutC p0) 0)) ((fdS (cutC p0))) ((fdD (cutC p0))))))) then
  some ([.one ((.bool ((fiB ((avS (cutC p0) 0)) ((avD (cutC p0) 0)) ((fdS (cutC p0))) ((fdD (cutC p0)))) == (fiB ((avS (cutC p0) 0)) ((avD (cutC p0) 0)) ((fdS (cutC p0))) ((fdD (cutC p0)))))), false)], [])
  else
  some ([.one ((.bool false), false)], []))
  else
  none)
  else
  (bif (!(fiB ((avS (cutC p0) 0)) ((avD (cutC p0) 0)) ((fdS (cutC p0))) ((fdD (cutC p0))))) then
  (bif decide (((fiS ((avS (cutC p0) 0)) ((avD (cutC p0) 0)) ((fdS (cutC p0))) ((fdD (cutC p0))))).length < 9223372036854775808) && decide (((fiD ((avS (cutC p0) 0)) ((avD (cutC p0) 0)) ((fdS (cutC p0))) ((fdD (cutC p0))))).length < 9223372036854775808) && decide (((fiS ((avS (cutC p0) 0)) ((avD (cutC p0) 0)) ((fdS (cutC p0))) ((fdD (cutC p0))))).length < 9223372036854775808) && decide (((fiD ((avS (cutC p0) 0)) ((avD (cutC p0) 0)) ((fdS (cutC p0))) ((fdD (cutC p0))))).length < 9223372036854775808) then
  (bif (decide (((fiS ((avS (cutC p0) 0)) ((avD (cutC p0) 0)) ((fdS (cutC p0))) ((fdD (cutC p0))))) = ((fiS ((avS (cutC p0) 0)) ((avD (cutC p0) 0)) ((fdS (cutC p0))) ((fdD (cutC p0)))))) && decide (((fiD ((avS (cutC p0) 0)) ((avD (cutC p0) 0)) ((fdS (cutC p0))) ((fdD (cutC p0))))) = ((fiD ((avS (cutC p0) 0)) ((avD (cutC p0) 0)) ((fdS (cutC p0))) ((fdD (cutC p0))))))) then
  some ([.one ((.bool ((fiB ((avS (cutC p0) 0)) ((avD (cutC p0) 0)) ((fdS (cutC p0))) ((fdD (cutC p0)))) == (fiB ((avS (cutC p0) 0)) ((avD (cutC p0) 0)) ((fdS (cutC p0))) ((fdD (cutC p0)))))), false)], [])
  else
  some ([.one ((.bool false), false)], []))
  else
  none)
  else
  (bif decide (((avS (cutC p0) 0)).length < 9223372036854775808) && decide (((avD (cutC p0) 0)).length < 9223372036854775808) && decide (((avS (cutC p0) 0)).length < 9223372036854775808) && decide (((avD (cutC p0) 0)).length < 9223372036854775808) then
  (bif decide (((avS (cutC p0) 0)).length < 9223372036854775808) && decide (((avD (cutC p0) 0)).length < 9223372036854775808) && decide (((fiS ((avS (cutC p0) 0)) ((avD (cutC p0) 0)) ((avS (cutC p0) 0)) ((avD (cutC p0) 0)))).length < 9223372036854775808) && decide (((fiD ((avS (cutC p0) 0)) ((avD (cutC p0) 0)) ((avS (cutC p0) 0)) ((avD (cutC p0) 0)))).length < 9223372036854775808) then
  (bif (fiB ((avS (cutC p0) 0)) ((avD (cutC p0) 0)) ((avS (cutC p0) 0)) ((avD (cutC p0) 0))) then
  (bif (pkB ((avS (cutC p0) 0)) ((avD (cutC p0) 0)) ((fiS ((avS (cutC p0) 0)) ((avD (cutC p0) 0)) ((avS (cutC p0) 0)) ((avD (cutC p0) 0)))) ((fiD ((avS (cutC p0) 0)) ((avD (cutC p0) 0)) ((avS (cutC p0) 0)) ((avD (cutC p0) 0))))) then
  (bif decide (((pkS ((avS (cutC p0) 0)) ((avD (cutC p0) 0)) ((fiS ((avS (cutC p0) 0)) ((avD (cutC p0) 0)) ((avS (cutC p0) 0)) ((avD (cutC p0) 0)))) ((fiD ((avS (cutC p0) 0)) ((avD (cutC p0) 0)) ((avS (cutC p0) 0)) ((avD (cutC p0) 0)))))).length < 9223372036854775808) && decide (((pkD ((avS (cutC p0) 0)) ((avD (cutC p0) 0)) ((fiS ((avS (cutC p0) 0)) ((avD (cutC p0) 0)) ((avS (cutC p0) 0)) ((avD (cutC p0) 0)))) ((fiD ((avS (cutC p0) 0)) ((avD (cutC p0) 0)) ((avS (cutC p0) 0)) ((avD (cutC p0) 0)))))).length < 9223372036854775808) && decide (((avS (cutC p0) 0)).length < 9223372036854775808) && decide (((avD (cutC p0) 0)).length < 9223372036854775808) then
  some ([.one ((.bool (decide (((pkS ((avS (cutC p0) 0)) ((avD (cutC p0) 0)) ((fiS ((avS (cutC p0) 0)) ((avD (cutC p0) 0)) ((avS (cutC p0) 0)) ((avD (cutC p0) 0)))) ((fiD ((avS (cutC p0) 0)) ((avD (cutC p0) 0)) ((avS (cutC p0) 0)) ((avD (cutC p0) 0)))))) = ((avS (cutC p0) 0))) && decide (((pkD ((avS (cutC p0) 0)) ((avD (cutC p0) 0)) ((fiS ((avS (cutC p0) 0)) ((avD (cutC p0) 0)) ((avS (cutC p0) 0)) ((avD (cutC p0) 0)))) ((fiD ((avS (cutC p0) 0)) ((avD (cutC p0) 0)) ((avS (cutC p0) 0)) ((avD (cutC p0) 0)))))) = ((avD (cutC p0) 0))))), false)], [])
  else
  none)
  else
  some ([.one ((.bool false), false)], []))
  else
  some ([.one ((.bool false), false)], []))
  else
  none)
  else
  none))))
  else
  none)
  else
  none)
  else
  none)
  else
  none)) := by kernel_rfl
end laws_FnFindItemsOwn
theorem laws_FnFindItemsOwn.ok_of (hX : ∀ E ∈ laws_FnFindItemsOwn.X, CallSpec Try.prog E) (h : ∀ (bs : List Int), (bytesB bs) = true → ∃ fuel, runF Try.prog laws_FnFindItemsOwn.X laws_FnFindItemsOwn.I 0 fuel 7 Try.f7 [.d (.ints .u8 bs)] = some ([.one ((.bool true), false)], [])) : CallSpec Try.prog laws_FnFindItemsOwn.E :=
  callSpec_of (d := 0) hX (by kernel_rfl) laws_FnFindItemsOwn.I_ok (by kernel_rfl) (by kernel_rfl) (by kernel_rfl) (fun _ _ _ _ h => by dsimp only [laws_FnFindItemsOwn.E] at h; cases h) (fun xs hp => by
    dsimp only [laws_FnFindItemsOwn.E] at hp ⊢
    split at hp
    · exact h _ hp
    · cases hp)
theorem laws_FnFindItemsOwn.ok : CallSpec Try.prog laws_FnFindItemsOwn.E := laws_FnFindItemsOwn.ok_of (by simp [laws_FnFindItemsOwn.X, spec_DrawFindItems.ok, impl_FindItems.ok, spec_FindItems.ok, laws_equalArray.ok, impl_PickItems.ok]) fun bs h => by
  obtain ⟨F, hF⟩ : ∃ F : Nat, 4000 < F := ⟨4001, by omega⟩
  refine ⟨F, ?_⟩
  rw [laws_FnFindItemsOwn.e]
  by_cases hl : ((bs.length : Nat) : Int) > 1048576
  · rw [decide_eq_true hl]; rfl
  rw [decide_eq_false hl, cond_false, h, cond_true]
  have r0 := cut_ok h (p := 0) (by omega) (by omega)
  obtain ⟨b1, b2, a1, a2, _, _⟩ := fd_bd r0
  obtain ⟨sh, hsh⟩ : ∃ x, avS (cutC bs) 0 = x := ⟨_, rfl⟩
  obtain ⟨da, hda⟩ : ∃ x, avD (cutC bs) 0 = x := ⟨_, rfl⟩
  obtain ⟨s2, hs2⟩ : ∃ x, fdS (cutC bs) = x := ⟨_, rfl⟩
  obtain ⟨d2, hd2⟩ : ∃ x, fdD (cutC bs) = x := ⟨_, rfl⟩
  rw [hsh] at a1
  rw [hda] at a2
  rw [hs2] at b1
  rw [hd2] at b2
  have g1 := lt_of (xs := sh) (by omega)
  have g2 := lt_of (xs := da) (by omega)
  have g3 := lt_of (xs := s2) (by omega)
  have g4 := lt_of (xs := d2) (by omega)
  simp only [hsh, hda, hs2, hd2]
  cases hb : fiB sh da s2 d2 with
  | false =>
    have e0 : fiS sh da s2 d2 = [] := by simp only [fiS, hb, cond_false]
    have e1 : fiD sh da s2 d2 = [] := by simp only [fiD, hb, cond_false]
    have g0 : decide (([] : List Int).length < 9223372036854775808) = true := rfl
    simp only [Bool.and_self, Bool.and_true, Bool.true_and, cond_true, cond_false, Bool.not_true, Bool.not_false, bne_self_eq_false, beq_self_eq_true, decide_true, eq_self, g1, g2, g3, g4, e0, e1, g0]
  | true =>
    have e0 : fiS sh da s2 d2 = s2 := by simp only [fiS, hb, cond_true]
    have e1 : fiD sh da s2 d2 = fiN da d2 := by simp only [fiD, hb, cond_true]
    have hb' := hb
    simp only [fiB, Bool.and_eq_true] at hb'
    obtain ⟨hv, hs, hl60, hal⟩ := vcB_inv hb'.1
    have hfl := fiN_length da d2
    have g5 := lt_of (xs := fiN da d2) (by omega)
    simp only [Bool.and_self, Bool.and_true, Bool.true_and, cond_true, cond_false, Bool.not_true, Bool.not_false, bne_self_eq_false, beq_self_eq_true, decide_true, eq_self, g1, g2, g3, g4, g5, e0, e1]
    have f1 : fiB sh da sh da = true := by simp only [fiB, hb'.1, hv, Bool.and_self]
    have f2 : fiS sh da sh da = sh := by simp only [fiS, f1, cond_true]
    have f3 : fiD sh da sh da = fiN da da := by simp only [fiD, f1, cond_true]
    have hfl2 := fiN_length da da
    have hlt : ∀ i, i < da.length → da.idxOf (da.getD i 0) < da.length := fun i hi => List.idxOf_lt_length_iff.2 (mem_getD hi)
    have hin : allB (fiN da da) 0 (((da.length : Nat) : Int) - 1) = true := allB_iff.2 fun v hv => by
      obtain ⟨i, hi, rfl⟩ := tab_mem hv
      have := hlt i hi
      omega
    have hva : validA sh (fiN da da) = true := valid_same hv hfl2 fun i hi => numB_of (by
      have := allB_inv hin hi
      omega)
    have p1 : pkB sh da sh (fiN da da) = true := by simp only [pkB, hb'.1, hva, hin, Bool.and_self]
    have p2 : pkS sh da sh (fiN da da) = sh := by simp only [pkS, p1, cond_true]
    have p3 : pkD sh da sh (fiN da da) = da := by
      simp only [pkD, p1, cond_true]
      refine (tab_ext hfl2.symm fun i hi => ?_).symm
      rw [hfl2] at hi
      rw [fiN, tab_getD hi, Int.toNat_natCast, idxOf_val (hlt i hi)]
    have g6 := lt_of (xs := fiN da da) (by omega)
    simp only [Bool.and_self, Bool.and_true, Bool.true_and, cond_true, cond_false, Bool.not_true, Bool.not_false, bne_self_eq_false, beq_self_eq_true, decide_true, eq_self, g1, g2, g6, f1, f2, f3, p1, p2, p3]

namespace impl_ScalarOf
noncomputable def E : Entry := ⟨24, false, false, fun | [.d (.int .i64 v)] => true | _ => false, fun | [.d (.int .i64 v)] => ([.agg [((.ints .i64 nilI), true), ((.ints .i64 (scalL v)), true)]], []) | _ => ([], []), fun _ => [], true, fun _ => none⟩
end impl_ScalarOf
namespace impl_ScalarOf
noncomputable def X : List Entry := [impl_isNumber.E]
noncomputable def I : List Inl := [⟨24, Try.f24, ⟨[], [], [], [], [], []⟩⟩]
theorem I_ok : ∀ i ∈ I, Try.prog.funcs[i.f]? = some i.fn ∧ (i.fn.name == "runtime.NumGoroutine") = false := by
  intro i hi
  simp only [I, List.mem_cons, List.not_mem_nil, or_false] at hi
  subst hi
  exact ⟨by kernel_rfl, by kernel_rfl⟩
theorem e (fuel : Nat) (p0 : Int) : runF Try.prog X I 0 fuel 24 Try.f24 [.d (.int .i64 p0)] =
  (bif (!(numB p0)) then
  some ([.agg [((.ints .i64 []), true), ((.ints .i64 []), true)]], [])
  else
  some ([.agg [((.ints .i64 []), true), ((.ints .i64 [p0]), true)]], [])) := by kernel_rfl
end impl_ScalarOf
theorem impl_ScalarOf.ok_of (hX : ∀ E ∈ impl_ScalarOf.X, CallSpec Try.prog E) (h : ∀ (v : Int), (true) = true → ∃ fuel, runF Try.prog impl_ScalarOf.X impl_ScalarOf.I 0 fuel 24 Try.f24 [.d (.int .i64 v)] = some ([.agg [((.ints .i64 nilI), true), ((.ints .i64 (scalL v)), true)]], [])) : CallSpec Try.prog impl_ScalarOf.E :=
  callSpec_of (d := 0) hX (by kernel_rfl) impl_ScalarOf.I_ok (by kernel_rfl) (by kernel_rfl) (by kernel_rfl) (fun _ _ _ _ h => by dsimp only [impl_ScalarOf.E] at h; cases h) (fun xs hp => by
    dsimp only [impl_ScalarOf.E] at hp ⊢
    split at hp
    · exact h _ hp
    · cases hp)
theorem impl_ScalarOf.ok : CallSpec Try.prog impl_ScalarOf.E := impl_ScalarOf.ok_of (by simp [impl_ScalarOf.X, impl_isNumber.ok]) fun v _ => ⟨0, by
  rw [impl_ScalarOf.e]
  unfold scalL
  cases numB v <;> rfl⟩

namespace laws_FnFindItemsMissing
noncomputable def E : Entry := ⟨8, true, false, fun | [.d (.ints .u8 bs)] => bytesB bs | _ => false, fun | [.d (.ints .u8 bs)] => ([.one ((.bool true), false)], []) | _ => ([], []), fun _ => [], false, fun _ => none⟩
end laws_FnFindItemsMissing
namespace laws_FnFindItemsMissing
noncomputable def X : List Entry := [spec_DrawFindItems.E, impl_FindItems.E, spec_FindItems.E, laws_equalArray.E, laws_isIn.E, impl_ScalarOf.E, laws_equalInts.E]
noncomputable def I : List Inl := [⟨8, Try.f8, ⟨[16, 22, 28, 59, 60], [], [], [], [70], []⟩⟩]
theorem I_ok : ∀ i ∈ I, Try.prog.funcs[i.f]? = some i.fn ∧ (i.fn.name == "runtime.NumGoroutine") = false := by
  intro i hi
  simp only [I, List.mem_cons, List.not_mem_nil, or_false] at hi
  subst hi
  exact ⟨by kernel_rfl, by kernel_rfl⟩
theorem e (fuel : Nat) (p0 : List Int) : runF Try.prog X I 0 fuel 8 Try.f8 [.d (.ints .u8 p0)] =
  (bif (decide ((((p0.length : Nat) : Int) : Int) > 1048576)) then
  some ([.one ((.bool true), false)], [])
  else
  (bif bytesB p0 then
  (bif decide (((avS (cutC p0) 0)).length < 9223372036854775808) && decide (((avD (cutC p0) 0)).length < 9223372036854775808) && decide (((fdS (cutC p0))).length < 9223372036854775808) && decide (((fdD (cutC p0))).length < 9223372036854775808) then
  (bif decide (((avS (cutC p0) 0)).length < 9223372036854775808) && decide (((avD (cutC p0) 0)).length < 9223372036854775808) && decide (((fdS (cutC p0))).length < 9223372036854775808) && decide (((fdD (cutC p0))).length < 9223372036854775808) then
  (bif decide (((fiS ((avS (cutC p0) 0)) ((avD (cutC p0) 0)) ((fdS (cutC p0))) ((fdD (cutC p0))))).length < 9223372036854775808) && decide (((fiD ((avS (cutC p0) 0)) ((avD (cutC p0) 0)) ((fdS (cutC p0))) ((fdD (cutC p0))))).length < 9223372036854775808) && decide (((fiS ((avS (cutC p0) 0)) ((avD (cutC p0) 0)) ((fdS (cutC p0))) ((fdD (cutC p0))))).length < 9223372036854775808) && decide (((fiD ((avS (cutC p0) 0)) ((avD (cutC p0) 0)) ((fdS (cutC p0))) ((fdD (cutC p0))))).length < 9223372036854775808) then
  (bif (!(decide (((fiS ((avS (cutC p0) 0)) ((avD (cutC p0) 0)) ((fdS (cutC p0))) ((fdD (cutC p0))))) = ((fiS ((avS (cutC p0) 0)) ((avD (cutC p0) 0)) ((fdS (cutC p0))) ((fdD (cutC p0)))))) && decide (((fiD ((avS (cutC p0) 0)) ((avD (cutC p0) 0)) ((fdS (cutC p0))) ((fdD (cutC p0))))) = ((fiD ((avS (cutC p0) 0)) ((avD (cutC p0) 0)) ((fdS (cutC p0))) ((fdD (cutC p0)))))))) then
  (bif decide (((fiS ((avS (cutC p0) 0)) ((avD (cutC p0) 0)) ((fdS (cutC p0))) ((fdD (cutC p0))))).length < 9223372036854775808) && decide (((fiD ((avS (cutC p0) 0)) ((avD (cutC p0) 0)) ((fdS (cutC p0))) ((fdD (cutC p0))))).length < 9223372036854775808) && decide (((fiS ((avS (cutC p0) 0)) ((avD (cutC p0) 0)) ((fdS (cutC p0))) ((fdD (cutC p0))))).length < 9223372036854775808) && decide (((fiD ((avS (cutC p0) 0)) ((avD (cutC p0) 0)) ((fdS (cutC p0))) ((fdD (cutC p0))))).length < 9223372036854775808) then
  (bif (decide (((fiS ((avS (cutC p0) 0)) ((avD (cutC p0) 0)) ((fdS (cutC p0))) ((fdD (cutC p0))))) = ((fiS ((avS (cutC p0) 0)) ((avD (cutC p0) 0)) ((fdS (cutC p0))) ((fdD (cutC p0)))))) && decide (((fiD ((avS (cutC p0) 0)) ((avD (cutC p0) 0)) ((fdS (cutC p0))) ((fdD (cutC p0))))) = ((fiD ((avS (cutC p0) 0)) ((avD (cutC p0) 0)) ((fdS (cutC p0))) ((fdD (cutC p0))))))) then
  some ([.one ((.bool ((fiB ((avS (cutC p0) 0)) ((avD (cutC p0) 0)) ((fdS (cutC p0))) ((fdD (cutC p0)))) == (fiB ((avS (cutC p0) 0)) ((avD (cutC p0) 0)) ((fdS (cutC p0))) ((fdD (cutC p0)))))), false)], [])
  else
  some ([.one ((.bool false), false)], []))
  else
  none)
  else
  (bif (!((fiB ((avS (cutC p0) 0)) ((avD (cutC p0) 0)) ((fdS (cutC p0))) ((fdD (cutC p0)))) == (fiB ((avS (cutC p0) 0)) ((avD (cutC p0) 0)) ((fdS (cutC p0))) ((fdD (cutC p0)))))) then
  (bif decide (((fiS ((avS (cutC p0) 0)) ((avD (cutC p0) 0)) ((fdS (cutC p0))) ((fdD (cutC p0))))).length < 9223372036854775808) && decide (((fiD ((avS (cutC p0) 0)) ((avD (cutC p0) 0)) ((fdS (cutC p0))) ((fdD (cutC p0))))).length < 9223372036854775808) && decide (((fiS ((avS (cutC p0) 0)) ((avD (cutC p0) 0)) ((fdS (cutC p0))) ((fdD (cutC p0))))).length < 9223372036854775808) && decide (((fiD ((avS (cutC p0) 0)) ((avD (cutC p0) 0)) ((fdS (cutC p0))) ((fdD (cutC p0))))).length < 9223372036854775808) then
  (bif (decide (((fiS ((avS (cutC p0) 0)) ((avD (cutC p0) 0)) ((fdS (cutC p0))) ((fdD (cutC p0))))) = ((fiS ((avS (cutC p0) 0)) ((avD (cutC p0) 0)) ((fdS (cutC p0))) ((fdD (cutC p0)))))) && decide (((fiD ((avS (cutC p0) 0)) ((avD (cutC p0) 0)) ((fdS (cutC p0))) ((fdD (cutC p0))))) = ((fiD ((avS (cutC p0) 0)) ((avD (cutC p0) 0)) ((fdS (cutC p0))) ((fdD (cutC p0))))))) then
  some ([.one ((.bool ((fiB ((avS (cutC p0) 0)) ((avD (cutC p0) 0)) ((fdS (cutC p0))) ((fdD (cutC p0)))) == (fiB ((avS (cutC p0) 0)) ((avD (cutC p0) 0)) ((fdS (cutC p0))) ((fdD (cutC p0)))))), false)], [])
  else
  some ([.one ((.bool false), false)], []))
  else
  none)
  else
  (bif (!(fiB ((avS (cutC p0) 0)) ((avD (cutC p0) 0)) ((fdS (cutC p0))) ((fdD (cutC p0))))) then
  (bif decide (((fiS ((avS (cutC p0) 0)) ((avD (cutC p0) 0)) ((fdS (cutC p0))) ((fdD (cutC p0))))).length < 9223372036854775808) && decide (((fiD ((avS (cutC p0) 0)) ((avD (cutC p0) 0)) ((fdS (cutC p0))) ((fdD (cutC p0))))).length < 9223372036854775808) && decide (((fiS ((avS (cutC p0) 0)) ((avD (cutC p0) 0)) ((fdS (cutC p0))) ((fdD (cutC p0))))).length < 9223372036854775808) && decide (((fiD ((avS (cutC p0) 0)) ((avD (cutC p0) 0)) ((fdS (cutC p0))) ((fdD (cutC p0))))).length < 9223372036854775808) then
  (bif (decide (((fiS ((avS (cutC p0) 0)) ((avD (cutC p0) 0)) ((fdS (cutC p0))) ((fdD (cutC p0))))) = ((fiS ((avS (cutC p0) 0)) ((avD (cutC p0) 0)) ((fdS (cutC p0))) ((fdD (cutC p0)))))) && decide (((fiD ((avS (cutC p0) 0)) ((avD (cutC p0) 0)) ((fdS (cutC p0))) ((fdD (cutC p0))))) = ((fiD ((avS (cutC p0) 0)) ((avD (cutC p0) 0)) ((fdS (cutC p0))) ((fdD (cutC p0))))))) then
  some ([.one ((.bool ((fiB ((avS (cutC p0) 0)) ((avD (cutC p0) 0)) ((fdS (cutC p0))) ((fdD (cutC p0)))) == (fiB ((avS (cutC p0) 0)) ((avD (cutC p0) 0)) ((fdS (cutC p0))) ((fdD (cutC p0)))))), false)], [])
  else
  some ([.one ((.bool false), false)], []))
  else
  none)
  else
  (bif decide (((avD (cutC p0) 0)).length < 9223372036854775808) then
  (bif (((avD (cutC p0) 0)).contains 777) then
  (bif decide (((fiS ((avS (cutC p0) 0)) ((avD (cutC p0) 0)) ((fdS (cutC p0))) ((fdD (cutC p0))))).length < 9223372036854775808) && decide (((fiD ((avS (cutC p0) 0)) ((avD (cutC p0) 0)) ((fdS (cutC p0))) ((fdD (cutC p0))))).length < 9223372036854775808) && decide (((fiS ((avS (cutC p0) 0)) ((avD (cutC p0) 0)) ((fdS (cutC p0))) ((fdD (cutC p0))))).length < 9223372036854775808) && decide (((fiD ((avS (cutC p0) 0)) ((avD (cutC p0) 0)) ((fdS (cutC p0))) ((fdD (cutC p0))))).length < 9223372036854775808) then
  (bif (decide (((fiS ((avS (cutC p0) 0)) ((avD (cutC p0) 0)) ((fdS (cutC p0))) ((fdD (cutC p0))))) = ((fiS ((avS (cutC p0) 0)) ((avD (cutC p0) 0)) ((fdS (cutC p0))) ((fdD (cutC p0)))))) && decide (((fiD ((avS (cutC p0) 0)) ((avD (cutC p0) 0)) ((fdS (cutC p0))) ((fdD (cutC p0))))) = ((fiD ((avS (cutC p0) 0)) ((avD (cutC p0) 0)) ((fdS (cutC p0))) ((fdD (cutC p0))))))) then
  some ([.one ((.bool ((fiB ((avS (cutC p0) 0)) ((avD (cutC p0) 0)) ((fdS (cutC p0))) ((fdD (cutC p0)))) == (fiB ((avS (cutC p0) 0)) ((avD (cutC p0) 0)) ((fdS (cutC p0))) ((fdD (cutC p0)))))), false)], [])
  else
  some ([.one ((.bool false), false)], []))
  else
  none)
  else
  (bif decide (((avS (cutC p0) 0)).length < 9223372036854775808) && decide (((avD (cutC p0) 0)).length < 9223372036854775808) && decide (nilI.length < 9223372036854775808) && decide (((scalL 777)).length < 9223372036854775808) then
  (bif (fiB ((avS (cutC p0) 0)) ((avD (cutC p0) 0)) nilI ((scalL 777))) then
  (bif decide (((fiD ((avS (cutC p0) 0)) ((avD (cutC p0) 0)) nilI ((scalL 777)))).length < 9223372036854775808) && decide ((([(((avD (cutC p0) 0).length : Nat) : Int)] : List Int)).length < 9223372036854775808) then
  some ([.one ((.bool (decide (((fiD ((avS (cutC p0) 0)) ((avD (cutC p0) 0)) nilI ((scalL 777)))) = (([(((avD (cutC p0) 0).length : Nat) : Int)] : List Int))))), false)], [])
  else
  none)
  else
  some ([.one ((.bool false), false)], []))
  else
  none))
  else
  none))))
  else
  none)
  else
  none)
  else
  none)
  else
  none)) := by kernel_rfl
end laws_FnFindItemsMissing
theorem laws_FnFindItemsMissing.ok_of (hX : ∀ E ∈ laws_FnFindItemsMissing.X, CallSpec Try.prog E) (h : ∀ (bs : List Int), (bytesB bs) = true → ∃ fuel, runF Try.prog laws_FnFindItemsMissing.X laws_FnFindItemsMissing.I 0 fuel 8 Try.f8 [.d (.ints .u8 bs)] = some ([.one ((.bool true), false)], [])) : CallSpec Try.prog laws_FnFindItemsMissing.E :=
  callSpec_of (d := 0) hX (by kernel_rfl) laws_FnFindItemsMissing.I_ok (by kernel_rfl) (by kernel_rfl) (by kernel_rfl) (fun _ _ _ _ h => by dsimp only [laws_FnFindItemsMissing.E] at h; cases h) (fun xs hp => by
    dsimp only [laws_FnFindItemsMissing.E] at hp ⊢
    split at hp
    · exact h _ hp
    · cases hp)
theorem laws_FnFindItemsMissing.ok : CallSpec Try.prog laws_FnFindItemsMissing.E := laws_FnFindItemsMissing.ok_of (by simp [laws_FnFindItemsMissing.X, spec_DrawFindItems.ok, impl_FindItems.ok, spec_FindItems.ok, laws_equalArray.ok, laws_isIn.ok, impl_ScalarOf.ok, laws_equalInts.ok]) fun bs h => by
  obtain ⟨F, hF⟩ : ∃ F : Nat, 4000 < F := ⟨4001, by omega⟩
  refine ⟨F, ?_⟩
  rw [laws_FnFindItemsMissing.e]
  by_cases hl : ((bs.length : Nat) : Int) > 1048576
  · rw [decide_eq_true hl]; rfl
  rw [decide_eq_false hl, cond_false, h, cond_true]
  have r0 := cut_ok h (p := 0) (by omega) (by omega)
  obtain ⟨b1, b2, a1, a2, _, _⟩ := fd_bd r0
  obtain ⟨sh, hsh⟩ : ∃ x, avS (cutC bs) 0 = x := ⟨_, rfl⟩
  obtain ⟨da, hda⟩ : ∃ x, avD (cutC bs) 0 = x := ⟨_, rfl⟩
  obtain ⟨s2, hs2⟩ : ∃ x, fdS (cutC bs) = x := ⟨_, rfl⟩
  obtain ⟨d2, hd2⟩ : ∃ x, fdD (cutC bs) = x := ⟨_, rfl⟩
  rw [hsh] at a1
  rw [hda] at a2
  rw [hs2] at b1
  rw [hd2] at b2
  have g1 := lt_of (xs := sh) (by omega)
  have g2 := lt_of (xs := da) (by omega)
  have g3 := lt_of (xs := s2) (by omega)
  have g4 := lt_of (xs := d2) (by omega)
  simp only [hsh, hda, hs2, hd2]
  cases hb : fiB sh da s2 d2 with
  | false =>
    have e0 : fiS sh da s2 d2 = [] := by simp only [fiS, hb, cond_false]
    have e1 : fiD sh da s2 d2 = [] := by simp only [fiD, hb, cond_false]
    have g0 : decide (([] : List Int).length < 9223372036854775808) = true := rfl
    simp only [Bool.and_self, Bool.and_true, Bool.true_and, cond_true, cond_false, Bool.not_true, Bool.not_false, bne_self_eq_false, beq_self_eq_true, decide_true, eq_self, g1, g2, g3, g4, e0, e1, g0]
  | true =>
    have e0 : fiS sh da s2 d2 = s2 := by simp only [fiS, hb, cond_true]
    have e1 : fiD sh da s2 d2 = fiN da d2 := by simp only [fiD, hb, cond_true]
    have hb' := hb
    simp only [fiB, Bool.and_eq_true] at hb'
    obtain ⟨hv, hs, hl60, hal⟩ := vcB_inv hb'.1
    have hfl := fiN_length da d2
    have g5 := lt_of (xs := fiN da d2) (by omega)
    simp only [Bool.and_self, Bool.and_true, Bool.true_and, cond_true, cond_false, Bool.not_true, Bool.not_false, bne_self_eq_false, beq_self_eq_true, decide_true, eq_self, g1, g2, g3, g4, g5, e0, e1]
    have n1 : numB 777 = true := rfl
    have n2 : scalL 777 = [777] := rfl
    have n3 : validA nilI [777] = true := rfl
    have f1 : fiB sh da nilI [777] = true := by simp only [fiB, hb'.1, n3, Bool.and_self]
    have f3 : fiD sh da nilI [777] = [((da.idxOf 777 : Nat) : Int)] := by simp only [fiD, f1, cond_true]; rfl
    have q1 : decide (nilI.length < 9223372036854775808) = true := rfl
    have q2 : decide (([777] : List Int).length < 9223372036854775808) = true := rfl
    cases hc : da.contains 777 with
    | true =>
      simp only [Bool.and_self, Bool.and_true, Bool.true_and, cond_true, cond_false, Bool.not_true, Bool.not_false, bne_self_eq_false, beq_self_eq_true, decide_true, eq_self, g2, hc, hb, g3, g5]
    | false =>
      have hx : da.idxOf 777 = da.length := idxOf_miss hc
      have q3 : decide (([((da.length : Nat) : Int)] : List Int).length < 9223372036854775808) = true := rfl
      simp only [Bool.and_self, Bool.and_true, Bool.true_and, cond_true, cond_false, Bool.not_true, Bool.not_false, bne_self_eq_false, beq_self_eq_true, decide_true, eq_self, g1, g2, hc, q1, q2, n2, f1, f3, hx, q3]

end Go.Ab
