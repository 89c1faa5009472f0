import Derived.Test.YthhapcmppafpiaaEk2
import Derived.Test.YthhapcmppafpiaaProg
import Derived.Test.YthhapcmppafpiaaChecked
open Go Go.Ab Go.Proofs
set_option maxRecDepth 100000
set_option linter.unusedVariables false
set_option linter.unusedSimpArgs false
namespace Go.Ab
namespace impl_withPlaces
noncomputable def E : Entry := ⟨82, false, false, fun | [.d (.agg [(.ints .i64 sh), (.ints .i64 da)]), .d (.int .i64 k), .d (.ints .i64 ls)] => axB sh da k && szB ls | _ => false, fun | [.d (.agg [(.ints .i64 sh), (.ints .i64 da)]), .d (.int .i64 k), .d (.ints .i64 ls)] => ([.agg [((.ints .i64 (wpS sh k ls)), true), ((.ints .i64 (wpD sh da k ls)), true)], .one ((.bool (wpB sh k ls)), false)], []) | _ => ([], []), fun _ => [], true, fun _ => none⟩
end impl_withPlaces
namespace impl_withPlaces
noncomputable def X : List Entry := [impl_withPlaces_1.E, impl_view_copied.E]
noncomputable def I : List Inl := [⟨82, Try.f82, ⟨[16], [], [(1, [5])], [], [], []⟩⟩]
theorem I_ok : ∀ i ∈ I, Try.prog.funcs[i.f]? = some i.fn ∧ (i.fn.name == "runtime.NumGoroutine") = false := by
  intro i hi
  simp only [I, List.mem_cons, List.not_mem_nil, or_false] at hi
  subst hi
  exact ⟨by kernel_rfl, by kernel_rfl⟩
theorem e (fuel : Nat) (p0q0 : List Int) (p0q1 : List Int) (p1 : Int) (p2 : List Int) : runF Try.prog X I 0 fuel 82 Try.f82 [.d (.agg [(.ints .i64 p0q0), (.ints .i64 p0q1)]), .d (.int .i64 p1), .d (.ints .i64 p2)] =
  (bif axB p0q0 p0q1 p1 && domB (((p2.length : Nat) : Int)) ((lsQ p2)) then
  some ([.agg [((.ints .i64 (cpS p0q0 p1 (((p2.length : Nat) : Int)))), true), ((.ints .i64 (cpD p0q0 p0q1 p1 (((p2.length : Nat) : Int)) ((q1v (lsI p2))))), true)], .one ((.bool (cpB p0q0 p1 (((p2.length : Nat) : Int)))), false)], [])
  else
  none) := by kernel_rfl
end impl_withPlaces
theorem impl_withPlaces.ok_of (hX : ∀ E ∈ impl_withPlaces.X, CallSpec Try.prog E) (h : ∀ (sh : List Int) (da : List Int) (k : Int) (ls : List Int), (axB sh da k && szB ls) = true → ∃ fuel, runF Try.prog impl_withPlaces.X impl_withPlaces.I 0 fuel 82 Try.f82 [.d (.agg [(.ints .i64 sh), (.ints .i64 da)]), .d (.int .i64 k), .d (.ints .i64 ls)] = some ([.agg [((.ints .i64 (wpS sh k ls)), true), ((.ints .i64 (wpD sh da k ls)), true)], .one ((.bool (wpB sh k ls)), false)], [])) : CallSpec Try.prog impl_withPlaces.E :=
  callSpec_of (d := 0) hX (by kernel_rfl) impl_withPlaces.I_ok (by kernel_rfl) (by kernel_rfl) (by kernel_rfl) (fun _ _ _ _ h => by dsimp only [impl_withPlaces.E] at h; cases h) (fun xs hp => by
    dsimp only [impl_withPlaces.E] at hp ⊢
    split at hp
    · exact h _ _ _ _ hp
    · cases hp)
theorem impl_withPlaces.ok : CallSpec Try.prog impl_withPlaces.E := impl_withPlaces.ok_of (by simp [impl_withPlaces.X, impl_withPlaces_1.ok, impl_view_copied.ok]) fun sh da k ls h => ⟨0, by
  simp only [Bool.and_eq_true] at h
  rw [impl_withPlaces.e, h.1, ls_dom]
  rfl⟩

namespace impl_RepeatAxis
noncomputable def E : Entry := ⟨32, false, false, fun | [.d (.agg [(.ints .i64 sh), (.ints .i64 da)]), .d (.int .i64 k), .d (.ints .i64 ts)] => decide (sh.length < 9223372036854775808) && decide (da.length < 9223372036854775808) && decide (ts.length < 9223372036854775808) | _ => false, fun | [.d (.agg [(.ints .i64 sh), (.ints .i64 da)]), .d (.int .i64 k), .d (.ints .i64 ts)] => ([.agg [((.ints .i64 (rpS sh da k ts)), true), ((.ints .i64 (rpD sh da k ts)), true)], .one ((.bool (rpB sh da k ts)), false)], []) | _ => ([], []), fun _ => [], true, fun _ => none⟩
end impl_RepeatAxis
namespace impl_RepeatAxis
noncomputable def X : List Entry := [impl_axisLength.E, slices_Repeat_int_int.E, impl_withPlaces.E]
noncomputable def I : List Inl := [⟨32, Try.f32, ⟨[46, 52], [(1000006, [0, 2, 4, 5, 7, 8, 9, 11, 12, 13, 14, 15, 16, 17, 18, 19, 20, 21, 22, 23, 24, 25, 26, 27, 31, 32, 33, 34, 35, 36, 37, 38, 39, 40, 41, 42, 43, 44, 45, 46, 47, 48, 49, 50, 51, 52, 53, 54])], [], [], [44], []⟩⟩]
theorem I_ok : ∀ i ∈ I, Try.prog.funcs[i.f]? = some i.fn ∧ (i.fn.name == "runtime.NumGoroutine") = false := by
  intro i hi
  simp only [I, List.mem_cons, List.not_mem_nil, or_false] at hi
  subst hi
  exact ⟨by kernel_rfl, by kernel_rfl⟩
noncomputable abbrev L0 (fuel n : Nat) (s : St) (k : Kont) := lAt Try.prog X I fuel true 0 false 32 (bodyOf Try.f32) [1, 1, 1, 1, 0, 1, 0] n s k
noncomputable abbrev k0  (fuel : Nat) : Kont := (kAt Try.prog X I fuel true 0 false 32 (bodyOf Try.f32) [1, 1, 1, 1, 0, 1, 0] [] (endK Try.prog Try.f32))
noncomputable def t0 (p1 : Int) (p2 : List Int) (p0q0 : List Int) (p0q1 : List Int) : St := ⟨[.dead, (.imm (.int .i64 p1)), .dead, (.ptr 1000000000 0 0), .dead, .dead, (.ptr 1000000001 0 0), .dead, .dead, .dead, (.imm .nils), .dead, .dead, .dead, .dead, .dead, .dead, .dead, .dead, .dead, .dead, .dead, .dead, .dead, .dead, .dead, .dead, .dead, (.imm (.ints .i64 p2)), (.imm (.int .i64 ((p2.length : Nat) : Int))), (.imm (.int .i64 0)), .dead, .dead, .dead, .dead, .dead, .dead, .dead, .dead, .dead, .dead, .dead, .dead, .dead, .dead, .dead, .dead, .dead, .dead, .dead, .dead, .dead, .dead, .dead, .dead], hOf [(1000000000, (.box [(.imm (.ints .i64 p0q0)), (.imm (.ints .i64 p0q1))])), (1000000001, (.box [(.imm .nils), (.imm .nils)]))], [], []⟩
noncomputable abbrev L1 (fuel n : Nat) (s : St) (k : Kont) := lAt Try.prog X I fuel true 0 false 32 (bodyOf Try.f32) [1, 1, 1, 1, 0, 1, 0] n s k
noncomputable abbrev k1  (fuel : Nat) : Kont := (kAt Try.prog X I fuel true 0 false 32 (bodyOf Try.f32) [1, 1, 1, 1, 0, 1, 0] [] (endK Try.prog Try.f32))
noncomputable def t1 (p1 : Int) (p2 : List Int) (p0q0 : List Int) (p0q1 : List Int) (x1q3 : Int) (x1q6 : List Int) : St := ⟨[.dead, (.imm (.int .i64 p1)), .dead, (.ptr 1000000000 0 0), .dead, .dead, (.ptr 1000000001 0 0), .dead, .dead, .dead, (.all 1000000002 1), .dead, .dead, .dead, .dead, .dead, .dead, .dead, .dead, .dead, .dead, .dead, .dead, .dead, .dead, .dead, .dead, .dead, (.imm (.ints .i64 p2)), (.imm (.int .i64 ((p2.length : Nat) : Int))), (.imm (.int .i64 x1q3)), .dead, .dead, .dead, .dead, .dead, .dead, .dead, .dead, .dead, .dead, .dead, .dead, .dead, .dead, .dead, .dead, .dead, .dead, .dead, .dead, .dead, .dead, .dead, .dead], hOf [(1000000000, (.box [(.imm (.ints .i64 p0q0)), (.imm (.ints .i64 p0q1))])), (1000000001, (.box [(.imm .nils), (.imm .nils)])), (1000000002, (.ints .i64 x1q6))], [], []⟩
theorem e (fuel : Nat) (p0q0 : List Int) (p0q1 : List Int) (p1 : Int) (p2 : List Int) : runF Try.prog X I 0 fuel 32 Try.f32 [.d (.agg [(.ints .i64 p0q0), (.ints .i64 p0q1)]), .d (.int .i64 p1), .d (.ints .i64 p2)] =
  (bif decide (p0q0.length < 9223372036854775808) && decide (p0q1.length < 9223372036854775808) then
  (bif (!(axB p0q0 p0q1 p1)) then
  some ([.agg [((.ints .i64 []), true), ((.ints .i64 []), true)], .one ((.bool false), false)], [])
  else
  (bif ((((p2.length : Nat) : Int) : Int) != (axL p0q0 p0q1 p1)) then
  some ([.agg [((.ints .i64 []), true), ((.ints .i64 []), true)], .one ((.bool false), false)], [])
  else
  L0 fuel fuel (t0 p1 p2 p0q0 p0q1) (k0  fuel)))
  else
  none) := by kernel_rfl
theorem s0 (fuel n0 : Nat) (p1 : Int) (p2 : List Int) (p0q0 : List Int) (p0q1 : List Int) : L0 fuel (n0 + 1) (t0 p1 p2 p0q0 p0q1) (k0  fuel) =
  (bif (decide ((0 : Int) < ((p2.length : Nat) : Int))) then
  (idx 0 p2.length).bind fun j3 =>
  (p2[j3]?).bind fun v4 =>
  (bif (decide ((v4 : Int) < 0)) then
  some ([.agg [((.ints .i64 []), true), ((.ints .i64 []), true)], .one ((.bool false), false)], [])
  else
  (bif (decide ((v4 : Int) > 60)) then
  some ([.agg [((.ints .i64 []), true), ((.ints .i64 []), true)], .one ((.bool false), false)], [])
  else
  (bif decide (((([0] : List Int)) : List Int).length = 1) && decide (0 ≤ v4) && decide (v4 ≤ 60) then
  (bif fits (List.replicate v4.toNat ((([0] : List Int)).getD 0 0)).length 8 then
  L1 fuel n0 (t1 p1 p2 p0q0 p0q1 ((IntKind.wrap .i64 (0 + 1))) ((List.replicate v4.toNat ((([0] : List Int)).getD 0 0)))) (k1  fuel)
  else
  none)
  else
  none)))
  else
  (bif axB p0q0 p0q1 p1 && szB (([] : List Int)) then
  some ([.agg [((.ints .i64 (wpS p0q0 p1 (([] : List Int)))), true), ((.ints .i64 (wpD p0q0 p0q1 p1 (([] : List Int)))), true)], .one ((.bool (wpB p0q0 p1 (([] : List Int)))), false)], [])
  else
  none)) := by kernel_rfl
theorem s1 (fuel n1 : Nat) (p1 : Int) (p2 : List Int) (p0q0 : List Int) (p0q1 : List Int) (x1q3 : Int) (x1q6 : List Int) : L1 fuel (n1 + 1) (t1 p1 p2 p0q0 p0q1 x1q3 x1q6) (k1  fuel) =
  (bif (decide ((x1q3 : Int) < ((p2.length : Nat) : Int))) then
  (idx x1q3 p2.length).bind fun j9 =>
  (p2[j9]?).bind fun v10 =>
  (bif (decide ((v10 : Int) < 0)) then
  some ([.agg [((.ints .i64 []), true), ((.ints .i64 []), true)], .one ((.bool false), false)], [])
  else
  (bif (decide ((v10 : Int) > 60)) then
  some ([.agg [((.ints .i64 []), true), ((.ints .i64 []), true)], .one ((.bool false), false)], [])
  else
  (bif decide (((([x1q3] : List Int)) : List Int).length = 1) && decide (0 ≤ v10) && decide (v10 ≤ 60) then
  (bif fits (x1q6.length + (List.replicate v10.toNat ((([x1q3] : List Int)).getD 0 0)).length) 8 then
  L1 fuel n1 (t1 p1 p2 p0q0 p0q1 ((IntKind.wrap .i64 (x1q3 + 1))) ((x1q6 ++ (List.replicate v10.toNat ((([x1q3] : List Int)).getD 0 0))))) (k1  fuel)
  else
  none)
  else
  none)))
  else
  (bif axB p0q0 p0q1 p1 && szB x1q6 then
  some ([.agg [((.ints .i64 (wpS p0q0 p1 x1q6)), true), ((.ints .i64 (wpD p0q0 p0q1 p1 x1q6)), true)], .one ((.bool (wpB p0q0 p1 x1q6)), false)], [])
  else
  none)) := by kernel_rfl
end impl_RepeatAxis
theorem impl_RepeatAxis.ok_of (hX : ∀ E ∈ impl_RepeatAxis.X, CallSpec Try.prog E) (h : ∀ (sh : List Int) (da : List Int) (k : Int) (ts : List Int), (decide (sh.length < 9223372036854775808) && decide (da.length < 9223372036854775808) && decide (ts.length < 9223372036854775808)) = true → ∃ fuel, runF Try.prog impl_RepeatAxis.X impl_RepeatAxis.I 0 fuel 32 Try.f32 [.d (.agg [(.ints .i64 sh), (.ints .i64 da)]), .d (.int .i64 k), .d (.ints .i64 ts)] = some ([.agg [((.ints .i64 (rpS sh da k ts)), true), ((.ints .i64 (rpD sh da k ts)), true)], .one ((.bool (rpB sh da k ts)), false)], [])) : CallSpec Try.prog impl_RepeatAxis.E :=
  callSpec_of (d := 0) hX (by kernel_rfl) impl_RepeatAxis.I_ok (by kernel_rfl) (by kernel_rfl) (by kernel_rfl) (fun _ _ _ _ h => by dsimp only [impl_RepeatAxis.E] at h; cases h) (fun xs hp => by
    dsimp only [impl_RepeatAxis.E] at hp ⊢
    split at hp
    · exact h _ _ _ _ hp
    · cases hp)
theorem impl_RepeatAxis.wp (sh da : List Int) (j : Nat) (ts : List Int) (hj : j < sh.length) (hv : validA sh da = true) (hl : ts.length = lenN sh j) (ht : allB ts 0 60 = true) :
    szB (rpL ts) = true ∧ wpS sh (j : Int) (rpL ts) = rpS sh da j ts ∧ wpD sh da (j : Int) (rpL ts) = rpD sh da j ts ∧ wpB sh (j : Int) (rpL ts) = rpB sh da j ts := by
  obtain ⟨r1, r2⟩ := rpC_bd ht ts.length (Nat.le_refl _)
  have ax := ax_of (validA_inv hv).1 hj
  have hL := ax.len_le
  have hx := axB_of hv hj
  have hB : rpB sh da j ts = validS (alS sh j (rpL ts)) := by
    simp only [rpB, hx, Int.toNat_natCast, decide_eq_true hl, ht, Bool.true_and]
  obtain ⟨w1, w2, w3⟩ := wp_eq (sh := sh) (da := da) (ls := rpL ts) (j := j) fun x hx => .inr (by have := r2 x hx; omega)
  refine ⟨szB_of ?_, ?_, ?_, ?_⟩
  · have : (rpL ts).length ≤ ts.length * 60 := r1
    omega
  · rw [w1]; unfold rpS; rw [hB]
  · rw [w2]; unfold rpD; rw [hB]
  · rw [w3, hB]
theorem impl_RepeatAxis.loop (fuel : Nat) (sh da : List Int) (j : Nat) (ts : List Int) (hj : j < sh.length) (hv : validA sh da = true) (hl : ts.length = lenN sh j) (i0 : Nat) (hi0 : i0 ≤ ts.length) (h0 : ∀ i, i < i0 → 0 ≤ ts.getD i 0 ∧ ts.getD i 0 ≤ 60) (hf : 61 < fuel) (n1 : Nat) (hn : ts.length - i0 < n1) :
    impl_RepeatAxis.L1 fuel n1 (impl_RepeatAxis.t1 (j : Int) ts sh da (i0 : Int) (rpC ts i0)) (impl_RepeatAxis.k1 fuel) = some ([.agg [((.ints .i64 (rpS sh da j ts)), true), ((.ints .i64 (rpD sh da j ts)), true)], .one ((.bool (rpB sh da j ts)), false)], []) := by
  have ax := ax_of (validA_inv hv).1 hj
  have hL := ax.len_le
  have hx := axB_of hv hj
  have hno : ∀ i, i < ts.length → ¬ (0 ≤ ts.getD i 0 ∧ ts.getD i 0 ≤ 60) → rpB sh da (j : Int) ts = false := by
    intro i hi hn
    cases ht : allB ts 0 60 with
    | true => exact absurd (allB_inv ht hi) hn
    | false => simp only [rpB, ht, Bool.false_and, Bool.and_false]
  have hlen : ∀ i, i ≤ ts.length → (∀ q, q < i → 0 ≤ ts.getD q 0 ∧ ts.getD q 0 ≤ 60) → (rpC ts i).length ≤ i * 60 := by
    intro i
    induction i with
    | zero => intro _ _; simp [rpC]
    | succ i ih =>
      intro hi hq
      have h1 := ih (by omega) (fun q hq' => hq q (by omega))
      have h2 := hq i (by omega)
      simp only [rpC, List.length_append, List.length_replicate]
      omega
  refine cnt_loop (N := ts.length) (fun n i out => impl_RepeatAxis.L1 fuel n (impl_RepeatAxis.t1 (j : Int) ts sh da (i : Int) out) (impl_RepeatAxis.k1 fuel)) (fun i out => out = rpC ts i ∧ ∀ q, q < i → 0 ≤ ts.getD q 0 ∧ ts.getD q 0 ≤ 60) ?_ ?_ n1 i0 (rpC ts i0) hi0 hn ⟨rfl, h0⟩
  · rintro n out ⟨rfl, hq⟩
    have ht : allB ts 0 60 = true := allB_iff.2 fun v hv => by
      obtain ⟨i, hi, rfl⟩ := List.getElem_of_mem hv
      have := hq i hi
      simpa [hi] using this
    obtain ⟨w0, w1, w2, w3⟩ := impl_RepeatAxis.wp sh da j ts hj hv hl ht
    unfold rpL at w0 w1 w2 w3
    rw [impl_RepeatAxis.s1, dge (by omega), cond_false, hx, w0, w1, w2, w3]
    rfl
  · rintro n i out hi ⟨rfl, hq⟩
    have h60 := hlen i (by omega) hq
    rw [impl_RepeatAxis.s1, dlt hi, cond_true, idx_nat hi, w1 (by omega)]
    simp only [Option.bind_some, getD_get hi]
    by_cases c1 : 0 ≤ ts.getD i 0
    · by_cases c2 : ts.getD i 0 ≤ 60
      · refine .inr ⟨rpC ts (i + 1), ⟨rfl, fun q hq' => ?_⟩, ?_⟩
        · by_cases e : q = i
          · subst e; exact ⟨c1, c2⟩
          · exact hq q (by omega)
        · rw [decide_eq_false (p := ts.getD i 0 < 0) (by omega), decide_eq_false (p := ts.getD i 0 > 60) (by omega), decide_eq_true c1, decide_eq_true c2, fitsOk (by rw [List.length_replicate]; omega)]
          rfl
      · refine .inl ?_
        have := hno i hi (fun h => c2 h.2)
        rw [decide_eq_false (p := ts.getD i 0 < 0) (by omega), decide_eq_true (p := ts.getD i 0 > 60) (by omega)]
        simp only [rpS, rpD, this]
        rfl
    · refine .inl ?_
      have := hno i hi (fun h => c1 h.1)
      rw [decide_eq_true (p := ts.getD i 0 < 0) (by omega)]
      simp only [rpS, rpD, this]
      rfl
theorem impl_RepeatAxis.ok : CallSpec Try.prog impl_RepeatAxis.E := impl_RepeatAxis.ok_of (by simp [impl_RepeatAxis.X, impl_axisLength.ok, slices_Repeat_int_int.ok, impl_withPlaces.ok]) fun sh da k ts h => by
  obtain ⟨F, hF⟩ : ∃ F : Nat, 100 < F := ⟨101, by omega⟩
  refine ⟨F + 1, ?_⟩
  simp only [Bool.and_eq_true] at h
  rw [impl_RepeatAxis.e, h.1.1, h.1.2]
  cases hb : axB sh da k with
  | false =>
    have : rpB sh da k ts = false := by simp only [rpB, hb, Bool.false_and]
    simp only [rpS, rpD, this]
    rfl
  | true =>
    obtain ⟨j, rfl, hj, hv, ax, hd, hl⟩ := axB_inv hb
    have hL := ax.len_le
    rw [hl]
    simp only [cond_true, Bool.and_self, Bool.not_true, cond_false]
    by_cases c1 : ts.length = lenN sh j
    · rw [show (((ts.length : Nat) : Int) != ((lenN sh j : Nat) : Int)) = false by simp [c1], cond_false]
      rw [impl_RepeatAxis.s0]
      by_cases h0 : ts.length = 0
      · have e : ts = [] := List.length_eq_zero_iff.1 h0
        obtain ⟨w0, w1, w2, w3⟩ := impl_RepeatAxis.wp sh da j ts hj hv c1 (by rw [e]; rfl)
        have e2 : rpL ts = [] := by rw [e]; rfl
        rw [e2] at w0 w1 w2 w3
        rw [decide_eq_false (p := (0 : Int) < ((ts.length : Nat) : Int)) (by omega), cond_false, hb, w0, w1, w2, w3]
        rfl
      · have hi : 0 < ts.length := by omega
        rw [decide_eq_true (p := (0 : Int) < ((ts.length : Nat) : Int)) (by omega), cond_true, show idx 0 ts.length = some 0 from idx_nat (j := 0) hi]
        simp only [Option.bind_some, getD_get hi]
        have hno : ¬ (0 ≤ ts.getD 0 0 ∧ ts.getD 0 0 ≤ 60) → rpB sh da (j : Int) ts = false := by
          intro hn
          cases ht : allB ts 0 60 with
          | true => exact absurd (allB_inv ht hi) hn
          | false => simp only [rpB, ht, Bool.false_and, Bool.and_false]
        by_cases c2 : 0 ≤ ts.getD 0 0
        · by_cases c3 : ts.getD 0 0 ≤ 60
          · have := impl_RepeatAxis.loop (F + 1) sh da j ts hj hv c1 1 (by omega) (fun i hi' => by
              obtain rfl : i = 0 := (by omega)
              exact ⟨c2, c3⟩) (by omega) F (by omega)
            rw [decide_eq_false (p := ts.getD 0 0 < 0) (by omega), decide_eq_false (p := ts.getD 0 0 > 60) (by omega), decide_eq_true c2, decide_eq_true c3, fitsOk (by rw [List.length_replicate]; omega)]
            exact this
          · have := hno (fun h => c3 h.2)
            rw [decide_eq_false (p := ts.getD 0 0 < 0) (by omega), decide_eq_true (p := ts.getD 0 0 > 60) (by omega)]
            simp only [rpS, rpD, this]
            rfl
        · have := hno (fun h => c2 h.1)
          rw [decide_eq_true (p := ts.getD 0 0 < 0) (by omega)]
          simp only [rpS, rpD, this]
          rfl
    · have : rpB sh da (j : Int) ts = false := by simp only [rpB, Int.toNat_natCast, decide_eq_false c1, Bool.and_false, Bool.false_and]
      rw [show (((ts.length : Nat) : Int) != ((lenN sh j : Nat) : Int)) = true by simp; omega]
      simp only [rpS, rpD, this]
      rfl

namespace spec_along
noncomputable def E : Entry := ⟨84, false, false, fun | [.d (.agg [(.ints .i64 sh), (.ints .i64 da)]), .d (.int .i64 k), .d (.ints .i64 ls)] => axB sh da k && alP sh k ls | _ => false, fun | [.d (.agg [(.ints .i64 sh), (.ints .i64 da)]), .d (.int .i64 k), .d (.ints .i64 ls)] => ([.agg [((.ints .i64 (alS sh k ls)), true), ((.ints .i64 (alA sh da k ls)), true)]], []) | _ => ([], []), fun _ => [], true, fun _ => none⟩
end spec_along
namespace spec_along
noncomputable def X : List Entry := [spec_copyInts.E, spec_around.E, spec_make1.E]
noncomputable def I : List Inl := [⟨84, Try.f84, ⟨[17, 78], [(1000006, [0, 4, 5, 12, 13, 14, 15, 16, 17, 18, 19, 20, 21, 22, 23, 24, 25, 26, 27, 28, 29, 30, 31, 32, 33, 34, 35, 36, 37, 38, 39, 40, 41, 42, 43, 44, 45, 46, 47, 48, 49, 50, 51, 52, 53, 54, 55, 56, 57, 58, 59, 60, 61, 62, 63, 64, 65, 66, 67, 68, 69, 70, 71, 72, 73, 74, 75, 76, 77, 78]), (1000009, [0, 4, 5, 13, 14, 15, 16, 17, 18, 19, 20, 21, 22, 23, 24, 25, 26, 27, 28, 29, 30, 31, 32, 33, 34, 35, 36, 37, 38, 39, 40, 41, 42, 43, 44, 45, 46, 47, 48, 49, 50, 51, 52, 53, 54, 55, 56, 57, 58, 59, 60, 61, 62, 63, 64, 65, 66, 67, 68, 69, 70, 71, 72, 73, 74, 75, 76, 77, 78]), (1000012, [0, 4, 5, 14, 15, 16, 17, 18, 19, 20, 21, 22, 23, 24, 25, 26, 27, 28, 29, 30, 31, 32, 33, 34, 35, 36, 37, 38, 39, 40, 41, 42, 43, 44, 45, 46, 47, 48, 49, 50, 51, 52, 53, 54, 55, 56, 57, 58, 59, 60, 61, 62, 63, 64, 65, 66, 67, 68, 69, 70, 71, 72, 73, 74, 75, 76, 77, 78])], [], [(16, [0, 2, 3, 5, 9, 10, 14, 16, 1, 4, 6, 7, 8, 11, 12, 13, 15, 17, 18, 19, 20])], [], []⟩⟩]
theorem I_ok : ∀ i ∈ I, Try.prog.funcs[i.f]? = some i.fn ∧ (i.fn.name == "runtime.NumGoroutine") = false := by
  intro i hi
  simp only [I, List.mem_cons, List.not_mem_nil, or_false] at hi
  subst hi
  exact ⟨by kernel_rfl, by kernel_rfl⟩
noncomputable abbrev L0 (fuel n : Nat) (s : St) (k : Kont) := lAt Try.prog X I fuel true 0 false 84 (bodyOf Try.f84) [1, 1, 1, 1, 1, 0, 1, 0] n s k
noncomputable abbrev k0  (fuel : Nat) : Kont := (kAt Try.prog X I fuel true 0 false 84 (bodyOf Try.f84) [1, 1, 1, 1, 1, 0, 1, 0] [] (endK Try.prog Try.f84))
noncomputable def t0 (p1 : Int) (p2 : List Int) (p0q0 : List Int) (p0q1 : List Int) (j1 : Nat) (x0q4 : Int) (x0q8 : List Int) : St := ⟨[.dead, (.imm (.int .i64 p1)), (.imm (.ints .i64 p2)), (.ptr 1000000000 0 0), .dead, .dead, (.ptr 1000000001 0 0), (.all 1000000002 1), (.imm (.int .i64 ((befN p0q0 p1.toNat : Nat) : Int))), (.imm (.int .i64 ((behN p0q0 p1.toNat : Nat) : Int))), (.all 1000000003 1), (.imm (.int .i64 x0q4)), .dead, .dead, .dead, .dead, .dead, .dead, .dead, .dead, .dead, .dead, .dead, .dead, .dead, .dead, .dead, .dead, .dead, .dead, .dead, .dead, .dead, .dead, .dead, .dead, .dead, .dead, .dead, .dead, .dead, .dead, .dead, .dead, .dead, .dead, .dead, .dead, .dead, .dead, .dead, .dead, .dead, .dead, .dead, .dead, .dead, .dead, .dead, .dead, .dead, .dead, .dead, .dead, .dead, .dead, .dead, .dead, .dead, .dead, .dead, .dead, .dead, .dead, .dead, .dead, .dead, .dead, .dead], hOf [(1000000000, (.box [(.imm (.ints .i64 p0q0)), (.imm (.ints .i64 p0q1))])), (1000000001, (.box [(.imm .nils), (.imm .nils)])), (1000000002, (.ints .i64 (p0q0.set j1 ((p2.length : Nat) : Int)))), (1000000003, (.ints .i64 x0q8))], [], []⟩
noncomputable abbrev L1 (fuel n : Nat) (s : St) (k : Kont) := lAt Try.prog X I fuel true 0 false 84 (bodyOf Try.f84) [1, 1, 1, 1, 1, 0, 1, 0, 0, 1, 0, 0, 1, 0] n s k
noncomputable abbrev k1 (n0 : Nat) (fuel : Nat) : Kont := (kAt Try.prog X I fuel true 0 false 84 (bodyOf Try.f84) [1, 1, 1, 1, 1, 0, 1, 0, 0, 1, 0, 0, 1, 0] [n0] (endK Try.prog Try.f84))
noncomputable def t1 (p1 : Int) (p2 : List Int) (p0q0 : List Int) (x0q4 : Int) (p0q1 : List Int) (j1 : Nat) (x1q5 : Int) (x1q9 : List Int) : St := ⟨[.dead, (.imm (.int .i64 p1)), (.imm (.ints .i64 p2)), (.ptr 1000000000 0 0), .dead, .dead, (.ptr 1000000001 0 0), (.all 1000000002 1), (.imm (.int .i64 ((befN p0q0 p1.toNat : Nat) : Int))), (.imm (.int .i64 ((behN p0q0 p1.toNat : Nat) : Int))), (.all 1000000003 1), (.imm (.int .i64 x0q4)), (.imm (.int .i64 x1q5)), .dead, .dead, .dead, .dead, .dead, .dead, .dead, .dead, .dead, .dead, .dead, .dead, .dead, .dead, .dead, .dead, .dead, .dead, .dead, .dead, .dead, .dead, .dead, .dead, .dead, .dead, .dead, .dead, .dead, .dead, .dead, .dead, .dead, .dead, .dead, .dead, .dead, .dead, .dead, .dead, .dead, .dead, .dead, .dead, .dead, .dead, .dead, .dead, .dead, .dead, .dead, .dead, .dead, .dead, .dead, .dead, .dead, .dead, .dead, .dead, .dead, .dead, .dead, .dead, .dead, .dead], hOf [(1000000000, (.box [(.imm (.ints .i64 p0q0)), (.imm (.ints .i64 p0q1))])), (1000000001, (.box [(.imm .nils), (.imm .nils)])), (1000000002, (.ints .i64 (p0q0.set j1 ((p2.length : Nat) : Int)))), (1000000003, (.ints .i64 x1q9))], [], []⟩
noncomputable abbrev L2 (fuel n : Nat) (s : St) (k : Kont) := lAt Try.prog X I fuel true 0 false 84 (bodyOf Try.f84) [1, 1, 1, 1, 1, 0, 1, 0, 0, 1, 0, 0, 1, 0, 0, 1, 0, 0, 1, 0] n s k
noncomputable abbrev k2 (n0 : Nat) (n1 : Nat) (fuel : Nat) : Kont := (kAt Try.prog X I fuel true 0 false 84 (bodyOf Try.f84) [1, 1, 1, 1, 1, 0, 1, 0, 0, 1, 0, 0, 1, 0, 0, 1, 0, 0, 1, 0] [n0, n1] (endK Try.prog Try.f84))
noncomputable def t2 (p1 : Int) (p2 : List Int) (p0q0 : List Int) (x0q4 : Int) (x1q5 : Int) (p0q1 : List Int) (j1 : Nat) (x2q6 : Int) (x2q10 : List Int) : St := ⟨[.dead, (.imm (.int .i64 p1)), (.imm (.ints .i64 p2)), (.ptr 1000000000 0 0), .dead, .dead, (.ptr 1000000001 0 0), (.all 1000000002 1), (.imm (.int .i64 ((befN p0q0 p1.toNat : Nat) : Int))), (.imm (.int .i64 ((behN p0q0 p1.toNat : Nat) : Int))), (.all 1000000003 1), (.imm (.int .i64 x0q4)), (.imm (.int .i64 x1q5)), (.imm (.int .i64 x2q6)), .dead, .dead, .dead, .dead, .dead, .dead, .dead, .dead, .dead, .dead, .dead, .dead, .dead, .dead, .dead, .dead, .dead, .dead, .dead, .dead, .dead, .dead, .dead, .dead, .dead, .dead, .dead, .dead, .dead, .dead, .dead, .dead, .dead, .dead, .dead, .dead, .dead, .dead, .dead, .dead, .dead, .dead, .dead, .dead, .dead, .dead, .dead, .dead, .dead, .dead, .dead, .dead, .dead, .dead, .dead, .dead, .dead, .dead, .dead, .dead, .dead, .dead, .dead, .dead, .dead], hOf [(1000000000, (.box [(.imm (.ints .i64 p0q0)), (.imm (.ints .i64 p0q1))])), (1000000001, (.box [(.imm .nils), (.imm .nils)])), (1000000002, (.ints .i64 (p0q0.set j1 ((p2.length : Nat) : Int)))), (1000000003, (.ints .i64 x2q10))], [], []⟩
theorem e (fuel : Nat) (p0q0 : List Int) (p0q1 : List Int) (p1 : Int) (p2 : List Int) : runF Try.prog X I 0 fuel 84 Try.f84 [.d (.agg [(.ints .i64 p0q0), (.ints .i64 p0q1)]), .d (.int .i64 p1), .d (.ints .i64 p2)] =
  (bif szB p0q0 then
  (idx p1 p0q0.length).bind fun j1 =>
  (bif decide (j1 < p0q0.length) then
  (bif validS p0q0 && axOk p0q0 p1 then
  L0 fuel fuel (t0 p1 p2 p0q0 p0q1 j1 0 ([])) (k0  fuel)
  else
  none)
  else
  none)
  else
  none) := by kernel_rfl
theorem s0 (fuel n0 : Nat) (p1 : Int) (p2 : List Int) (p0q0 : List Int) (p0q1 : List Int) (j1 : Nat) (x0q4 : Int) (x0q8 : List Int) : L0 fuel (n0 + 1) (t0 p1 p2 p0q0 p0q1 j1 x0q4 x0q8) (k0  fuel) =
  (bif (decide ((x0q4 : Int) < ((befN p0q0 p1.toNat : Nat) : Int))) then
  L1 fuel fuel (t1 p1 p2 p0q0 x0q4 p0q1 j1 0 x0q8) (k1 n0 fuel)
  else
  (bif szB ((p0q0.set j1 ((p2.length : Nat) : Int))) && szB x0q8 then
  some ([.agg [((.ints .i64 ((p0q0.set j1 ((p2.length : Nat) : Int)))), true), ((.ints .i64 x0q8), true)]], [])
  else
  none)) := by kernel_rfl
theorem s1 (fuel n0 n1 : Nat) (p1 : Int) (p2 : List Int) (p0q0 : List Int) (x0q4 : Int) (p0q1 : List Int) (j1 : Nat) (x1q5 : Int) (x1q9 : List Int) : L1 fuel (n1 + 1) (t1 p1 p2 p0q0 x0q4 p0q1 j1 x1q5 x1q9) (k1 n0 fuel) =
  (bif (decide ((x1q5 : Int) < ((p2.length : Nat) : Int))) then
  L2 fuel fuel (t2 p1 p2 p0q0 x0q4 x1q5 p0q1 j1 0 x1q9) (k2 n0 n1 fuel)
  else
  L0 fuel n0 (t0 p1 p2 p0q0 p0q1 j1 ((IntKind.wrap .i64 (x0q4 + 1))) x1q9) (k0  fuel)) := by kernel_rfl
theorem s2 (fuel n0 n1 n2 : Nat) (p1 : Int) (p2 : List Int) (p0q0 : List Int) (x0q4 : Int) (x1q5 : Int) (p0q1 : List Int) (j1 : Nat) (x2q6 : Int) (x2q10 : List Int) : L2 fuel (n2 + 1) (t2 p1 p2 p0q0 x0q4 x1q5 p0q1 j1 x2q6 x2q10) (k2 n0 n1 fuel) =
  (bif (decide ((x2q6 : Int) < ((behN p0q0 p1.toNat : Nat) : Int))) then
  (idx x1q5 p2.length).bind fun j114 =>
  (p2[j114]?).bind fun v115 =>
  (bif (decide ((v115 : Int) ≥ 0)) then
  (idx p1 p0q0.length).bind fun j116 =>
  (p0q0[j116]?).bind fun v117 =>
  (idx x1q5 p2.length).bind fun j118 =>
  (p2[j118]?).bind fun v119 =>
  (idx (IntKind.wrap .i64 ((IntKind.wrap .i64 ((IntKind.wrap .i64 ((IntKind.wrap .i64 (x0q4 * v117)) + v119)) * ((behN p0q0 p1.toNat : Nat) : Int))) + x2q6)) p0q1.length).bind fun j120 =>
  (p0q1[j120]?).bind fun v121 =>
  (bif fits (x2q10.length + ([v121] : List Int).length) 8 then
  L2 fuel n2 (t2 p1 p2 p0q0 x0q4 x1q5 p0q1 j1 ((IntKind.wrap .i64 (x2q6 + 1))) ((x2q10 ++ [v121]))) (k2 n0 n1 fuel)
  else
  none)
  else
  (bif fits (x2q10.length + ([0] : List Int).length) 8 then
  L2 fuel n2 (t2 p1 p2 p0q0 x0q4 x1q5 p0q1 j1 ((IntKind.wrap .i64 (x2q6 + 1))) ((x2q10 ++ [0]))) (k2 n0 n1 fuel)
  else
  none))
  else
  L1 fuel n1 (t1 p1 p2 p0q0 x0q4 p0q1 j1 ((IntKind.wrap .i64 (x1q5 + 1))) x2q10) (k1 n0 fuel)) := by kernel_rfl
end spec_along
theorem spec_along.ok_of (hX : ∀ E ∈ spec_along.X, CallSpec Try.prog E) (h : ∀ (sh : List Int) (da : List Int) (k : Int) (ls : List Int), (axB sh da k && alP sh k ls) = true → ∃ fuel, runF Try.prog spec_along.X spec_along.I 0 fuel 84 Try.f84 [.d (.agg [(.ints .i64 sh), (.ints .i64 da)]), .d (.int .i64 k), .d (.ints .i64 ls)] = some ([.agg [((.ints .i64 (alS sh k ls)), true), ((.ints .i64 (alA sh da k ls)), true)]], [])) : CallSpec Try.prog spec_along.E :=
  callSpec_of (d := 0) hX (by kernel_rfl) spec_along.I_ok (by kernel_rfl) (by kernel_rfl) (by kernel_rfl) (fun _ _ _ _ h => by dsimp only [spec_along.E] at h; cases h) (fun xs hp => by
    dsimp only [spec_along.E] at hp ⊢
    split at hp
    · exact h _ _ _ _ hp
    · cases hp)
theorem spec_along.lp2 (fuel n0 n1 : Nat) (k b j : Nat) (sh da ls : List Int) (ax : Ax sh k) (hd : da.length = befN sh k * lenN sh k * behN sh k) (al : AlOk sh k ls) (hb : b < befN sh k) (hj : j < ls.length) (hf : 3600 < fuel) :
    spec_along.L2 fuel fuel (spec_along.t2 (k : Int) ls sh (b : Int) (j : Int) da k 0 ((alA sh da k ls).take ((b * ls.length + j) * behN sh k))) (spec_along.k2 n0 n1 fuel) =
    spec_along.L1 fuel n1 (spec_along.t1 (k : Int) ls sh (b : Int) da k ((j + 1 : Nat) : Int) ((alA sh da k ls).take ((b * ls.length + (j + 1)) * behN sh k))) (spec_along.k1 n0 fuel) := by
  have hM := ax.beh_le
  have hl := al.len
  have hlen : (alA sh da k ls).length = befN sh k * ls.length * behN sh k := alA_length _ _ _ _
  have hle := al.le
  refine run_loop (N := behN sh k) (fun n m out => spec_along.L2 fuel n (spec_along.t2 (k : Int) ls sh (b : Int) (j : Int) da k (m : Int) out) (spec_along.k2 n0 n1 fuel)) (fun m out => out = (alA sh da k ls).take ((b * ls.length + j) * behN sh k + m)) ?_ ?_ fuel 0 _ (by omega) (by omega) rfl
  · intro n out ho
    rw [spec_along.s2, Int.toNat_natCast, decide_eq_false (p := ((behN sh k : Nat) : Int) < _) (by omega), w1 (j := j) (by omega), ho]
    rw [cond_false, show (b * ls.length + j) * behN sh k + behN sh k = (b * ls.length + (j + 1)) * behN sh k by rw [← Nat.add_assoc, Nat.add_mul, Nat.add_mul, Nat.add_mul, Nat.one_mul]]
  · intro n m out hm ho
    obtain ⟨e1, _, _, _⟩ := enc3 hb hj hm
    have hp := al.lt _ (mem_getD hj)
    have hg : (alA sh da k ls).getD ((b * ls.length + j) * behN sh k + m) 0 = atV (lenN sh k) (behN sh k) da b (ls.getD j 0) m := alA_get hb hj hm
    have hol : out.length ≤ 60 := by rw [ho, take_len (by omega)]; omega
    rw [spec_along.s2, Int.toNat_natCast, decide_eq_true (p := ((m : Nat) : Int) < _) (by omega), idx_nat hj, w1 (j := m) (by omega)]
    simp only [cond_true, Option.bind_some, getD_get hj]
    by_cases h0 : ls.getD j 0 ≥ 0
    · obtain ⟨p, hpp⟩ : ∃ p : Nat, ls.getD j 0 = p := ⟨(ls.getD j 0).toNat, by omega⟩
      rw [hpp] at hg h0 hp ⊢
      have hpl : p < lenN sh k := by omega
      obtain ⟨e2, _, _, _⟩ := enc3 hb hpl hm
      have hlk := ax.lt
      have hdl := ax.le
      have hx : b * lenN sh k + p ≤ 1000000000 := by
        have h1 := ax.len_le
        have h2 := ax.bef_le
        have : b * lenN sh k ≤ 3600 * 60 := Nat.mul_le_mul (by omega) h1
        omega
      simp only [decide_eq_true h0, cond_true, idx_nat hlk, Option.bind_some, getD_get hlk]
      rw [ax.len, wIdx hx (by omega), idx_nat (by omega)]
      simp only [Option.bind_some, getD_get (show (b * lenN sh k + p) * behN sh k + m < da.length by omega)]
      rw [fitsOk (by simp only [List.length_cons, List.length_nil]; omega), cond_true]
      refine ⟨_, ?_, rfl⟩
      have hg2 : atV (lenN sh k) (behN sh k) da b ((p : Nat) : Int) m = da.getD ((b * lenN sh k + p) * behN sh k + m) 0 := by simp [atV]
      rw [ho, ← hg2, take_push (by omega) hg, Nat.add_assoc]
    · simp only [decide_eq_false h0, cond_false]
      rw [fitsOk (by simp only [List.length_cons, List.length_nil]; omega), cond_true]
      refine ⟨_, ?_, rfl⟩
      have hg2 : atV (lenN sh k) (behN sh k) da b (ls.getD j 0) m = 0 := by simp only [atV, decide_eq_false h0, cond_false]
      rw [ho, ← hg2, take_push (by omega) hg, Nat.add_assoc]
theorem spec_along.lp1 (fuel n0 : Nat) (k b : Nat) (sh da ls : List Int) (ax : Ax sh k) (hd : da.length = befN sh k * lenN sh k * behN sh k) (al : AlOk sh k ls) (hb : b < befN sh k) (hf : 3600 < fuel) :
    spec_along.L1 fuel fuel (spec_along.t1 (k : Int) ls sh (b : Int) da k 0 ((alA sh da k ls).take (b * ls.length * behN sh k))) (spec_along.k1 n0 fuel) =
    spec_along.L0 fuel n0 (spec_along.t0 (k : Int) ls sh da k ((b + 1 : Nat) : Int) ((alA sh da k ls).take ((b + 1) * ls.length * behN sh k))) (spec_along.k0 fuel) := by
  have hB := ax.bef_le
  have hl := al.len
  refine run_loop (N := ls.length) (fun n j out => spec_along.L1 fuel n (spec_along.t1 (k : Int) ls sh (b : Int) da k (j : Int) out) (spec_along.k1 n0 fuel)) (fun j out => out = (alA sh da k ls).take ((b * ls.length + j) * behN sh k)) ?_ ?_ fuel 0 _ (by omega) (by omega) rfl
  · intro n out ho
    rw [spec_along.s1, decide_eq_false (p := ((ls.length : Nat) : Int) < _) (by omega), w1 (j := b) (by omega), ho, cond_false, Nat.add_mul b 1, Nat.one_mul]
  · intro n j out hj ho
    rw [spec_along.s1, decide_eq_true (p := ((j : Nat) : Int) < _) (by omega), cond_true, ho, spec_along.lp2 fuel n0 n k b j sh da ls ax hd al hb hj hf]
    exact ⟨_, rfl, rfl⟩
theorem spec_along.lp0 (fuel : Nat) (k : Nat) (sh da ls : List Int) (ax : Ax sh k) (hd : da.length = befN sh k * lenN sh k * behN sh k) (al : AlOk sh k ls) (hf : 3600 < fuel) :
    spec_along.L0 fuel fuel (spec_along.t0 (k : Int) ls sh da k 0 []) (spec_along.k0 fuel) = some ([.agg [((.ints .i64 (sh.set k ((ls.length : Nat) : Int))), true), ((.ints .i64 (alA sh da k ls)), true)]], []) := by
  have hB := ax.bef_le
  have hl := al.len
  have hle := al.le
  have hr := ax.rank
  have hlen : (alA sh da k ls).length = befN sh k * ls.length * behN sh k := alA_length _ _ _ _
  refine run_loop (N := befN sh k) (fun n b out => spec_along.L0 fuel n (spec_along.t0 (k : Int) ls sh da k (b : Int) out) (spec_along.k0 fuel)) (fun b out => out = (alA sh da k ls).take (b * ls.length * behN sh k)) ?_ ?_ fuel 0 _ (by omega) (by omega) (by simp)
  · intro n out ho
    rw [← hlen, List.take_length] at ho
    rw [spec_along.s0, Int.toNat_natCast, decide_eq_false (p := ((befN sh k : Nat) : Int) < _) (by omega), ho, szB_of (xs := sh.set _ _) (by simp; omega), szB_of (xs := alA sh da k ls) (by omega)]
    rfl
  · intro n b out hb ho
    rw [spec_along.s0, Int.toNat_natCast, decide_eq_true (p := ((b : Nat) : Int) < _) (by omega), cond_true, ho, spec_along.lp1 fuel n k b sh da ls ax hd al hb hf]
    exact ⟨_, rfl, rfl⟩
theorem spec_along.ok : CallSpec Try.prog spec_along.E := spec_along.ok_of (by simp [spec_along.X, spec_copyInts.ok, spec_around.ok, spec_make1.ok]) fun sh da k ls h => by
  obtain ⟨F, hF⟩ : ∃ F : Nat, 3600 < F := ⟨3601, by omega⟩
  refine ⟨F, ?_⟩
  simp only [Bool.and_eq_true, axB] at h
  obtain ⟨e1, e2⟩ := axOk_nat h.1.2
  have hv := validA_inv h.1.1
  have ax := ax_of hv.1 e2
  have hd := ax_data h.1.1 e2
  have hr := ax.rank
  rw [spec_along.e, szB_of (xs := sh) (by omega), hv.1, h.1.2]
  generalize k.toNat = j at *
  subst e1
  have al := alP_inv e2 h.2
  rw [idx_nat e2]
  simp only [cond_true, Option.bind_some, e2, decide_true, Bool.and_self]
  rw [spec_along.lp0 F j sh da ls ax hd al hF]
  simp only [alS, Int.toNat_natCast]

namespace spec_RepeatAxis
noncomputable def E : Entry := ⟨33, false, false, fun | [.d (.agg [(.ints .i64 sh), (.ints .i64 da)]), .d (.int .i64 k), .d (.ints .i64 ts)] => decide (sh.length < 9223372036854775808) && decide (da.length < 9223372036854775808) && decide (ts.length < 9223372036854775808) | _ => false, fun | [.d (.agg [(.ints .i64 sh), (.ints .i64 da)]), .d (.int .i64 k), .d (.ints .i64 ts)] => ([.agg [((.ints .i64 (rpS sh da k ts)), true), ((.ints .i64 (rpD sh da k ts)), true)], .one ((.bool (rpB sh da k ts)), false)], []) | _ => ([], []), fun _ => [], true, fun _ => none⟩
end spec_RepeatAxis
namespace spec_RepeatAxis
noncomputable def X : List Entry := [spec_isAxis.E, spec_allIn.E, spec_copyInts.E, spec_validShape.E, spec_along.E]
noncomputable def I : List Inl := [⟨33, Try.f33, ⟨[53, 66], [(1000005, [0, 4, 5, 7, 10, 11, 12, 13, 14, 15, 16, 17, 18, 19, 20, 21, 22, 23, 24, 25, 26, 27, 28, 29, 30, 31, 32, 33, 34, 35, 36, 37, 38, 39, 40, 41, 42, 43, 44, 45, 46, 47, 48, 49, 50, 51, 52, 53, 54, 55, 56, 57, 58, 59, 60, 61, 62, 63, 64, 65, 66]), (1000008, [0, 4, 5, 7, 11, 12, 13, 14, 15, 16, 17, 18, 19, 20, 21, 22, 23, 24, 25, 26, 27, 28, 29, 30, 31, 32, 33, 34, 35, 36, 37, 38, 39, 40, 41, 42, 43, 44, 45, 46, 47, 48, 49, 50, 51, 52, 53, 54, 55, 56, 57, 58, 59, 60, 61, 62, 63, 64, 65, 66])], [], [], [], []⟩⟩]
theorem I_ok : ∀ i ∈ I, Try.prog.funcs[i.f]? = some i.fn ∧ (i.fn.name == "runtime.NumGoroutine") = false := by
  intro i hi
  simp only [I, List.mem_cons, List.not_mem_nil, or_false] at hi
  subst hi
  exact ⟨by kernel_rfl, by kernel_rfl⟩
noncomputable abbrev L0 (fuel n : Nat) (s : St) (k : Kont) := lAt Try.prog X I fuel true 0 false 33 (bodyOf Try.f33) [1, 1, 1, 0, 1, 0] n s k
noncomputable abbrev k0  (fuel : Nat) : Kont := (kAt Try.prog X I fuel true 0 false 33 (bodyOf Try.f33) [1, 1, 1, 0, 1, 0] [] (endK Try.prog Try.f33))
noncomputable def t0 (p1 : Int) (p2 : List Int) (p0q0 : List Int) (p0q1 : List Int) (x0q2 : Int) (x0q5 : List Int) : St := ⟨[.dead, (.imm (.int .i64 p1)), (.imm (.ints .i64 p2)), (.ptr 1000000000 0 0), .dead, .dead, (.ptr 1000000001 0 0), .dead, (.all 1000000002 1), (.imm (.int .i64 x0q2)), .dead, .dead, .dead, .dead, .dead, .dead, .dead, .dead, .dead, .dead, .dead, .dead, .dead, .dead, .dead, .dead, .dead, .dead, .dead, .dead, .dead, .dead, .dead, .dead, .dead, .dead, .dead, .dead, .dead, .dead, .dead, .dead, .dead, .dead, .dead, .dead, .dead, .dead, .dead, .dead, .dead, .dead, .dead, .dead, .dead, .dead, .dead, .dead, .dead, .dead, .dead, .dead, .dead, .dead, .dead, .dead, .dead], hOf [(1000000000, (.box [(.imm (.ints .i64 p0q0)), (.imm (.ints .i64 p0q1))])), (1000000001, (.box [(.imm .nils), (.imm .nils)])), (1000000002, (.ints .i64 x0q5))], [], []⟩
noncomputable abbrev L1 (fuel n : Nat) (s : St) (k : Kont) := lAt Try.prog X I fuel true 0 false 33 (bodyOf Try.f33) [1, 1, 1, 0, 1, 0, 0, 1, 0, 0, 1, 0] n s k
noncomputable abbrev k1 (n0 : Nat) (fuel : Nat) : Kont := (kAt Try.prog X I fuel true 0 false 33 (bodyOf Try.f33) [1, 1, 1, 0, 1, 0, 0, 1, 0, 0, 1, 0] [n0] (endK Try.prog Try.f33))
noncomputable def t1 (p1 : Int) (p2 : List Int) (x0q2 : Int) (p0q0 : List Int) (p0q1 : List Int) (x1q3 : Int) (x1q6 : List Int) : St := ⟨[.dead, (.imm (.int .i64 p1)), (.imm (.ints .i64 p2)), (.ptr 1000000000 0 0), .dead, .dead, (.ptr 1000000001 0 0), .dead, (.all 1000000002 1), (.imm (.int .i64 x0q2)), (.imm (.int .i64 x1q3)), .dead, .dead, .dead, .dead, .dead, .dead, .dead, .dead, .dead, .dead, .dead, .dead, .dead, .dead, .dead, .dead, .dead, .dead, .dead, .dead, .dead, .dead, .dead, .dead, .dead, .dead, .dead, .dead, .dead, .dead, .dead, .dead, .dead, .dead, .dead, .dead, .dead, .dead, .dead, .dead, .dead, .dead, .dead, .dead, .dead, .dead, .dead, .dead, .dead, .dead, .dead, .dead, .dead, .dead, .dead, .dead], hOf [(1000000000, (.box [(.imm (.ints .i64 p0q0)), (.imm (.ints .i64 p0q1))])), (1000000001, (.box [(.imm .nils), (.imm .nils)])), (1000000002, (.ints .i64 x1q6))], [], []⟩
theorem e (fuel : Nat) (p0q0 : List Int) (p0q1 : List Int) (p1 : Int) (p2 : List Int) : runF Try.prog X I 0 fuel 33 Try.f33 [.d (.agg [(.ints .i64 p0q0), (.ints .i64 p0q1)]), .d (.int .i64 p1), .d (.ints .i64 p2)] =
  (bif decide (p0q0.length < 9223372036854775808) && decide (p0q1.length < 9223372036854775808) then
  (bif (!(axB p0q0 p0q1 p1)) then
  some ([.agg [((.ints .i64 []), true), ((.ints .i64 []), true)], .one ((.bool false), false)], [])
  else
  (idx p1 p0q0.length).bind fun j1 =>
  (p0q0[j1]?).bind fun v2 =>
  (bif ((((p2.length : Nat) : Int) : Int) != v2) then
  some ([.agg [((.ints .i64 []), true), ((.ints .i64 []), true)], .one ((.bool false), false)], [])
  else
  (bif decide (p2.length < 9223372036854775808) then
  (bif (!(allB p2 0 60)) then
  some ([.agg [((.ints .i64 []), true), ((.ints .i64 []), true)], .one ((.bool false), false)], [])
  else
  L0 fuel fuel (t0 p1 p2 p0q0 p0q1 0 ([])) (k0  fuel))
  else
  none)))
  else
  none) := by kernel_rfl
theorem s0 (fuel n0 : Nat) (p1 : Int) (p2 : List Int) (p0q0 : List Int) (p0q1 : List Int) (x0q2 : Int) (x0q5 : List Int) : L0 fuel (n0 + 1) (t0 p1 p2 p0q0 p0q1 x0q2 x0q5) (k0  fuel) =
  (bif (decide ((x0q2 : Int) < ((p2.length : Nat) : Int))) then
  L1 fuel fuel (t1 p1 p2 x0q2 p0q0 p0q1 0 x0q5) (k1 n0 fuel)
  else
  (bif szB p0q0 then
  (idx p1 p0q0.length).bind fun j19 =>
  (bif decide (j19 < p0q0.length) then
  (bif decide (((p0q0.set j19 ((x0q5.length : Nat) : Int))).length < 9223372036854775808) then
  (bif (!(validS ((p0q0.set j19 ((x0q5.length : Nat) : Int))))) then
  some ([.agg [((.ints .i64 []), true), ((.ints .i64 []), true)], .one ((.bool false), false)], [])
  else
  (bif axB p0q0 p0q1 p1 && alP p0q0 p1 x0q5 then
  some ([.agg [((.ints .i64 (alS p0q0 p1 x0q5)), true), ((.ints .i64 (alA p0q0 p0q1 p1 x0q5)), true)], .one ((.bool true), false)], [])
  else
  none))
  else
  none)
  else
  none)
  else
  none)) := by kernel_rfl
theorem s1 (fuel n0 n1 : Nat) (p1 : Int) (p2 : List Int) (x0q2 : Int) (p0q0 : List Int) (p0q1 : List Int) (x1q3 : Int) (x1q6 : List Int) : L1 fuel (n1 + 1) (t1 p1 p2 x0q2 p0q0 p0q1 x1q3 x1q6) (k1 n0 fuel) =
  (idx x0q2 p2.length).bind fun j17 =>
  (p2[j17]?).bind fun v18 =>
  (bif (decide ((x1q3 : Int) < v18)) then
  (bif fits (x1q6.length + ([x0q2] : List Int).length) 8 then
  L1 fuel n1 (t1 p1 p2 x0q2 p0q0 p0q1 ((IntKind.wrap .i64 (x1q3 + 1))) ((x1q6 ++ [x0q2]))) (k1 n0 fuel)
  else
  none)
  else
  L0 fuel n0 (t0 p1 p2 p0q0 p0q1 ((IntKind.wrap .i64 (x0q2 + 1))) x1q6) (k0  fuel)) := by kernel_rfl
end spec_RepeatAxis
theorem spec_RepeatAxis.ok_of (hX : ∀ E ∈ spec_RepeatAxis.X, CallSpec Try.prog E) (h : ∀ (sh : List Int) (da : List Int) (k : Int) (ts : List Int), (decide (sh.length < 9223372036854775808) && decide (da.length < 9223372036854775808) && decide (ts.length < 9223372036854775808)) = true → ∃ fuel, runF Try.prog spec_RepeatAxis.X spec_RepeatAxis.I 0 fuel 33 Try.f33 [.d (.agg [(.ints .i64 sh), (.ints .i64 da)]), .d (.int .i64 k), .d (.ints .i64 ts)] = some ([.agg [((.ints .i64 (rpS sh da k ts)), true), ((.ints .i64 (rpD sh da k ts)), true)], .one ((.bool (rpB sh da k ts)), false)], [])) : CallSpec Try.prog spec_RepeatAxis.E :=
  callSpec_of (d := 0) hX (by kernel_rfl) spec_RepeatAxis.I_ok (by kernel_rfl) (by kernel_rfl) (by kernel_rfl) (fun _ _ _ _ h => by dsimp only [spec_RepeatAxis.E] at h; cases h) (fun xs hp => by
    dsimp only [spec_RepeatAxis.E] at hp ⊢
    split at hp
    · exact h _ _ _ _ hp
    · cases hp)
theorem spec_RepeatAxis.fin (fuel n0 : Nat) (sh da : List Int) (j : Nat) (ts : List Int) (hj : j < sh.length) (hv : validA sh da = true) (hl : ts.length = lenN sh j) (ht : allB ts 0 60 = true) :
    spec_RepeatAxis.L0 fuel (n0 + 1) (spec_RepeatAxis.t0 (j : Int) ts sh da ((ts.length : Nat) : Int) (rpC ts ts.length)) (spec_RepeatAxis.k0 fuel) = some ([.agg [((.ints .i64 (rpS sh da j ts)), true), ((.ints .i64 (rpD sh da j ts)), true)], .one ((.bool (rpB sh da j ts)), false)], []) := by
  obtain ⟨r1, r2⟩ := rpC_bd ht ts.length (Nat.le_refl _)
  have ax := ax_of (validA_inv hv).1 hj
  have hr := ax.rank
  have hL := ax.len_le
  have hx := axB_of hv hj
  have hB : rpB sh da j ts = validS (alS sh j (rpL ts)) := by
    simp only [rpB, hx, Int.toNat_natCast, decide_eq_true hl, ht, Bool.true_and]
  have hS : alS sh j (rpL ts) = sh.set j (((rpC ts ts.length).length : Nat) : Int) := rfl
  rw [spec_RepeatAxis.s0, dge (by omega), cond_false, szB_of (xs := sh) (by omega), idx_nat hj]
  simp only [cond_true, Option.bind_some]
  rw [decide_eq_true hj, cond_true, lt_of (by rw [List.length_set]; omega), cond_true]
  unfold rpS rpD
  rw [hB, hS]
  cases hvs : validS (sh.set j (((rpC ts ts.length).length : Nat) : Int)) with
  | false => rfl
  | true =>
    have hp : alP sh (j : Int) (rpC ts ts.length) = true := alP_of hvs fun p hp => by have := r2 p hp; omega
    rw [hx, hp]
    rfl
theorem spec_RepeatAxis.inner (fuel n0 : Nat) (sh da : List Int) (j i : Nat) (ts : List Int) (hi : i < ts.length) (hl : ts.length ≤ 60) (ht : allB ts 0 60 = true) (hf : 3700 < fuel) :
    spec_RepeatAxis.L1 fuel fuel (spec_RepeatAxis.t1 (j : Int) ts (i : Int) sh da 0 (rpC ts i)) (spec_RepeatAxis.k1 n0 fuel) = spec_RepeatAxis.L0 fuel n0 (spec_RepeatAxis.t0 (j : Int) ts sh da ((i + 1 : Nat) : Int) (rpC ts (i + 1))) (spec_RepeatAxis.k0 fuel) := by
  have ht1 := allB_inv ht hi
  obtain ⟨r1, r2⟩ := rpC_bd ht i (by omega)
  obtain ⟨m, hm⟩ : ∃ m : Nat, ts.getD i 0 = m := ⟨(ts.getD i 0).toNat, by omega⟩
  refine run_loop (N := m) (fun n q out => spec_RepeatAxis.L1 fuel n (spec_RepeatAxis.t1 (j : Int) ts (i : Int) sh da (q : Int) out) (spec_RepeatAxis.k1 n0 fuel)) (fun q out => out = rpC ts i ++ List.replicate q (i : Int)) ?_ ?_ fuel 0 (rpC ts i) (by omega) (by omega) (by simp)
  · rintro n out rfl
    rw [spec_RepeatAxis.s1, idx_nat hi]
    simp only [Option.bind_some, getD_get hi, hm]
    rw [dge (by omega), cond_false, w1 (by omega)]
    simp only [rpC, hm, Int.toNat_natCast]
  · rintro n q out hq rfl
    rw [spec_RepeatAxis.s1, idx_nat hi]
    simp only [Option.bind_some, getD_get hi, hm]
    rw [dlt hq, cond_true, fitsOk (by simp only [List.length_append, List.length_replicate, List.length_cons, List.length_nil]; omega), cond_true, w1 (by omega)]
    exact ⟨_, by rw [List.append_assoc, ← List.replicate_succ'], rfl⟩
theorem spec_RepeatAxis.ok : CallSpec Try.prog spec_RepeatAxis.E := spec_RepeatAxis.ok_of (by simp [spec_RepeatAxis.X, spec_isAxis.ok, spec_allIn.ok, spec_copyInts.ok, spec_validShape.ok, spec_along.ok]) fun sh da k ts h => by
  obtain ⟨F, hF⟩ : ∃ F : Nat, 3700 < F := ⟨3701, by omega⟩
  refine ⟨F, ?_⟩
  simp only [Bool.and_eq_true] at h
  rw [spec_RepeatAxis.e, h.1.1, h.1.2, h.2]
  cases hb : axB sh da k with
  | false =>
    have : rpB sh da k ts = false := by simp only [rpB, hb, Bool.false_and]
    simp only [rpS, rpD, this]
    rfl
  | true =>
    obtain ⟨j, rfl, hj, hv, ax, hd, hl⟩ := axB_inv hb
    have hL := ax.len_le
    rw [idx_nat hj]
    simp only [cond_true, Bool.and_self, Bool.not_true, cond_false, Option.bind_some, getD_get hj, ax.len]
    by_cases c1 : ts.length = lenN sh j
    · rw [show (((ts.length : Nat) : Int) != ((lenN sh j : Nat) : Int)) = false by simp [c1], cond_false]
      cases ht : allB ts 0 60 with
      | false =>
        have : rpB sh da (j : Int) ts = false := by simp only [rpB, ht, Bool.false_and, Bool.and_false]
        simp only [rpS, rpD, this]
        rfl
      | true =>
        simp only [Bool.not_true, cond_false]
        refine run_loop (N := ts.length) (fun n i out => spec_RepeatAxis.L0 F n (spec_RepeatAxis.t0 (j : Int) ts sh da (i : Int) out) (spec_RepeatAxis.k0 F)) (fun i out => out = rpC ts i) ?_ ?_ F 0 [] (by omega) (by omega) rfl
        · rintro n out rfl
          exact spec_RepeatAxis.fin F n sh da j ts hj hv c1 ht
        · rintro n i out hi rfl
          refine ⟨_, rfl, ?_⟩
          rw [spec_RepeatAxis.s0, dlt hi, cond_true]
          exact spec_RepeatAxis.inner F n sh da j i ts hi (by omega) ht hF
    · have : rpB sh da (j : Int) ts = false := by simp only [rpB, Int.toNat_natCast, decide_eq_false c1, Bool.and_false, Bool.false_and]
      rw [show (((ts.length : Nat) : Int) != ((lenN sh j : Nat) : Int)) = true by simp; omega]
      simp only [rpS, rpD, this]
      rfl

namespace laws_FnRepeatAxis
noncomputable def E : Entry := ⟨8, true, false, fun | [.d (.ints .u8 bs)] => bytesB bs | _ => false, fun | [.d (.ints .u8 bs)] => ([.one ((.bool true), false)], []) | _ => ([], []), fun _ => [], false, fun _ => none⟩
end laws_FnRepeatAxis
namespace laws_FnRepeatAxis
noncomputable def X : List Entry := [spec_DrawRepeatAxis.E, impl_RepeatAxis.E, spec_RepeatAxis.E, laws_equalArray.E]
noncomputable def I : List Inl := [⟨8, Try.f8, ⟨[20, 28, 35, 79], [(1000011, [0, 1, 2, 7, 8, 9, 13, 14, 15, 16, 17, 18, 19, 20, 21, 22, 23, 24, 25, 26, 27, 28, 29, 30, 31, 32, 33, 34, 35, 36, 37, 38, 39, 40, 41, 42, 43, 44, 45, 46, 47, 48, 49, 50, 51, 52, 53, 54, 55, 56, 57, 58, 59, 60, 61, 62, 63, 64, 65, 66, 67, 68, 69, 70, 71, 72, 73, 74, 75, 76, 77, 78, 79, 80, 81, 82, 83, 84, 85, 86, 87, 88, 89, 90, 91, 92, 93, 94, 95, 96])], [], [], [], []⟩⟩]
theorem I_ok : ∀ i ∈ I, Try.prog.funcs[i.f]? = some i.fn ∧ (i.fn.name == "runtime.NumGoroutine") = false := by
  intro i hi
  simp only [I, List.mem_cons, List.not_mem_nil, or_false] at hi
  subst hi
  exact ⟨by kernel_rfl, by kernel_rfl⟩
noncomputable abbrev L0 (fuel n : Nat) (s : St) (k : Kont) := lAt Try.prog X I fuel true 0 false 8 (bodyOf Try.f8) [1, 1, 1, 1, 1, 1, 1, 1, 0, 1, 0] n s k
noncomputable abbrev k0  (fuel : Nat) : Kont := (kAt Try.prog X I fuel true 0 false 8 (bodyOf Try.f8) [1, 1, 1, 1, 1, 1, 1, 1, 0, 1, 0] [] (endK Try.prog Try.f8))
noncomputable def t0 (p0 : List Int) (x0q2 : Int) (x0q3 : Int) (x0q6 : List Int) : St := ⟨[.dead, .dead, .dead, (.ptr 1000000000 0 0), (.imm (.int .i64 (dAx (cutC p0)))), (.imm (.ints .i64 (drT (cutC p0)))), (.ptr 1000000001 0 0), .dead, .dead, .dead, (.imm (.int .i64 x0q2)), (.all 1000000002 1), (.imm (.int .i64 x0q3)), .dead, .dead, .dead, .dead, .dead, .dead, .dead, .dead, .dead, .dead, .dead, .dead, .dead, .dead, .dead, .dead, .dead, .dead, .dead, .dead, .dead, .dead, .dead, .dead, .dead, .dead, .dead, .dead, .dead, .dead, .dead, .dead, .dead, .dead, .dead, .dead, .dead, .dead, .dead, .dead, .dead, .dead, .dead, .dead, .dead, .dead, .dead, .dead, .dead, .dead, .dead, .dead, .dead, .dead, .dead, .dead, .dead, .dead, .dead, .dead, .dead, .dead, .dead, .dead, .dead, .dead, .dead, .dead, .dead, .dead, .dead, .dead, .dead, .dead, .dead, .dead, .dead, .dead, .dead, .dead, .dead, .dead, .dead, .dead], hOf [(1000000000, (.box [(.imm (.ints .i64 (aArS (cutC p0) 0))), (.imm (.ints .i64 (aArD (cutC p0) 0)))])), (1000000001, (.box [(.all 1000000003 1), (.all 1000000004 1)])), (1000000002, (.ints .i64 x0q6)), (1000000003, (.ints .i64 (rpS ((aArS (cutC p0) 0)) ((aArD (cutC p0) 0)) ((dAx (cutC p0))) ((drT (cutC p0)))))), (1000000004, (.ints .i64 (rpD ((aArS (cutC p0) 0)) ((aArD (cutC p0) 0)) ((dAx (cutC p0))) ((drT (cutC p0))))))], [], []⟩
theorem e (fuel : Nat) (p0 : List Int) : runF Try.prog X I 0 fuel 8 Try.f8 [.d (.ints .u8 p0)] =
  (bif (decide ((((p0.length : Nat) : Int) : Int) > 1048576)) then
  some ([.one ((.bool true), false)], [])
  else
  (bif bytesB p0 then
  (bif decide (((aArS (cutC p0) 0)).length < 9223372036854775808) && decide (((aArD (cutC p0) 0)).length < 9223372036854775808) && decide (((drT (cutC p0))).length < 9223372036854775808) then
  (bif decide (((aArS (cutC p0) 0)).length < 9223372036854775808) && decide (((aArD (cutC p0) 0)).length < 9223372036854775808) && decide (((drT (cutC p0))).length < 9223372036854775808) then
  (bif decide (((rpS ((aArS (cutC p0) 0)) ((aArD (cutC p0) 0)) ((dAx (cutC p0))) ((drT (cutC p0))))).length < 9223372036854775808) && decide (((rpD ((aArS (cutC p0) 0)) ((aArD (cutC p0) 0)) ((dAx (cutC p0))) ((drT (cutC p0))))).length < 9223372036854775808) && decide (((rpS ((aArS (cutC p0) 0)) ((aArD (cutC p0) 0)) ((dAx (cutC p0))) ((drT (cutC p0))))).length < 9223372036854775808) && decide (((rpD ((aArS (cutC p0) 0)) ((aArD (cutC p0) 0)) ((dAx (cutC p0))) ((drT (cutC p0))))).length < 9223372036854775808) then
  (bif (!(decide (((rpS ((aArS (cutC p0) 0)) ((aArD (cutC p0) 0)) ((dAx (cutC p0))) ((drT (cutC p0))))) = ((rpS ((aArS (cutC p0) 0)) ((aArD (cutC p0) 0)) ((dAx (cutC p0))) ((drT (cutC p0)))))) && decide (((rpD ((aArS (cutC p0) 0)) ((aArD (cutC p0) 0)) ((dAx (cutC p0))) ((drT (cutC p0))))) = ((rpD ((aArS (cutC p0) 0)) ((aArD (cutC p0) 0)) ((dAx (cutC p0))) ((drT (cutC p0)))))))) then
  (bif decide (((rpS ((aArS (cutC p0) 0)) ((aArD (cutC p0) 0)) ((dAx (cutC p0))) ((drT (cutC p0))))).length < 9223372036854775808) && decide (((rpD ((aArS (cutC p0) 0)) ((aArD (cutC p0) 0)) ((dAx (cutC p0))) ((drT (cutC p0))))).length < 9223372036854775808) && decide (((rpS ((aArS (cutC p0) 0)) ((aArD (cutC p0) 0)) ((dAx (cutC p0))) ((drT (cutC p0))))).length < 9223372036854775808) && decide (((rpD ((aArS (cutC p0) 0)) ((aArD (cutC p0) 0)) ((dAx (cutC p0))) ((drT (cutC p0))))).length < 9223372036854775808) then
  (bif (decide (((rpS ((aArS (cutC p0) 0)) ((aArD (cutC p0) 0)) ((dAx (cutC p0))) ((drT (cutC p0))))) = ((rpS ((aArS (cutC p0) 0)) ((aArD (cutC p0) 0)) ((dAx (cutC p0))) ((drT (cutC p0)))))) && decide (((rpD ((aArS (cutC p0) 0)) ((aArD (cutC p0) 0)) ((dAx (cutC p0))) ((drT (cutC p0))))) = ((rpD ((aArS (cutC p0) 0)) ((aArD (cutC p0) 0)) ((dAx (cutC p0))) ((drT (cutC p0))))))) then
  some ([.one ((.bool ((rpB ((aArS (cutC p0) 0)) ((aArD (cutC p0) 0)) ((dAx (cutC p0))) ((drT (cutC p0)))) == (rpB ((aArS (cutC p0) 0)) ((aArD (cutC p0) 0)) ((dAx (cutC p0))) ((drT (cutC p0)))))), false)], [])
  else
  some ([.one ((.bool false), false)], []))
  else
  none)
  else
  (bif (!((rpB ((aArS (cutC p0) 0)) ((aArD (cutC p0) 0)) ((dAx (cutC p0))) ((drT (cutC p0)))) == (rpB ((aArS (cutC p0) 0)) ((aArD (cutC p0) 0)) ((dAx (cutC p0))) ((drT (cutC p0)))))) then
  (bif decide (((rpS ((aArS (cutC p0) 0)) ((aArD (cutC p0) 0)) ((dAx (cutC p0))) ((drT (cutC p0))))).length < 9223372036854775808) && decide (((rpD ((aArS (cutC p0) 0)) ((aArD (cutC p0) 0)) ((dAx (cutC p0))) ((drT (cutC p0))))).length < 9223372036854775808) && decide (((rpS ((aArS (cutC p0) 0)) ((aArD (cutC p0) 0)) ((dAx (cutC p0))) ((drT (cutC p0))))).length < 9223372036854775808) && decide (((rpD ((aArS (cutC p0) 0)) ((aArD (cutC p0) 0)) ((dAx (cutC p0))) ((drT (cutC p0))))).length < 9223372036854775808) then
  (bif (decide (((rpS ((aArS (cutC p0) 0)) ((aArD (cutC p0) 0)) ((dAx (cutC p0))) ((drT (cutC p0))))) = ((rpS ((aArS (cutC p0) 0)) ((aArD (cutC p0) 0)) ((dAx (cutC p0))) ((drT (cutC p0)))))) && decide (((rpD ((aArS (cutC p0) 0)) ((aArD (cutC p0) 0)) ((dAx (cutC p0))) ((drT (cutC p0))))) = ((rpD ((aArS (cutC p0) 0)) ((aArD (cutC p0) 0)) ((dAx (cutC p0))) ((drT (cutC p0))))))) then
  some ([.one ((.bool ((rpB ((aArS (cutC p0) 0)) ((aArD (cutC p0) 0)) ((dAx (cutC p0))) ((drT (cutC p0)))) == (rpB ((aArS (cutC p0) 0)) ((aArD (cutC p0) 0)) ((dAx (cutC p0))) ((drT (cutC p0)))))), false)], [])
  else
  some ([.one ((.bool false), false)], []))
  else
  none)
  else
  (bif (!(rpB ((aArS (cutC p0) 0)) ((aArD (cutC p0) 0)) ((dAx (cutC p0))) ((drT (cutC p0))))) then
  (bif decide (((rpS ((aArS (cutC p0) 0)) ((aArD (cutC p0) 0)) ((dAx (cutC p0))) ((drT (cutC p0))))).length < 9223372036854775808) && decide (((rpD ((aArS (cutC p0) 0)) ((aArD (cutC p0) 0)) ((dAx (cutC p0))) ((drT (cutC p0))))).length < 9223372036854775808) && decide (((rpS ((aArS (cutC p0) 0)) ((aArD (cutC p0) 0)) ((dAx (cutC p0))) ((drT (cutC p0))))).length < 9223372036854775808) && decide (((rpD ((aArS (cutC p0) 0)) ((aArD (cutC p0) 0)) ((dAx (cutC p0))) ((drT (cutC p0))))).length < 9223372036854775808) then
  (bif (decide (((rpS ((aArS (cutC p0) 0)) ((aArD (cutC p0) 0)) ((dAx (cutC p0))) ((drT (cutC p0))))) = ((rpS ((aArS (cutC p0) 0)) ((aArD (cutC p0) 0)) ((dAx (cutC p0))) ((drT (cutC p0)))))) && decide (((rpD ((aArS (cutC p0) 0)) ((aArD (cutC p0) 0)) ((dAx (cutC p0))) ((drT (cutC p0))))) = ((rpD ((aArS (cutC p0) 0)) ((aArD (cutC p0) 0)) ((dAx (cutC p0))) ((drT (cutC p0))))))) then
  some ([.one ((.bool ((rpB ((aArS (cutC p0) 0)) ((aArD (cutC p0) 0)) ((dAx (cutC p0))) ((drT (cutC p0)))) == (rpB ((aArS (cutC p0) 0)) ((aArD (cutC p0) 0)) ((dAx (cutC p0))) ((drT (cutC p0)))))), false)], [])
  else
  some ([.one ((.bool false), false)], []))
  else
  none)
  else
  L0 fuel fuel (t0 p0 0 0 ([])) (k0  fuel))))
  else
  none)
  else
  none)
  else
  none)
  else
  none)) := by kernel_rfl
theorem s0 (fuel n0 : Nat) (p0 : List Int) (x0q2 : Int) (x0q3 : Int) (x0q6 : List Int) : L0 fuel (n0 + 1) (t0 p0 x0q2 x0q3 x0q6) (k0  fuel) =
  (bif (decide ((x0q3 : Int) < (((drT (cutC p0)).length : Nat) : Int))) then
  (idx x0q3 (drT (cutC p0)).length).bind fun j9 =>
  ((drT (cutC p0))[j9]?).bind fun v10 =>
  (bif fits (x0q6.length + ([1] : List Int).length) 8 then
  L0 fuel n0 (t0 p0 ((IntKind.wrap .i64 (x0q2 + v10))) ((IntKind.wrap .i64 (x0q3 + 1))) ((x0q6 ++ [1]))) (k0  fuel)
  else
  none)
  else
  (bif decide (((aArS (cutC p0) 0)).length < 9223372036854775808) && decide (((aArD (cutC p0) 0)).length < 9223372036854775808) && decide (x0q6.length < 9223372036854775808) then
  (idx (dAx (cutC p0)) (rpS ((aArS (cutC p0) 0)) ((aArD (cutC p0) 0)) ((dAx (cutC p0))) ((drT (cutC p0)))).length).bind fun j11 =>
  ((rpS ((aArS (cutC p0) 0)) ((aArD (cutC p0) 0)) ((dAx (cutC p0))) ((drT (cutC p0))))[j11]?).bind fun v12 =>
  (bif ((v12 : Int) == x0q2) then
  (bif (rpB ((aArS (cutC p0) 0)) ((aArD (cutC p0) 0)) ((dAx (cutC p0))) x0q6) then
  (bif decide (((rpS ((aArS (cutC p0) 0)) ((aArD (cutC p0) 0)) ((dAx (cutC p0))) x0q6)).length < 9223372036854775808) && decide (((rpD ((aArS (cutC p0) 0)) ((aArD (cutC p0) 0)) ((dAx (cutC p0))) x0q6)).length < 9223372036854775808) && decide (((aArS (cutC p0) 0)).length < 9223372036854775808) && decide (((aArD (cutC p0) 0)).length < 9223372036854775808) then
  some ([.one ((.bool (decide (((rpS ((aArS (cutC p0) 0)) ((aArD (cutC p0) 0)) ((dAx (cutC p0))) x0q6)) = ((aArS (cutC p0) 0))) && decide (((rpD ((aArS (cutC p0) 0)) ((aArD (cutC p0) 0)) ((dAx (cutC p0))) x0q6)) = ((aArD (cutC p0) 0))))), false)], [])
  else
  none)
  else
  some ([.one ((.bool false), false)], []))
  else
  some ([.one ((.bool false), false)], []))
  else
  none)) := by kernel_rfl
end laws_FnRepeatAxis
theorem laws_FnRepeatAxis.ok_of (hX : ∀ E ∈ laws_FnRepeatAxis.X, CallSpec Try.prog E) (h : ∀ (bs : List Int), (bytesB bs) = true → ∃ fuel, runF Try.prog laws_FnRepeatAxis.X laws_FnRepeatAxis.I 0 fuel 8 Try.f8 [.d (.ints .u8 bs)] = some ([.one ((.bool true), false)], [])) : CallSpec Try.prog laws_FnRepeatAxis.E :=
  callSpec_of (d := 0) hX (by kernel_rfl) laws_FnRepeatAxis.I_ok (by kernel_rfl) (by kernel_rfl) (by kernel_rfl) (fun _ _ _ _ h => by dsimp only [laws_FnRepeatAxis.E] at h; cases h) (fun xs hp => by
    dsimp only [laws_FnRepeatAxis.E] at hp ⊢
    split at hp
    · exact h _ hp
    · cases hp)
theorem laws_FnRepeatAxis.ok : CallSpec Try.prog laws_FnRepeatAxis.E := laws_FnRepeatAxis.ok_of (by simp [laws_FnRepeatAxis.X, spec_DrawRepeatAxis.ok, impl_RepeatAxis.ok, spec_RepeatAxis.ok, laws_equalArray.ok]) fun bs h => by
  obtain ⟨F, hF⟩ : ∃ F : Nat, 4000 < F := ⟨4001, by omega⟩
  refine ⟨F, ?_⟩
  rw [laws_FnRepeatAxis.e]
  by_cases hl : ((bs.length : Nat) : Int) > 1048576
  · rw [decide_eq_true hl]; rfl
  rw [decide_eq_false hl, cond_false, h, cond_true]
  have r0 := cut_ok h (p := 0) (by omega) (by omega)
  obtain ⟨_, _, a1, a2, _, _⟩ := dj_bd r0
  have tl := drT_len (cutC bs)
  obtain ⟨sh, hsh⟩ : ∃ x, aArS (cutC bs) 0 = x := ⟨_, rfl⟩
  obtain ⟨da, hda⟩ : ∃ x, aArD (cutC bs) 0 = x := ⟨_, rfl⟩
  obtain ⟨k, hk⟩ : ∃ x, dAx (cutC bs) = x := ⟨_, rfl⟩
  obtain ⟨ts, hts⟩ : ∃ x, drT (cutC bs) = x := ⟨_, rfl⟩
  rw [hsh] at a1
  rw [hda] at a2
  rw [hts] at tl
  have g1 := lt_of (xs := sh) (by omega)
  have g2 := lt_of (xs := da) (by omega)
  have g3 := lt_of (xs := ts) (by omega)
  simp only [hsh, hda, hk, hts]
  have rl := rp_len sh da k ts
  have h1 := lt_of (xs := rpS sh da k ts) (by omega)
  have h2 := lt_of (xs := rpD sh da k ts) (by omega)
  cases hb : rpB sh da k ts with
  | false =>
    simp only [Bool.and_self, Bool.and_true, Bool.true_and, cond_true, cond_false, Bool.not_true, Bool.not_false, bne_self_eq_false, beq_self_eq_true, decide_true, eq_self, g1, g2, g3, h1, h2]
  | true =>
    obtain ⟨j, rfl, hj, hv, ax, hl, hal, hvs⟩ := rpB_inv hb
    have hL := ax.len_le
    have e0 : rpS sh da (j : Int) ts = alS sh j (rpL ts) := by simp only [rpS, hb, cond_true]
    have e1 : rpD sh da (j : Int) ts = alA sh da j (rpL ts) := by simp only [rpD, hb, cond_true]
    simp only [Bool.and_self, Bool.and_true, Bool.true_and, cond_true, cond_false, Bool.not_true, Bool.not_false, bne_self_eq_false, beq_self_eq_true, decide_true, eq_self, g1, g2, g3, h1, h2]
    refine run_loop (N := ts.length) (fun m i (s : Int × List Int) => laws_FnRepeatAxis.L0 F m (laws_FnRepeatAxis.t0 bs s.1 (i : Int) s.2) (laws_FnRepeatAxis.k0 F)) (fun i s => s.1 = (((rpC ts i).length : Nat) : Int) ∧ s.2 = List.replicate i 1) ?_ ?_ F 0 (0, []) (by omega) (by omega) ⟨rfl, rfl⟩
    · rintro m ⟨c, out⟩ ⟨h3, h4⟩
      simp only at h3 h4
      subst h3
      subst h4
      have hvS := (validA_inv hv).1
      have xa := axB_of hv hj
      have hr : rpL (List.replicate ts.length 1) = tab ts.length fun i => (i : Int) := by
        unfold rpL
        rw [List.length_replicate]
        exact rp_ones ts.length (Nat.le_refl _)
      have hrl : (tab ts.length fun i => (i : Int)).length = lenN sh j := by rw [tab_length]; exact hl
      have s1 := alS_same hvS hj hrl
      have s2 := al_id hv hj hrl fun i hi => tab_getD (by omega)
      have o1 : rpB sh da (j : Int) (List.replicate ts.length 1) = true := by
        have ho : allB (List.replicate ts.length (1 : Int)) 0 60 = true := allB_iff.2 fun v hv => by
          rw [List.eq_of_mem_replicate hv]; omega
        simp only [rpB, xa, List.length_replicate, Int.toNat_natCast, decide_eq_true hl, ho, hr, s1, hvS, Bool.and_self]
      have o2 : rpS sh da (j : Int) (List.replicate ts.length 1) = sh := by simp only [rpS, o1, cond_true, hr, s1]
      have o3 : rpD sh da (j : Int) (List.replicate ts.length 1) = da := by simp only [rpD, o1, cond_true, hr, s2]
      have g5 := lt_of (xs := List.replicate ts.length (1 : Int)) (by rw [List.length_replicate]; omega)
      have hj2 : j < (alS sh j (rpL ts)).length := by rw [alS_len]; exact hj
      have e2 : (alS sh j (rpL ts)).getD j 0 = (((rpC ts ts.length).length : Nat) : Int) := by
        simp only [alS, Int.toNat_natCast]
        simp [hj, rpL]
      dsimp only
      rw [laws_FnRepeatAxis.s0]
      simp only [hsh, hda, hk, hts, e0]
      rw [dge (by omega), cond_false, idx_nat hj2]
      simp only [Bool.and_self, Bool.and_true, Bool.true_and, cond_true, cond_false, Bool.not_true, Bool.not_false, bne_self_eq_false, beq_self_eq_true, decide_true, eq_self, g1, g2, g5, Option.bind_some, getD_get hj2, e2, o1, o2, o3]
    · rintro m i ⟨c, out⟩ hi ⟨h3, h4⟩
      simp only at h3 h4
      subst h3
      subst h4
      have hb1 := (rpC_bd hal i (by omega)).1
      have ht := allB_inv hal hi
      dsimp only
      rw [laws_FnRepeatAxis.s0]
      simp only [hsh, hda, hk, hts]
      rw [dlt hi, cond_true, idx_nat hi, w1 (by omega), fitsOk (by simp only [List.length_replicate, List.length_cons, List.length_nil]; omega)]
      simp only [Option.bind_some, getD_get hi, cond_true]
      refine ⟨((((rpC ts (i + 1)).length : Nat) : Int), List.replicate (i + 1) 1), ⟨rfl, rfl⟩, ?_⟩
      dsimp only
      rw [wS (by omega) (by omega), rpC_succ_len, List.replicate_succ', show (((rpC ts i).length : Nat) : Int) + ts.getD i 0 = (((rpC ts i).length + (ts.getD i 0).toNat : Nat) : Int) by omega]
      try rfl

end Go.Ab
