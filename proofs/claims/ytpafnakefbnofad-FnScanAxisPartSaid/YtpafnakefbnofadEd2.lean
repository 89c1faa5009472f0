import Derived.Test.YtpafnakefbnofadEd1
import Derived.Test.YtpafnakefbnofadProg
import Derived.Test.YtpafnakefbnofadChecked
open Go Go.Ab Go.Proofs
set_option maxRecDepth 100000
set_option linter.unusedVariables false
set_option linter.unusedSimpArgs false
namespace Go.Ab
namespace laws_FnReduceAxis
noncomputable def E : Entry := ⟨3, true, false, fun | [.d (.ints .u8 bs)] => bytesB bs | _ => false, fun | [.d (.ints .u8 bs)] => ([.one ((.bool true), false)], []) | _ => ([], []), fun _ => [], false, fun _ => none⟩
end laws_FnReduceAxis
namespace laws_FnReduceAxis
noncomputable def X : List Entry := [spec_DrawReduceAxis.E, impl_ReduceAxis.E, spec_ReduceAxis.E, laws_equalArray.E, impl_RankOf.E, impl_ValidArray.E, laws_equalInts.E]
noncomputable def I : List Inl := [⟨3, Try.f3, ⟨[15, 23, 30], [], [], [(8, [0, 1, 2, 3, 4, 5, 6, 7, 9, 8, 10, 11, 12, 13, 14, 16, 15, 17, 18, 19, 20, 21, 22, 23, 24, 25])], [], []⟩⟩]
theorem I_ok : ∀ i ∈ I, Try.prog.funcs[i.f]? = some i.fn ∧ (i.fn.name == "runtime.NumGoroutine") = false := by
  intro i hi
  simp only [I, List.mem_cons, List.not_mem_nil, or_false] at hi
  subst hi
  exact ⟨by kernel_rfl, by kernel_rfl⟩
theorem e (fuel : Nat) (p0 : List Int) : runF Try.prog X I 0 fuel 3 Try.f3 [.d (.ints .u8 p0)] =
  (bif (decide ((((p0.length : Nat) : Int) : Int) > 1048576)) then
  some ([.one ((.bool true), false)], [])
  else
  (bif bytesB p0 then
  (bif decide (((rxS (cutC p0))).length < 9223372036854775808) && decide (((rxD (cutC p0))).length < 9223372036854775808) then
  (bif decide (((rxS (cutC p0))).length < 9223372036854775808) && decide (((rxD (cutC p0))).length < 9223372036854775808) then
  (bif decide (((rdxS ((anyOpV (cutC p0) 0)) ((rxS (cutC p0))) ((rxD (cutC p0))) ((rxK (cutC p0))))).length < 9223372036854775808) && decide (((rdxD ((anyOpV (cutC p0) 0)) ((rxS (cutC p0))) ((rxD (cutC p0))) ((rxK (cutC p0))))).length < 9223372036854775808) && decide (((rdxS ((anyOpV (cutC p0) 0)) ((rxS (cutC p0))) ((rxD (cutC p0))) ((rxK (cutC p0))))).length < 9223372036854775808) && decide (((rdxD ((anyOpV (cutC p0) 0)) ((rxS (cutC p0))) ((rxD (cutC p0))) ((rxK (cutC p0))))).length < 9223372036854775808) then
  (bif (!(decide (((rdxS ((anyOpV (cutC p0) 0)) ((rxS (cutC p0))) ((rxD (cutC p0))) ((rxK (cutC p0))))) = ((rdxS ((anyOpV (cutC p0) 0)) ((rxS (cutC p0))) ((rxD (cutC p0))) ((rxK (cutC p0)))))) && decide (((rdxD ((anyOpV (cutC p0) 0)) ((rxS (cutC p0))) ((rxD (cutC p0))) ((rxK (cutC p0))))) = ((rdxD ((anyOpV (cutC p0) 0)) ((rxS (cutC p0))) ((rxD (cutC p0))) ((rxK (cutC p0)))))))) then
  (bif decide (((rdxS ((anyOpV (cutC p0) 0)) ((rxS (cutC p0))) ((rxD (cutC p0))) ((rxK (cutC p0))))).length < 9223372036854775808) && decide (((rdxD ((anyOpV (cutC p0) 0)) ((rxS (cutC p0))) ((rxD (cutC p0))) ((rxK (cutC p0))))).length < 9223372036854775808) && decide (((rdxS ((anyOpV (cutC p0) 0)) ((rxS (cutC p0))) ((rxD (cutC p0))) ((rxK (cutC p0))))).length < 9223372036854775808) && decide (((rdxD ((anyOpV (cutC p0) 0)) ((rxS (cutC p0))) ((rxD (cutC p0))) ((rxK (cutC p0))))).length < 9223372036854775808) then
  (bif (decide (((rdxS ((anyOpV (cutC p0) 0)) ((rxS (cutC p0))) ((rxD (cutC p0))) ((rxK (cutC p0))))) = ((rdxS ((anyOpV (cutC p0) 0)) ((rxS (cutC p0))) ((rxD (cutC p0))) ((rxK (cutC p0)))))) && decide (((rdxD ((anyOpV (cutC p0) 0)) ((rxS (cutC p0))) ((rxD (cutC p0))) ((rxK (cutC p0))))) = ((rdxD ((anyOpV (cutC p0) 0)) ((rxS (cutC p0))) ((rxD (cutC p0))) ((rxK (cutC p0))))))) then
  some ([.one ((.bool ((rdxB ((anyOpV (cutC p0) 0)) ((rxS (cutC p0))) ((rxD (cutC p0))) ((rxK (cutC p0)))) == (rdxB ((anyOpV (cutC p0) 0)) ((rxS (cutC p0))) ((rxD (cutC p0))) ((rxK (cutC p0)))))), false)], [])
  else
  some ([.one ((.bool false), false)], []))
  else
  none)
  else
  (bif (!((rdxB ((anyOpV (cutC p0) 0)) ((rxS (cutC p0))) ((rxD (cutC p0))) ((rxK (cutC p0)))) == (rdxB ((anyOpV (cutC p0) 0)) ((rxS (cutC p0))) ((rxD (cutC p0))) ((rxK (cutC p0)))))) then
  (bif decide (((rdxS ((anyOpV (cutC p0) 0)) ((rxS (cutC p0))) ((rxD (cutC p0))) ((rxK (cutC p0))))).length < 9223372036854775808) && decide (((rdxD ((anyOpV (cutC p0) 0)) ((rxS (cutC p0))) ((rxD (cutC p0))) ((rxK (cutC p0))))).length < 9223372036854775808) && decide (((rdxS ((anyOpV (cutC p0) 0)) ((rxS (cutC p0))) ((rxD (cutC p0))) ((rxK (cutC p0))))).length < 9223372036854775808) && decide (((rdxD ((anyOpV (cutC p0) 0)) ((rxS (cutC p0))) ((rxD (cutC p0))) ((rxK (cutC p0))))).length < 9223372036854775808) then
  (bif (decide (((rdxS ((anyOpV (cutC p0) 0)) ((rxS (cutC p0))) ((rxD (cutC p0))) ((rxK (cutC p0))))) = ((rdxS ((anyOpV (cutC p0) 0)) ((rxS (cutC p0))) ((rxD (cutC p0))) ((rxK (cutC p0)))))) && decide (((rdxD ((anyOpV (cutC p0) 0)) ((rxS (cutC p0))) ((rxD (cutC p0))) ((rxK (cutC p0))))) = ((rdxD ((anyOpV (cutC p0) 0)) ((rxS (cutC p0))) ((rxD (cutC p0))) ((rxK (cutC p0))))))) then
  some ([.one ((.bool ((rdxB ((anyOpV (cutC p0) 0)) ((rxS (cutC p0))) ((rxD (cutC p0))) ((rxK (cutC p0)))) == (rdxB ((anyOpV (cutC p0) 0)) ((rxS (cutC p0))) ((rxD (cutC p0))) ((rxK (cutC p0)))))), false)], [])
  else
  some ([.one ((.bool false), false)], []))
  else
  none)
  else
  (bif (!(rdxB ((anyOpV (cutC p0) 0)) ((rxS (cutC p0))) ((rxD (cutC p0))) ((rxK (cutC p0))))) then
  (bif decide (((rdxS ((anyOpV (cutC p0) 0)) ((rxS (cutC p0))) ((rxD (cutC p0))) ((rxK (cutC p0))))).length < 9223372036854775808) && decide (((rdxD ((anyOpV (cutC p0) 0)) ((rxS (cutC p0))) ((rxD (cutC p0))) ((rxK (cutC p0))))).length < 9223372036854775808) && decide (((rdxS ((anyOpV (cutC p0) 0)) ((rxS (cutC p0))) ((rxD (cutC p0))) ((rxK (cutC p0))))).length < 9223372036854775808) && decide (((rdxD ((anyOpV (cutC p0) 0)) ((rxS (cutC p0))) ((rxD (cutC p0))) ((rxK (cutC p0))))).length < 9223372036854775808) then
  (bif (decide (((rdxS ((anyOpV (cutC p0) 0)) ((rxS (cutC p0))) ((rxD (cutC p0))) ((rxK (cutC p0))))) = ((rdxS ((anyOpV (cutC p0) 0)) ((rxS (cutC p0))) ((rxD (cutC p0))) ((rxK (cutC p0)))))) && decide (((rdxD ((anyOpV (cutC p0) 0)) ((rxS (cutC p0))) ((rxD (cutC p0))) ((rxK (cutC p0))))) = ((rdxD ((anyOpV (cutC p0) 0)) ((rxS (cutC p0))) ((rxD (cutC p0))) ((rxK (cutC p0))))))) then
  some ([.one ((.bool ((rdxB ((anyOpV (cutC p0) 0)) ((rxS (cutC p0))) ((rxD (cutC p0))) ((rxK (cutC p0)))) == (rdxB ((anyOpV (cutC p0) 0)) ((rxS (cutC p0))) ((rxD (cutC p0))) ((rxK (cutC p0)))))), false)], [])
  else
  some ([.one ((.bool false), false)], []))
  else
  none)
  else
  (bif decide (((rdxS ((anyOpV (cutC p0) 0)) ((rxS (cutC p0))) ((rxD (cutC p0))) ((rxK (cutC p0))))).length < 9223372036854775808) && decide (((rdxD ((anyOpV (cutC p0) 0)) ((rxS (cutC p0))) ((rxD (cutC p0))) ((rxK (cutC p0))))).length < 9223372036854775808) then
  (bif decide (((rxS (cutC p0))).length < 9223372036854775808) && decide (((rxD (cutC p0))).length < 9223372036854775808) then
  (bif (((rankV ((rdxS ((anyOpV (cutC p0) 0)) ((rxS (cutC p0))) ((rxD (cutC p0))) ((rxK (cutC p0))))) ((rdxD ((anyOpV (cutC p0) 0)) ((rxS (cutC p0))) ((rxD (cutC p0))) ((rxK (cutC p0)))))) : Int) == (IntKind.wrap .i64 ((rankV ((rxS (cutC p0))) ((rxD (cutC p0)))) - 1))) then
  (idx (rxK (cutC p0)) (rxS (cutC p0)).length).bind fun j1 =>
  ((rxS (cutC p0))[j1]?).bind fun v2 =>
  (bif ((v2 : Int) != 1) then
  (bif decide (((rdxS ((anyOpV (cutC p0) 0)) ((rxS (cutC p0))) ((rxD (cutC p0))) ((rxK (cutC p0))))).length < 9223372036854775808) && decide (((rdxD ((anyOpV (cutC p0) 0)) ((rxS (cutC p0))) ((rxD (cutC p0))) ((rxK (cutC p0))))).length < 9223372036854775808) then
  some ([.one ((.bool (validA ((rdxS ((anyOpV (cutC p0) 0)) ((rxS (cutC p0))) ((rxD (cutC p0))) ((rxK (cutC p0))))) ((rdxD ((anyOpV (cutC p0) 0)) ((rxS (cutC p0))) ((rxD (cutC p0))) ((rxK (cutC p0))))))), false)], [])
  else
  none)
  else
  (bif decide (((rdxD ((anyOpV (cutC p0) 0)) ((rxS (cutC p0))) ((rxD (cutC p0))) ((rxK (cutC p0))))).length < 9223372036854775808) && decide (((rxD (cutC p0))).length < 9223372036854775808) then
  (bif (decide (((rdxD ((anyOpV (cutC p0) 0)) ((rxS (cutC p0))) ((rxD (cutC p0))) ((rxK (cutC p0))))) = ((rxD (cutC p0))))) then
  (bif decide (((rdxS ((anyOpV (cutC p0) 0)) ((rxS (cutC p0))) ((rxD (cutC p0))) ((rxK (cutC p0))))).length < 9223372036854775808) && decide (((rdxD ((anyOpV (cutC p0) 0)) ((rxS (cutC p0))) ((rxD (cutC p0))) ((rxK (cutC p0))))).length < 9223372036854775808) then
  some ([.one ((.bool (validA ((rdxS ((anyOpV (cutC p0) 0)) ((rxS (cutC p0))) ((rxD (cutC p0))) ((rxK (cutC p0))))) ((rdxD ((anyOpV (cutC p0) 0)) ((rxS (cutC p0))) ((rxD (cutC p0))) ((rxK (cutC p0))))))), false)], [])
  else
  none)
  else
  some ([.one ((.bool false), false)], []))
  else
  none))
  else
  some ([.one ((.bool false), false)], []))
  else
  none)
  else
  none))))
  else
  none)
  else
  none)
  else
  none)
  else
  none)) := by kernel_rfl
end laws_FnReduceAxis
theorem laws_FnReduceAxis.ok_of (hX : ∀ E ∈ laws_FnReduceAxis.X, CallSpec Try.prog E) (h : ∀ (bs : List Int), (bytesB bs) = true → ∃ fuel, runF Try.prog laws_FnReduceAxis.X laws_FnReduceAxis.I 0 fuel 3 Try.f3 [.d (.ints .u8 bs)] = some ([.one ((.bool true), false)], [])) : CallSpec Try.prog laws_FnReduceAxis.E :=
  callSpec_of (d := 0) hX (by kernel_rfl) laws_FnReduceAxis.I_ok (by kernel_rfl) (by kernel_rfl) (by kernel_rfl) (fun _ _ _ _ h => by dsimp only [laws_FnReduceAxis.E] at h; cases h) (fun xs hp => by
    dsimp only [laws_FnReduceAxis.E] at hp ⊢
    split at hp
    · exact h _ hp
    · cases hp)
theorem laws_FnReduceAxis.ok : CallSpec Try.prog laws_FnReduceAxis.E := laws_FnReduceAxis.ok_of (by simp [laws_FnReduceAxis.X, spec_DrawReduceAxis.ok, impl_ReduceAxis.ok, spec_ReduceAxis.ok, laws_equalArray.ok, impl_RankOf.ok, impl_ValidArray.ok, laws_equalInts.ok]) fun bs h => by
  obtain ⟨F, hF⟩ : ∃ F : Nat, 4000 < F := ⟨4001, by omega⟩
  refine ⟨F, ?_⟩
  rw [laws_FnReduceAxis.e]
  by_cases hl : ((bs.length : Nat) : Int) > 1048576
  · rw [decide_eq_true hl]; rfl
  rw [decide_eq_false hl, cond_false, h, cond_true]
  have r0 := cut_ok h (p := 0) (by omega) (by omega)
  obtain ⟨a1, a2, _, _⟩ := rx_bd r0
  obtain ⟨op, hop⟩ : ∃ x, anyOpV (cutC bs) 0 = x := ⟨_, rfl⟩
  obtain ⟨sh, hsh⟩ : ∃ x, rxS (cutC bs) = x := ⟨_, rfl⟩
  obtain ⟨da, hda⟩ : ∃ x, rxD (cutC bs) = x := ⟨_, rfl⟩
  obtain ⟨k, hk⟩ : ∃ x, rxK (cutC bs) = x := ⟨_, rfl⟩
  rw [hsh] at a1
  rw [hda] at a2
  have g1 := lt_of (xs := sh) (by omega)
  have g2 := lt_of (xs := da) (by omega)
  simp only [hop, hsh, hda, hk]
  cases hb : rdxB op sh da k with
  | false =>
    simp only [rdxS, rdxD, hb, g1, g2, Bool.and_self, cond_true, cond_false]
    rfl
  | true =>
    have hb' := hb
    simp only [rdxB, Bool.and_eq_true] at hb'
    have hv2 := rdx_valid hb
    obtain ⟨j, rfl, hj, hv, ax, hd, hl⟩ := axB_inv hb'.1.2
    have hvs := (validA_inv hv).1
    have hr := ax.rank
    have hl2 := validA_len hv2
    rw [Int.toNat_natCast] at hv2 hl2
    have g3 := lt_of (xs := sh.eraseIdx j) (by omega)
    have g4 := lt_of (xs := rdxN op sh da j) (by omega)
    have hrl : (((sh.eraseIdx j).length : Nat) : Int) = IntKind.wrap .i64 (((sh.length : Nat) : Int) - 1) := by rw [set_eraseIdx_len hj, wS (by omega) (by omega)]; omega
    have i1 := idx_nat hj
    have i2 := getD_get hj
    rw [ax.len] at i2
    cases h1 : (((lenN sh j : Nat) : Int) != 1) with
    | true => simp only [Bool.and_self, Bool.and_true, Bool.true_and, cond_true, cond_false, Bool.not_true, Bool.not_false, bne_self_eq_false, beq_self_eq_true, decide_true, eq_self, rdxS, rdxD, hb, g1, g2, g3, g4, rankV, hv, hv2, Int.toNat_natCast, hrl, i1, i2, Option.bind_some, h1]
    | false =>
      have hL : lenN sh j = 1 := by
        have : ((lenN sh j : Nat) : Int) = 1 := by simpa using h1
        omega
      rw [hL, Nat.mul_one] at hd
      have e : rdxN op sh da j = da := by
        refine ext2 (B := befN sh j) (M := behN sh j) (by simp only [rdxN, tab_length, Int.toNat_natCast]) hd fun b m hb2 hm => ?_
        rw [rdx_get hb2 hm]
        have e1 : lnK sh da (j : Int) b m = [da.getD (b * behN sh j + m) 0] := by
          have h0 := ln_get (sh := sh) (da := da) (k := j) (i := b) (m := m) (j := 0) (by omega)
          rw [hL, Nat.mul_one, Nat.add_zero] at h0
          have hl1 : (lnK sh da (j : Int) b m).length = 1 := by rw [ln_len, hL]
          match hq : lnK sh da (j : Int) b m, hl1 with
          | [x], _ => rw [hq] at h0; rw [← h0]; rfl
        rw [e1]; rfl
      rw [e] at hv2 g4
      simp only [Bool.and_self, Bool.and_true, Bool.true_and, cond_true, cond_false, Bool.not_true, Bool.not_false, bne_self_eq_false, beq_self_eq_true, decide_true, eq_self, rdxS, rdxD, hb, g1, g2, g3, g4, rankV, hv, e, hv2, Int.toNat_natCast, hrl, i1, i2, Option.bind_some, h1]

namespace impl_ReverseAxis_1
noncomputable def E : Entry := ⟨47, true, false, fun | [.d (.int .i64 i), .d (.pbox [(.int .i64 c)])] => true | _ => false, fun | [.d (.int .i64 i), .d (.pbox [(.int .i64 c)])] => ([.one ((.int .i64 (revI c i)), false)], []) | _ => ([], []), fun _ => [], false, fun | [(.pbox [(.int .i64 c)])] => some (false, q1, (q1v (revI c))) | _ => none⟩
end impl_ReverseAxis_1
namespace impl_ReverseAxis_1
noncomputable def X : List Entry := []
noncomputable def I : List Inl := [⟨47, Try.f47, ⟨[], [], [], [], [], []⟩⟩]
theorem I_ok : ∀ i ∈ I, Try.prog.funcs[i.f]? = some i.fn ∧ (i.fn.name == "runtime.NumGoroutine") = false := by
  intro i hi
  simp only [I, List.mem_cons, List.not_mem_nil, or_false] at hi
  subst hi
  exact ⟨by kernel_rfl, by kernel_rfl⟩
theorem e (fuel : Nat) (p0 : Int) (f0q0 : Int) : runF Try.prog X I 0 fuel 47 Try.f47 [.d (.int .i64 p0), .d (.pbox [(.int .i64 f0q0)])] =
  some ([.one ((.int .i64 (IntKind.wrap .i64 ((IntKind.wrap .i64 (f0q0 - 1)) - p0))), false)], []) := by kernel_rfl
end impl_ReverseAxis_1
theorem impl_ReverseAxis_1.ok_of (hX : ∀ E ∈ impl_ReverseAxis_1.X, CallSpec Try.prog E) (hfn : ∀ ds rb dom G, impl_ReverseAxis_1.E.fnOf ds = some (rb, dom, G) → ∀ qs, dom qs = true → impl_ReverseAxis_1.E.m ((qs.map fun q => .d q.d) ++ ds.map .d) = some ([.one (fnD rb (G qs), false)], [])) (h : ∀ (i : Int) (c : Int), (true) = true → ∃ fuel, runF Try.prog impl_ReverseAxis_1.X impl_ReverseAxis_1.I 0 fuel 47 Try.f47 [.d (.int .i64 i), .d (.pbox [(.int .i64 c)])] = some ([.one ((.int .i64 (revI c i)), false)], [])) : CallSpec Try.prog impl_ReverseAxis_1.E :=
  callSpec_of (d := 0) hX (by kernel_rfl) impl_ReverseAxis_1.I_ok (by kernel_rfl) (by kernel_rfl) (by kernel_rfl) hfn (fun xs hp => by
    dsimp only [impl_ReverseAxis_1.E] at hp ⊢
    split at hp
    · exact h _ _ hp
    · cases hp)
theorem impl_ReverseAxis_1.ok : CallSpec Try.prog impl_ReverseAxis_1.E := impl_ReverseAxis_1.ok_of (by simp [impl_ReverseAxis_1.X]) (fun ds rb dom G h qs hq => by
  dsimp only [impl_ReverseAxis_1.E] at h
  split at h
  case h_2 => cases h
  cases h
  match qs, hq with
  | [.i n], _ => rfl) fun i c _ => ⟨0, by rw [impl_ReverseAxis_1.e]; rfl⟩

namespace impl_copyList
noncomputable def E : Entry := ⟨49, false, false, fun | [.d (.ints .i64 xs)] => szB xs | _ => false, fun | [.d (.ints .i64 xs)] => ([.one ((.ints .i64 xs), true)], []) | _ => ([], []), fun _ => [], true, fun _ => none⟩
end impl_copyList
namespace impl_copyList
noncomputable def X : List Entry := []
noncomputable def I : List Inl := [⟨49, Try.f49, ⟨[], [], [], [], [], []⟩⟩]
theorem I_ok : ∀ i ∈ I, Try.prog.funcs[i.f]? = some i.fn ∧ (i.fn.name == "runtime.NumGoroutine") = false := by
  intro i hi
  simp only [I, List.mem_cons, List.not_mem_nil, or_false] at hi
  subst hi
  exact ⟨by kernel_rfl, by kernel_rfl⟩
theorem e (fuel : Nat) (p0 : List Int) : runF Try.prog X I 0 fuel 49 Try.f49 [.d (.ints .i64 p0)] =
  (bif decide (0 ≤ (((p0.length : Nat) : Int) : Int)) && decide ((((p0.length : Nat) : Int) : Int) ≤ ((p0.length : Nat) : Int)) && decide ((((p0.length : Nat) : Int) : Int) ≤ 1152921504606846976) && decide (((8 : Nat) : Int) * ((p0.length : Nat) : Int) ≤ 281474976710656) then
  some ([.one ((.ints .i64 (copyL (List.replicate (((p0.length : Nat) : Int)).toNat (0 : Int)) 0 (List.replicate (((p0.length : Nat) : Int)).toNat (0 : Int)).length p0)), true)], [])
  else
  none) := by kernel_rfl
end impl_copyList
theorem impl_copyList.ok_of (hX : ∀ E ∈ impl_copyList.X, CallSpec Try.prog E) (h : ∀ (xs : List Int), (szB xs) = true → ∃ fuel, runF Try.prog impl_copyList.X impl_copyList.I 0 fuel 49 Try.f49 [.d (.ints .i64 xs)] = some ([.one ((.ints .i64 xs), true)], [])) : CallSpec Try.prog impl_copyList.E :=
  callSpec_of (d := 0) hX (by kernel_rfl) impl_copyList.I_ok (by kernel_rfl) (by kernel_rfl) (by kernel_rfl) (fun _ _ _ _ h => by dsimp only [impl_copyList.E] at h; cases h) (fun xs hp => by
    dsimp only [impl_copyList.E] at hp ⊢
    split at hp
    · exact h _ hp
    · cases hp)
theorem impl_copyList.ok : CallSpec Try.prog impl_copyList.E := impl_copyList.ok_of (by simp [impl_copyList.X]) fun xs h => ⟨0, by
  have hx := szB_le h
  rw [impl_copyList.e, mkOk (by omega) (by omega)]
  simp only [cond_true, Int.toNat_natCast, copyL_all]⟩

namespace impl_view_copied
noncomputable def E : Entry := ⟨48, false, false, fun | [.d (.agg [(.ints .i64 sh), (.ints .i64 da), (.int .i64 k), (.int .i64 len), (.fn false dom G)])] => axB sh da k && domB len dom | _ => false, fun | [.d (.agg [(.ints .i64 sh), (.ints .i64 da), (.int .i64 k), (.int .i64 len), (.fn false dom G)])] => ([.agg [((.ints .i64 (cpS sh k len)), true), ((.ints .i64 (cpD sh da k len G)), true)], .one ((.bool (cpB sh k len)), false)], []) | _ => ([], []), fun _ => [], true, fun _ => none⟩
end impl_view_copied
namespace impl_view_copied
noncomputable def X : List Entry := [impl_copyList.E, impl_layoutOf_j.E]
noncomputable def I : List Inl := [⟨48, Try.f48, ⟨[17, 26], [(1000009, [0, 3, 5, 6, 10, 11, 12, 13, 14, 15, 16, 17, 18, 19, 20, 21, 22, 23, 24, 25, 26, 27, 28, 29, 30, 31, 32, 33, 34, 35, 36, 37, 38, 39, 40, 41, 42, 43, 44, 45, 46, 47, 50, 51, 52, 53, 54, 55, 56, 57, 58, 59, 60, 61, 62, 63, 64, 65, 66, 67, 68, 69, 70, 71, 72, 73, 74, 75, 76, 77, 78, 79, 80, 81, 82, 83, 84, 85, 86, 87, 88, 89, 90, 91, 92, 93, 94, 95])], [], [(7, [0, 2, 5, 6, 8, 1, 3, 4, 12, 7, 9, 10, 11, 13]), (12, [0, 2, 3, 1, 4, 5, 6, 7]), (14, [0, 1, 2, 3, 5, 6, 9, 11, 13, 15, 4, 7, 8, 10, 12, 14, 16, 17, 18, 19, 20])], [], []⟩⟩]
theorem I_ok : ∀ i ∈ I, Try.prog.funcs[i.f]? = some i.fn ∧ (i.fn.name == "runtime.NumGoroutine") = false := by
  intro i hi
  simp only [I, List.mem_cons, List.not_mem_nil, or_false] at hi
  subst hi
  exact ⟨by kernel_rfl, by kernel_rfl⟩
noncomputable abbrev L0 (fuel n : Nat) (s : St) (k : Kont) := lAt Try.prog X I fuel true 0 false 48 (bodyOf Try.f48) [1, 1, 1, 1, 1, 1, 1, 0, 1, 0] n s k
noncomputable abbrev k0  (fuel : Nat) : Kont := (kAt Try.prog X I fuel true 0 false 48 (bodyOf Try.f48) [1, 1, 1, 1, 1, 1, 1, 0, 1, 0] [] (endK Try.prog Try.f48))
noncomputable def t0 (p0q0 : List Int) (j1 : Nat) (p0q3 : Int) (p0q1 : List Int) (p0q2 : Int) (p0q4d : List Q → Bool) (p0q4g : List Q → Int) (x0q0 : Int) (x0q1 : Int) (x0q3 : Int) (x0q11 : List Int) : St := ⟨[.dead, (.ptr 1000000000 0 0), (.ptr 1000000001 0 0), .dead, (.all 1000000002 1), .dead, .dead, (.all 1000000003 1), (.imm (.int .i64 x0q0)), (.imm (.int .i64 x0q1)), .dead, .dead, .dead, .dead, .dead, .dead, .dead, .dead, .dead, .dead, .dead, .dead, .dead, .dead, .dead, .dead, .dead, .dead, .dead, .dead, .dead, .dead, .dead, .dead, .dead, .dead, .dead, .dead, .dead, .dead, .dead, .dead, .dead, .dead, .dead, .dead, .dead, .dead, (.imm (.int .i64 (((List.replicate ((volW ((p0q0.set j1 p0q3)))).toNat (0 : Int)).length : Nat) : Int))), (.imm (.int .i64 x0q3)), .dead, .dead, .dead, .dead, .dead, .dead, .dead, .dead, .dead, .dead, .dead, .dead, .dead, .dead, .dead, .dead, .dead, .dead, .dead, .dead, .dead, .dead, .dead, .dead, .dead, .dead, .dead, .dead, .dead, .dead, .dead, .dead, .dead, .dead, .dead, .dead, .dead, .dead, .dead, .dead, .dead, .dead, .dead, .dead, .dead, .dead], hOf [(1000000000, (.box [(.imm (.ints .i64 p0q0)), (.imm (.ints .i64 p0q1)), (.imm (.int .i64 p0q2)), (.imm (.int .i64 p0q3)), (.imm (.fn false p0q4d p0q4g))])), (1000000001, (.box [(.imm .nils), (.imm .nils)])), (1000000002, (.ints .i64 (p0q0.set j1 p0q3))), (1000000003, (.ints .i64 x0q11))], [], []⟩
theorem e (fuel : Nat) (p0q0 : List Int) (p0q1 : List Int) (p0q2 : Int) (p0q3 : Int) (p0q4d : List Q → Bool) (p0q4g : List Q → Int) : runF Try.prog X I 0 fuel 48 Try.f48 [.d (.agg [(.ints .i64 p0q0), (.ints .i64 p0q1), (.int .i64 p0q2), (.int .i64 p0q3), (.fn false p0q4d p0q4g)])] =
  (bif szB p0q0 then
  (idx p0q2 p0q0.length).bind fun j1 =>
  (bif decide (j1 < p0q0.length) then
  (bif decide (((p0q0.set j1 p0q3)).length < 9223372036854775808) then
  (bif validS ((p0q0.set j1 p0q3)) then
  (bif decide (0 ≤ ((volW ((p0q0.set j1 p0q3))) : Int)) && decide (((volW ((p0q0.set j1 p0q3))) : Int) ≤ (volW ((p0q0.set j1 p0q3)))) && decide (((volW ((p0q0.set j1 p0q3))) : Int) ≤ 1152921504606846976) && decide (((8 : Nat) : Int) * (volW ((p0q0.set j1 p0q3))) ≤ 281474976710656) then
  (bif decide (p0q2 = ((0 : Nat) : Int)) then
  (idx p0q2 p0q0.length).bind fun j12 =>
  (p0q0[j12]?).bind fun v13 =>
  L0 fuel fuel (t0 p0q0 j1 p0q3 p0q1 p0q2 p0q4d p0q4g ((strd ((p0q0.set j1 p0q3)) 0)) v13 0 ((List.replicate ((volW ((p0q0.set j1 p0q3)))).toNat (0 : Int)))) (k0  fuel)
  else
  (bif decide (p0q2 = ((1 : Nat) : Int)) then
  (idx p0q2 p0q0.length).bind fun j10 =>
  (p0q0[j10]?).bind fun v11 =>
  L0 fuel fuel (t0 p0q0 j1 p0q3 p0q1 p0q2 p0q4d p0q4g ((strd ((p0q0.set j1 p0q3)) 1)) v11 0 ((List.replicate ((volW ((p0q0.set j1 p0q3)))).toNat (0 : Int)))) (k0  fuel)
  else
  (bif decide (p0q2 = ((2 : Nat) : Int)) then
  (idx p0q2 p0q0.length).bind fun j2 =>
  (p0q0[j2]?).bind fun v3 =>
  L0 fuel fuel (t0 p0q0 j1 p0q3 p0q1 p0q2 p0q4d p0q4g ((strd ((p0q0.set j1 p0q3)) 2)) v3 0 ((List.replicate ((volW ((p0q0.set j1 p0q3)))).toNat (0 : Int)))) (k0  fuel)
  else
  none)))
  else
  none)
  else
  some ([.agg [((.ints .i64 []), true), ((.ints .i64 []), true)], .one ((.bool false), false)], []))
  else
  none)
  else
  none)
  else
  none) := by kernel_rfl
theorem s0 (fuel n0 : Nat) (p0q0 : List Int) (j1 : Nat) (p0q3 : Int) (p0q1 : List Int) (p0q2 : Int) (p0q4d : List Q → Bool) (p0q4g : List Q → Int) (x0q0 : Int) (x0q1 : Int) (x0q3 : Int) (x0q11 : List Int) : L0 fuel (n0 + 1) (t0 p0q0 j1 p0q3 p0q1 p0q2 p0q4d p0q4g x0q0 x0q1 x0q3 x0q11) (k0  fuel) =
  (bif (decide ((x0q3 : Int) < (((List.replicate ((volW ((p0q0.set j1 p0q3)))).toNat (0 : Int)).length : Nat) : Int))) then
  (bif decide ((x0q0 : Int) = 0) then
  none
  else
  (bif decide ((x0q0 : Int) = 0) then
  none
  else
  (bif decide ((p0q3 : Int) = 0) then
  none
  else
  (bif (p0q4d [Q.i ((Int.tmod (IntKind.wrap .i64 (Int.tdiv x0q3 x0q0)) p0q3))]) then
  (bif (decide ((0 : Int) ≤ (p0q4g [Q.i ((Int.tmod (IntKind.wrap .i64 (Int.tdiv x0q3 x0q0)) p0q3))]))) then
  (bif (decide (((p0q4g [Q.i ((Int.tmod (IntKind.wrap .i64 (Int.tdiv x0q3 x0q0)) p0q3))]) : Int) < x0q1)) then
  (bif decide ((p0q3 : Int) = 0) then
  none
  else
  (idx (IntKind.wrap .i64 ((IntKind.wrap .i64 ((IntKind.wrap .i64 ((IntKind.wrap .i64 ((IntKind.wrap .i64 (Int.tdiv (IntKind.wrap .i64 (Int.tdiv x0q3 x0q0)) p0q3)) * x0q1)) + (p0q4g [Q.i ((Int.tmod (IntKind.wrap .i64 (Int.tdiv x0q3 x0q0)) p0q3))]))) * x0q0)) + (Int.tmod x0q3 x0q0))) p0q1.length).bind fun j7 =>
  (p0q1[j7]?).bind fun v8 =>
  (idx x0q3 x0q11.length).bind fun j9 =>
  (bif decide (j9 < x0q11.length) then
  L0 fuel n0 (t0 p0q0 j1 p0q3 p0q1 p0q2 p0q4d p0q4g x0q0 x0q1 ((IntKind.wrap .i64 (x0q3 + 1))) ((x0q11.set j9 v8))) (k0  fuel)
  else
  none))
  else
  L0 fuel n0 (t0 p0q0 j1 p0q3 p0q1 p0q2 p0q4d p0q4g x0q0 x0q1 ((IntKind.wrap .i64 (x0q3 + 1))) x0q11) (k0  fuel))
  else
  L0 fuel n0 (t0 p0q0 j1 p0q3 p0q1 p0q2 p0q4d p0q4g x0q0 x0q1 ((IntKind.wrap .i64 (x0q3 + 1))) x0q11) (k0  fuel))
  else
  none))))
  else
  some ([.agg [((.ints .i64 (p0q0.set j1 p0q3)), true), ((.ints .i64 x0q11), true)], .one ((.bool true), false)], [])) := by kernel_rfl
end impl_view_copied
theorem impl_view_copied.ok_of (hX : ∀ E ∈ impl_view_copied.X, CallSpec Try.prog E) (h : ∀ (sh : List Int) (da : List Int) (k : Int) (len : Int) (dom : List Q → Bool) (G : List Q → Int), (axB sh da k && domB len dom) = true → ∃ fuel, runF Try.prog impl_view_copied.X impl_view_copied.I 0 fuel 48 Try.f48 [.d (.agg [(.ints .i64 sh), (.ints .i64 da), (.int .i64 k), (.int .i64 len), (.fn false dom G)])] = some ([.agg [((.ints .i64 (cpS sh k len)), true), ((.ints .i64 (cpD sh da k len G)), true)], .one ((.bool (cpB sh k len)), false)], [])) : CallSpec Try.prog impl_view_copied.E :=
  callSpec_of (d := 0) hX (by kernel_rfl) impl_view_copied.I_ok (by kernel_rfl) (by kernel_rfl) (by kernel_rfl) (fun _ _ _ _ h => by dsimp only [impl_view_copied.E] at h; cases h) (fun xs hp => by
    dsimp only [impl_view_copied.E] at hp ⊢
    split at hp
    · exact h _ _ _ _ _ _ hp
    · cases hp)
theorem impl_view_copied.loop (fuel : Nat) (sh da : List Int) (k l : Nat) (dom : List Q → Bool) (G : List Q → Int) (ax : Ax sh k) (hd : da.length = befN sh k * lenN sh k * behN sh k) (al : AlOk sh k (cpL sh k l G)) (hdom : domB (l : Int) dom = true)
    (hv : (volW (sh.set k (l : Int))).toNat = befN sh k * l * behN sh k) (hf : 60 < fuel) :
    impl_view_copied.L0 fuel fuel (impl_view_copied.t0 sh k (l : Int) da (k : Int) dom G ((behN sh k : Nat) : Int) ((lenN sh k : Nat) : Int) 0 (List.replicate (volW (sh.set k (l : Int))).toNat 0)) (impl_view_copied.k0 fuel) =
    some ([.agg [((.ints .i64 (sh.set k (l : Int))), true), ((.ints .i64 (alA sh da k (cpL sh k l G))), true)], .one ((.bool true), false)], []) := by
  have hll : (cpL sh k l G).length = l := by simp [cpL, tab_length]
  have hle := al.le
  have hlen : (alA sh da k (cpL sh k l G)).length = befN sh k * l * behN sh k := by rw [alA_length, hll]
  have hlk := ax.lt
  have hdl := ax.le
  rw [hll] at hle
  refine run_loop (N := befN sh k * l * behN sh k) (fun n j out => impl_view_copied.L0 fuel n (impl_view_copied.t0 sh k (l : Int) da (k : Int) dom G ((behN sh k : Nat) : Int) ((lenN sh k : Nat) : Int) (j : Int) out) (impl_view_copied.k0 fuel)) (fun j out => out = part (alA sh da k (cpL sh k l G)) j) ?_ ?_ fuel 0 _ (by omega) (by omega) (by rw [part_zero, hlen, hv])
  · intro n out ho
    rw [← hlen, part_all] at ho
    rw [impl_view_copied.s0, List.length_replicate, hv, dge (by omega), ho]
    rfl
  · intro n j out hj ho
    obtain ⟨d1, d2, d3, d4⟩ := dec3 hj
    have hM : behN sh k ≠ 0 := by omega
    have hL : l ≠ 0 := by omega
    have hol : out.length = befN sh k * l * behN sh k := by rw [ho, part_length (by omega), hlen]
    have hg := alA_get (sh := sh) (da := da) (k := k) (ls := cpL sh k l G) d1 (by rw [hll]; exact d2) d3
    rw [hll, d4] at hg
    have hcl : (cpL sh k l G).getD (j / behN sh k % l) 0 = cpF (lenN sh k) G (j / behN sh k % l) := by
      unfold cpL
      rw [Int.toNat_natCast, Int.toNat_natCast, tab_getD d2]
    rw [hcl] at hg
    have hdm := domB_get hdom (i := j / behN sh k % l) (by simpa using d2)
    have hjM : j / behN sh k ≤ 1000 := Nat.le_trans (Nat.div_le_self _ _) (by omega)
    have hjL : j / behN sh k / l ≤ 1000 := Nat.le_trans (Nat.div_le_self _ _) hjM
    rw [impl_view_copied.s0, List.length_replicate, hv, dlt hj, decide_eq_false (p := ((behN sh k : Nat) : Int) = 0) (by omega), decide_eq_false (p := ((l : Nat) : Int) = 0) (by omega), tdivN, wN (n := j / behN sh k) (by omega), tmodN, tmodN, hdm, tdivN, wN (n := j / behN sh k / l) (by omega), w1 (j := j) (by omega)]
    simp only [cond_true, cond_false]
    generalize hG : G [Q.i ((j / behN sh k % l : Nat) : Int)] = g
    unfold cpF at hg
    rw [hG] at hg
    by_cases h0 : 0 ≤ g
    · by_cases h1 : g < ((lenN sh k : Nat) : Int)
      · obtain ⟨p, rfl⟩ : ∃ p : Nat, g = p := ⟨g.toNat, by omega⟩
        have hpl : p < lenN sh k := by omega
        obtain ⟨e2, _, _, _⟩ := enc3 d1 hpl d3
        have hx : j / behN sh k / l * lenN sh k + p ≤ 1000000000 := by
          have h1 := ax.len_le
          have : j / behN sh k / l * lenN sh k ≤ 1000 * 60 := Nat.mul_le_mul hjL h1
          omega
        rw [decide_eq_true h0, decide_eq_true h1, wIdx hx (by omega), idx_nat (by omega), idx_nat (by omega)]
        simp only [cond_true, Option.bind_some, getD_get (show (j / behN sh k / l * lenN sh k + p) * behN sh k + j % behN sh k < da.length by omega), show j < out.length by omega, decide_true]
        refine ⟨_, ?_, rfl⟩
        rw [ho, part_set (by omega)]
        rw [hg]
        simp [atV, h1]
      · rw [decide_eq_true h0, decide_eq_false h1]
        refine ⟨_, ?_, rfl⟩
        rw [ho, part_same (by omega)]
        rw [hg]
        simp [atV, h1]
    · rw [decide_eq_false h0]
      refine ⟨_, ?_, rfl⟩
      rw [ho, part_same (by omega)]
      rw [hg]
      simp [atV, h0]
theorem impl_view_copied.ok : CallSpec Try.prog impl_view_copied.E := impl_view_copied.ok_of (by simp [impl_view_copied.X, impl_copyList.ok, impl_layoutOf_j.ok]) fun sh da k len dom G h => ⟨61, by
  simp only [Bool.and_eq_true, axB] at h
  obtain ⟨e1, e2⟩ := axOk_nat h.1.2
  have hv := validA_inv h.1.1
  have ax := ax_of hv.1 e2
  have hd := ax_data h.1.1 e2
  have hr := ax.rank
  rw [impl_view_copied.e, szB_of (xs := sh) (by omega)]
  simp only [cpS, cpD, cpB]
  generalize k.toNat = j at *
  subst e1
  rw [idx_nat e2]
  simp only [cond_true, Option.bind_some, e2, decide_true]
  rw [lt_of (xs := sh.set j len) (by simp; omega), cond_true]
  cases hs : validS (sh.set j len) with
  | false => rfl
  | true =>
    have ax2 := ax_of hs (k := j) (by simpa using e2)
    have hb := vol_bd hs
    have hbnd := allB_get ax2.bnd ax2.lt
    have hl0 : (sh.set j len).getD j 0 = len := by simp [e2]
    rw [hl0] at hbnd
    obtain ⟨l, rfl⟩ : ∃ l : Nat, len = l := ⟨len.toNat, by omega⟩
    have hst := strd_beh ax2
    have hvol := ax2.vol
    have hle := ax2.le
    rw [len_set e2, bef_set, beh_set, Int.toNat_natCast] at hvol hle
    rw [beh_set] at hst
    have al : AlOk sh j (cpL sh j l G) := by
      have hll : (cpL sh j l G).length = l := by simp [cpL, tab_length]
      refine ⟨by omega, by rw [hll]; exact hle, fun p hp => ?_⟩
      simp only [cpL, tab, List.mem_map, List.mem_range, Int.toNat_natCast] at hp
      obtain ⟨i, hi, rfl⟩ := hp
      unfold cpF
      by_cases h0 : 0 ≤ G [.i (i : Int)]
      · by_cases h1 : G [.i (i : Int)] < ((lenN sh j : Nat) : Int)
        · simp only [decide_eq_true h0, decide_eq_true h1, Bool.and_self, cond_true]; exact h1
        · simp only [decide_eq_true h0, decide_eq_false h1, Bool.and_false, cond_false]; omega
      · simp only [decide_eq_false h0, Bool.false_and, cond_false]; omega
    have key := impl_view_copied.loop 61 sh da j l dom G ax hd al h.2 (by rw [hvol]; rfl) (by omega)
    rw [mkOk hb.1 (by omega)]
    simp only [cond_true]
    match j, e2, hst, key with
    | 0, e2, hst, key => rw [decide_eq_true (p := ((0 : Nat) : Int) = ((0 : Nat) : Int)) rfl, hst, getD_get e2, ax.len]; exact key
    | 1, e2, hst, key => rw [decide_eq_false (p := ((1 : Nat) : Int) = ((0 : Nat) : Int)) (by omega), decide_eq_true (p := ((1 : Nat) : Int) = ((1 : Nat) : Int)) rfl, hst, getD_get e2, ax.len]; exact key
    | 2, e2, hst, key => rw [decide_eq_false (p := ((2 : Nat) : Int) = ((0 : Nat) : Int)) (by omega), decide_eq_false (p := ((2 : Nat) : Int) = ((1 : Nat) : Int)) (by omega), decide_eq_true (p := ((2 : Nat) : Int) = ((2 : Nat) : Int)) rfl, hst, getD_get e2, ax.len]; exact key
    | j + 3, e2, _, _ => exact absurd e2 (by omega)⟩

namespace impl_ReverseAxis
noncomputable def E : Entry := ⟨16, false, false, fun | [.d (.agg [(.ints .i64 sh), (.ints .i64 da)]), .d (.int .i64 k)] => decide (sh.length < 9223372036854775808) && decide (da.length < 9223372036854775808) | _ => false, fun | [.d (.agg [(.ints .i64 sh), (.ints .i64 da)]), .d (.int .i64 k)] => ([.agg [((.ints .i64 (revS sh da k)), true), ((.ints .i64 (revD sh da k)), true)]], []) | _ => ([], []), fun _ => [], true, fun _ => none⟩
end impl_ReverseAxis
namespace impl_ReverseAxis
noncomputable def X : List Entry := [impl_axisLength.E, impl_ReverseAxis_1.E, impl_view_copied.E]
noncomputable def I : List Inl := [⟨16, Try.f16, ⟨[26], [], [(4, [5])], [], [], []⟩⟩]
theorem I_ok : ∀ i ∈ I, Try.prog.funcs[i.f]? = some i.fn ∧ (i.fn.name == "runtime.NumGoroutine") = false := by
  intro i hi
  simp only [I, List.mem_cons, List.not_mem_nil, or_false] at hi
  subst hi
  exact ⟨by kernel_rfl, by kernel_rfl⟩
theorem e (fuel : Nat) (p0q0 : List Int) (p0q1 : List Int) (p1 : Int) : runF Try.prog X I 0 fuel 16 Try.f16 [.d (.agg [(.ints .i64 p0q0), (.ints .i64 p0q1)]), .d (.int .i64 p1)] =
  (bif decide (p0q0.length < 9223372036854775808) && decide (p0q1.length < 9223372036854775808) then
  (bif (!(axB p0q0 p0q1 p1)) then
  some ([.agg [((.ints .i64 []), true), ((.ints .i64 []), true)]], [])
  else
  (bif axB p0q0 p0q1 p1 && domB ((axL p0q0 p0q1 p1)) q1 then
  some ([.agg [((.ints .i64 (cpS p0q0 p1 ((axL p0q0 p0q1 p1)))), true), ((.ints .i64 (cpD p0q0 p0q1 p1 ((axL p0q0 p0q1 p1)) ((q1v (revI ((axL p0q0 p0q1 p1))))))), true)]], [])
  else
  none))
  else
  none) := by kernel_rfl
end impl_ReverseAxis
theorem impl_ReverseAxis.ok_of (hX : ∀ E ∈ impl_ReverseAxis.X, CallSpec Try.prog E) (h : ∀ (sh : List Int) (da : List Int) (k : Int), (decide (sh.length < 9223372036854775808) && decide (da.length < 9223372036854775808)) = true → ∃ fuel, runF Try.prog impl_ReverseAxis.X impl_ReverseAxis.I 0 fuel 16 Try.f16 [.d (.agg [(.ints .i64 sh), (.ints .i64 da)]), .d (.int .i64 k)] = some ([.agg [((.ints .i64 (revS sh da k)), true), ((.ints .i64 (revD sh da k)), true)]], [])) : CallSpec Try.prog impl_ReverseAxis.E :=
  callSpec_of (d := 0) hX (by kernel_rfl) impl_ReverseAxis.I_ok (by kernel_rfl) (by kernel_rfl) (by kernel_rfl) (fun _ _ _ _ h => by dsimp only [impl_ReverseAxis.E] at h; cases h) (fun xs hp => by
    dsimp only [impl_ReverseAxis.E] at hp ⊢
    split at hp
    · exact h _ _ _ hp
    · cases hp)
theorem impl_ReverseAxis.ok : CallSpec Try.prog impl_ReverseAxis.E := impl_ReverseAxis.ok_of (by simp [impl_ReverseAxis.X, impl_axisLength.ok, impl_ReverseAxis_1.ok, impl_view_copied.ok]) fun sh da k h => ⟨0, by
  rw [impl_ReverseAxis.e, h]
  unfold revS revD
  cases hb : axB sh da k with
  | false => rfl
  | true =>
    obtain ⟨j, rfl, hj, hv, ax, hd, hl⟩ := axB_inv hb
    have hB := validA_inv hv
    rw [hl, domB_q1]
    simp only [cond_true, Bool.not_true, cond_false, Bool.and_self, cpS, cpD, cpB, lenK, Int.toNat_natCast]
    rw [set_len ax, hB.1, cpL_congr (l := lenN sh j) (f := fun i => ((lenN sh j - 1 - i : Nat) : Int)) rfl (fun i hi => by rw [Int.toNat_natCast]; exact cp_rev ax.len_le hi)]
    rfl⟩

namespace laws_FnReduceAxisReverse
noncomputable def E : Entry := ⟨4, true, false, fun | [.d (.ints .u8 bs)] => bytesB bs | _ => false, fun | [.d (.ints .u8 bs)] => ([.one ((.bool true), false)], []) | _ => ([], []), fun _ => [], false, fun _ => none⟩
end laws_FnReduceAxisReverse
namespace laws_FnReduceAxisReverse
noncomputable def X : List Entry := [spec_DrawReduceAxis.E, impl_ReduceAxis.E, spec_ReduceAxis.E, laws_equalArray.E, impl_ReverseAxis.E]
noncomputable def I : List Inl := [⟨4, Try.f4, ⟨[17, 25, 32, 68, 70], [], [], [], [], []⟩⟩]
theorem I_ok : ∀ i ∈ I, Try.prog.funcs[i.f]? = some i.fn ∧ (i.fn.name == "runtime.NumGoroutine") = false := by
  intro i hi
  simp only [I, List.mem_cons, List.not_mem_nil, or_false] at hi
  subst hi
  exact ⟨by kernel_rfl, by kernel_rfl⟩
theorem e (fuel : Nat) (p0 : List Int) : runF Try.prog X I 0 fuel 4 Try.f4 [.d (.ints .u8 p0)] =
  (bif (decide ((((p0.length : Nat) : Int) : Int) > 1048576)) then
  some ([.one ((.bool true), false)], [])
  else
  (bif bytesB p0 then
  (bif decide (((rxS (cutC p0))).length < 9223372036854775808) && decide (((rxD (cutC p0))).length < 9223372036854775808) then
  (bif decide (((rxS (cutC p0))).length < 9223372036854775808) && decide (((rxD (cutC p0))).length < 9223372036854775808) then
  (bif decide (((rdxS ((anyOpV (cutC p0) 0)) ((rxS (cutC p0))) ((rxD (cutC p0))) ((rxK (cutC p0))))).length < 9223372036854775808) && decide (((rdxD ((anyOpV (cutC p0) 0)) ((rxS (cutC p0))) ((rxD (cutC p0))) ((rxK (cutC p0))))).length < 9223372036854775808) && decide (((rdxS ((anyOpV (cutC p0) 0)) ((rxS (cutC p0))) ((rxD (cutC p0))) ((rxK (cutC p0))))).length < 9223372036854775808) && decide (((rdxD ((anyOpV (cutC p0) 0)) ((rxS (cutC p0))) ((rxD (cutC p0))) ((rxK (cutC p0))))).length < 9223372036854775808) then
  (bif (!(decide (((rdxS ((anyOpV (cutC p0) 0)) ((rxS (cutC p0))) ((rxD (cutC p0))) ((rxK (cutC p0))))) = ((rdxS ((anyOpV (cutC p0) 0)) ((rxS (cutC p0))) ((rxD (cutC p0))) ((rxK (cutC p0)))))) && decide (((rdxD ((anyOpV (cutC p0) 0)) ((rxS (cutC p0))) ((rxD (cutC p0))) ((rxK (cutC p0))))) = ((rdxD ((anyOpV (cutC p0) 0)) ((rxS (cutC p0))) ((rxD (cutC p0))) ((rxK (cutC p0)))))))) then
  (bif decide (((rdxS ((anyOpV (cutC p0) 0)) ((rxS (cutC p0))) ((rxD (cutC p0))) ((rxK (cutC p0))))).length < 9223372036854775808) && decide (((rdxD ((anyOpV (cutC p0) 0)) ((rxS (cutC p0))) ((rxD (cutC p0))) ((rxK (cutC p0))))).length < 9223372036854775808) && decide (((rdxS ((anyOpV (cutC p0) 0)) ((rxS (cutC p0))) ((rxD (cutC p0))) ((rxK (cutC p0))))).length < 9223372036854775808) && decide (((rdxD ((anyOpV (cutC p0) 0)) ((rxS (cutC p0))) ((rxD (cutC p0))) ((rxK (cutC p0))))).length < 9223372036854775808) then
  (bif (decide (((rdxS ((anyOpV (cutC p0) 0)) ((rxS (cutC p0))) ((rxD (cutC p0))) ((rxK (cutC p0))))) = ((rdxS ((anyOpV (cutC p0) 0)) ((rxS (cutC p0))) ((rxD (cutC p0))) ((rxK (cutC p0)))))) && decide (((rdxD ((anyOpV (cutC p0) 0)) ((rxS (cutC p0))) ((rxD (cutC p0))) ((rxK (cutC p0))))) = ((rdxD ((anyOpV (cutC p0) 0)) ((rxS (cutC p0))) ((rxD (cutC p0))) ((rxK (cutC p0))))))) then
  some ([.one ((.bool ((rdxB ((anyOpV (cutC p0) 0)) ((rxS (cutC p0))) ((rxD (cutC p0))) ((rxK (cutC p0)))) == (rdxB ((anyOpV (cutC p0) 0)) ((rxS (cutC p0))) ((rxD (cutC p0))) ((rxK (cutC p0)))))), false)], [])
  else
  some ([.one ((.bool false), false)], []))
  else
  none)
  else
  (bif (!((rdxB ((anyOpV (cutC p0) 0)) ((rxS (cutC p0))) ((rxD (cutC p0))) ((rxK (cutC p0)))) == (rdxB ((anyOpV (cutC p0) 0)) ((rxS (cutC p0))) ((rxD (cutC p0))) ((rxK (cutC p0)))))) then
  (bif decide (((rdxS ((anyOpV (cutC p0) 0)) ((rxS (cutC p0))) ((rxD (cutC p0))) ((rxK (cutC p0))))).length < 9223372036854775808) && decide (((rdxD ((anyOpV (cutC p0) 0)) ((rxS (cutC p0))) ((rxD (cutC p0))) ((rxK (cutC p0))))).length < 9223372036854775808) && decide (((rdxS ((anyOpV (cutC p0) 0)) ((rxS (cutC p0))) ((rxD (cutC p0))) ((rxK (cutC p0))))).length < 9223372036854775808) && decide (((rdxD ((anyOpV (cutC p0) 0)) ((rxS (cutC p0))) ((rxD (cutC p0))) ((rxK (cutC p0))))).length < 9223372036854775808) then
  (bif (decide (((rdxS ((anyOpV (cutC p0) 0)) ((rxS (cutC p0))) ((rxD (cutC p0))) ((rxK (cutC p0))))) = ((rdxS ((anyOpV (cutC p0) 0)) ((rxS (cutC p0))) ((rxD (cutC p0))) ((rxK (cutC p0)))))) && decide (((rdxD ((anyOpV (cutC p0) 0)) ((rxS (cutC p0))) ((rxD (cutC p0))) ((rxK (cutC p0))))) = ((rdxD ((anyOpV (cutC p0) 0)) ((rxS (cutC p0))) ((rxD (cutC p0))) ((rxK (cutC p0))))))) then
  some ([.one ((.bool ((rdxB ((anyOpV (cutC p0) 0)) ((rxS (cutC p0))) ((rxD (cutC p0))) ((rxK (cutC p0)))) == (rdxB ((anyOpV (cutC p0) 0)) ((rxS (cutC p0))) ((rxD (cutC p0))) ((rxK (cutC p0)))))), false)], [])
  else
  some ([.one ((.bool false), false)], []))
  else
  none)
  else
  (bif (!(rdxB ((anyOpV (cutC p0) 0)) ((rxS (cutC p0))) ((rxD (cutC p0))) ((rxK (cutC p0))))) then
  (bif decide (((rdxS ((anyOpV (cutC p0) 0)) ((rxS (cutC p0))) ((rxD (cutC p0))) ((rxK (cutC p0))))).length < 9223372036854775808) && decide (((rdxD ((anyOpV (cutC p0) 0)) ((rxS (cutC p0))) ((rxD (cutC p0))) ((rxK (cutC p0))))).length < 9223372036854775808) && decide (((rdxS ((anyOpV (cutC p0) 0)) ((rxS (cutC p0))) ((rxD (cutC p0))) ((rxK (cutC p0))))).length < 9223372036854775808) && decide (((rdxD ((anyOpV (cutC p0) 0)) ((rxS (cutC p0))) ((rxD (cutC p0))) ((rxK (cutC p0))))).length < 9223372036854775808) then
  (bif (decide (((rdxS ((anyOpV (cutC p0) 0)) ((rxS (cutC p0))) ((rxD (cutC p0))) ((rxK (cutC p0))))) = ((rdxS ((anyOpV (cutC p0) 0)) ((rxS (cutC p0))) ((rxD (cutC p0))) ((rxK (cutC p0)))))) && decide (((rdxD ((anyOpV (cutC p0) 0)) ((rxS (cutC p0))) ((rxD (cutC p0))) ((rxK (cutC p0))))) = ((rdxD ((anyOpV (cutC p0) 0)) ((rxS (cutC p0))) ((rxD (cutC p0))) ((rxK (cutC p0))))))) then
  some ([.one ((.bool ((rdxB ((anyOpV (cutC p0) 0)) ((rxS (cutC p0))) ((rxD (cutC p0))) ((rxK (cutC p0)))) == (rdxB ((anyOpV (cutC p0) 0)) ((rxS (cutC p0))) ((rxD (cutC p0))) ((rxK (cutC p0)))))), false)], [])
  else
  some ([.one ((.bool false), false)], []))
  else
  none)
  else
  (bif (((anyOpV (cutC p0) 0) : Int) != 4) then
  (bif (((anyOpV (cutC p0) 0) : Int) != 5) then
  (bif decide (((rdxS ((anyOpV (cutC p0) 0)) ((rxS (cutC p0))) ((rxD (cutC p0))) ((rxK (cutC p0))))).length < 9223372036854775808) && decide (((rdxD ((anyOpV (cutC p0) 0)) ((rxS (cutC p0))) ((rxD (cutC p0))) ((rxK (cutC p0))))).length < 9223372036854775808) && decide (((rdxS ((anyOpV (cutC p0) 0)) ((rxS (cutC p0))) ((rxD (cutC p0))) ((rxK (cutC p0))))).length < 9223372036854775808) && decide (((rdxD ((anyOpV (cutC p0) 0)) ((rxS (cutC p0))) ((rxD (cutC p0))) ((rxK (cutC p0))))).length < 9223372036854775808) then
  (bif (decide (((rdxS ((anyOpV (cutC p0) 0)) ((rxS (cutC p0))) ((rxD (cutC p0))) ((rxK (cutC p0))))) = ((rdxS ((anyOpV (cutC p0) 0)) ((rxS (cutC p0))) ((rxD (cutC p0))) ((rxK (cutC p0)))))) && decide (((rdxD ((anyOpV (cutC p0) 0)) ((rxS (cutC p0))) ((rxD (cutC p0))) ((rxK (cutC p0))))) = ((rdxD ((anyOpV (cutC p0) 0)) ((rxS (cutC p0))) ((rxD (cutC p0))) ((rxK (cutC p0))))))) then
  some ([.one ((.bool ((rdxB ((anyOpV (cutC p0) 0)) ((rxS (cutC p0))) ((rxD (cutC p0))) ((rxK (cutC p0)))) == (rdxB ((anyOpV (cutC p0) 0)) ((rxS (cutC p0))) ((rxD (cutC p0))) ((rxK (cutC p0)))))), false)], [])
  else
  some ([.one ((.bool false), false)], []))
  else
  none)
  else
  (bif decide (((rxS (cutC p0))).length < 9223372036854775808) && decide (((rxD (cutC p0))).length < 9223372036854775808) then
  (bif decide (((revS ((rxS (cutC p0))) ((rxD (cutC p0))) ((rxK (cutC p0))))).length < 9223372036854775808) && decide (((revD ((rxS (cutC p0))) ((rxD (cutC p0))) ((rxK (cutC p0))))).length < 9223372036854775808) then
  (bif (rdxB ((anyOpV (cutC p0) 0)) ((revS ((rxS (cutC p0))) ((rxD (cutC p0))) ((rxK (cutC p0))))) ((revD ((rxS (cutC p0))) ((rxD (cutC p0))) ((rxK (cutC p0))))) ((rxK (cutC p0)))) then
  (bif decide (((rdxS ((anyOpV (cutC p0) 0)) ((revS ((rxS (cutC p0))) ((rxD (cutC p0))) ((rxK (cutC p0))))) ((revD ((rxS (cutC p0))) ((rxD (cutC p0))) ((rxK (cutC p0))))) ((rxK (cutC p0))))).length < 9223372036854775808) && decide (((rdxD ((anyOpV (cutC p0) 0)) ((revS ((rxS (cutC p0))) ((rxD (cutC p0))) ((rxK (cutC p0))))) ((revD ((rxS (cutC p0))) ((rxD (cutC p0))) ((rxK (cutC p0))))) ((rxK (cutC p0))))).length < 9223372036854775808) && decide (((rdxS ((anyOpV (cutC p0) 0)) ((rxS (cutC p0))) ((rxD (cutC p0))) ((rxK (cutC p0))))).length < 9223372036854775808) && decide (((rdxD ((anyOpV (cutC p0) 0)) ((rxS (cutC p0))) ((rxD (cutC p0))) ((rxK (cutC p0))))).length < 9223372036854775808) then
  some ([.one ((.bool (decide (((rdxS ((anyOpV (cutC p0) 0)) ((revS ((rxS (cutC p0))) ((rxD (cutC p0))) ((rxK (cutC p0))))) ((revD ((rxS (cutC p0))) ((rxD (cutC p0))) ((rxK (cutC p0))))) ((rxK (cutC p0))))) = ((rdxS ((anyOpV (cutC p0) 0)) ((rxS (cutC p0))) ((rxD (cutC p0))) ((rxK (cutC p0)))))) && decide (((rdxD ((anyOpV (cutC p0) 0)) ((revS ((rxS (cutC p0))) ((rxD (cutC p0))) ((rxK (cutC p0))))) ((revD ((rxS (cutC p0))) ((rxD (cutC p0))) ((rxK (cutC p0))))) ((rxK (cutC p0))))) = ((rdxD ((anyOpV (cutC p0) 0)) ((rxS (cutC p0))) ((rxD (cutC p0))) ((rxK (cutC p0)))))))), false)], [])
  else
  none)
  else
  some ([.one ((.bool false), false)], []))
  else
  none)
  else
  none))
  else
  (bif decide (((rxS (cutC p0))).length < 9223372036854775808) && decide (((rxD (cutC p0))).length < 9223372036854775808) then
  (bif decide (((revS ((rxS (cutC p0))) ((rxD (cutC p0))) ((rxK (cutC p0))))).length < 9223372036854775808) && decide (((revD ((rxS (cutC p0))) ((rxD (cutC p0))) ((rxK (cutC p0))))).length < 9223372036854775808) then
  (bif (rdxB ((anyOpV (cutC p0) 0)) ((revS ((rxS (cutC p0))) ((rxD (cutC p0))) ((rxK (cutC p0))))) ((revD ((rxS (cutC p0))) ((rxD (cutC p0))) ((rxK (cutC p0))))) ((rxK (cutC p0)))) then
  (bif decide (((rdxS ((anyOpV (cutC p0) 0)) ((revS ((rxS (cutC p0))) ((rxD (cutC p0))) ((rxK (cutC p0))))) ((revD ((rxS (cutC p0))) ((rxD (cutC p0))) ((rxK (cutC p0))))) ((rxK (cutC p0))))).length < 9223372036854775808) && decide (((rdxD ((anyOpV (cutC p0) 0)) ((revS ((rxS (cutC p0))) ((rxD (cutC p0))) ((rxK (cutC p0))))) ((revD ((rxS (cutC p0))) ((rxD (cutC p0))) ((rxK (cutC p0))))) ((rxK (cutC p0))))).length < 9223372036854775808) && decide (((rdxS ((anyOpV (cutC p0) 0)) ((rxS (cutC p0))) ((rxD (cutC p0))) ((rxK (cutC p0))))).length < 9223372036854775808) && decide (((rdxD ((anyOpV (cutC p0) 0)) ((rxS (cutC p0))) ((rxD (cutC p0))) ((rxK (cutC p0))))).length < 9223372036854775808) then
  some ([.one ((.bool (decide (((rdxS ((anyOpV (cutC p0) 0)) ((revS ((rxS (cutC p0))) ((rxD (cutC p0))) ((rxK (cutC p0))))) ((revD ((rxS (cutC p0))) ((rxD (cutC p0))) ((rxK (cutC p0))))) ((rxK (cutC p0))))) = ((rdxS ((anyOpV (cutC p0) 0)) ((rxS (cutC p0))) ((rxD (cutC p0))) ((rxK (cutC p0)))))) && decide (((rdxD ((anyOpV (cutC p0) 0)) ((revS ((rxS (cutC p0))) ((rxD (cutC p0))) ((rxK (cutC p0))))) ((revD ((rxS (cutC p0))) ((rxD (cutC p0))) ((rxK (cutC p0))))) ((rxK (cutC p0))))) = ((rdxD ((anyOpV (cutC p0) 0)) ((rxS (cutC p0))) ((rxD (cutC p0))) ((rxK (cutC p0)))))))), false)], [])
  else
  none)
  else
  some ([.one ((.bool false), false)], []))
  else
  none)
  else
  none)))))
  else
  none)
  else
  none)
  else
  none)
  else
  none)) := by kernel_rfl
end laws_FnReduceAxisReverse
theorem laws_FnReduceAxisReverse.ok_of (hX : ∀ E ∈ laws_FnReduceAxisReverse.X, CallSpec Try.prog E) (h : ∀ (bs : List Int), (bytesB bs) = true → ∃ fuel, runF Try.prog laws_FnReduceAxisReverse.X laws_FnReduceAxisReverse.I 0 fuel 4 Try.f4 [.d (.ints .u8 bs)] = some ([.one ((.bool true), false)], [])) : CallSpec Try.prog laws_FnReduceAxisReverse.E :=
  callSpec_of (d := 0) hX (by kernel_rfl) laws_FnReduceAxisReverse.I_ok (by kernel_rfl) (by kernel_rfl) (by kernel_rfl) (fun _ _ _ _ h => by dsimp only [laws_FnReduceAxisReverse.E] at h; cases h) (fun xs hp => by
    dsimp only [laws_FnReduceAxisReverse.E] at hp ⊢
    split at hp
    · exact h _ hp
    · cases hp)
theorem laws_FnReduceAxisReverse.ok : CallSpec Try.prog laws_FnReduceAxisReverse.E := laws_FnReduceAxisReverse.ok_of (by simp [laws_FnReduceAxisReverse.X, spec_DrawReduceAxis.ok, impl_ReduceAxis.ok, spec_ReduceAxis.ok, laws_equalArray.ok, impl_ReverseAxis.ok]) fun bs h => by
  obtain ⟨F, hF⟩ : ∃ F : Nat, 4000 < F := ⟨4001, by omega⟩
  refine ⟨F, ?_⟩
  rw [laws_FnReduceAxisReverse.e]
  by_cases hl : ((bs.length : Nat) : Int) > 1048576
  · rw [decide_eq_true hl]; rfl
  rw [decide_eq_false hl, cond_false, h, cond_true]
  have r0 := cut_ok h (p := 0) (by omega) (by omega)
  obtain ⟨a1, a2, _, _⟩ := rx_bd r0
  obtain ⟨op, hop⟩ : ∃ x, anyOpV (cutC bs) 0 = x := ⟨_, rfl⟩
  obtain ⟨sh, hsh⟩ : ∃ x, rxS (cutC bs) = x := ⟨_, rfl⟩
  obtain ⟨da, hda⟩ : ∃ x, rxD (cutC bs) = x := ⟨_, rfl⟩
  obtain ⟨k, hk⟩ : ∃ x, rxK (cutC bs) = x := ⟨_, rfl⟩
  rw [hsh] at a1
  rw [hda] at a2
  have g1 := lt_of (xs := sh) (by omega)
  have g2 := lt_of (xs := da) (by omega)
  simp only [hop, hsh, hda, hk]
  cases hb : rdxB op sh da k with
  | false =>
    simp only [rdxS, rdxD, hb, g1, g2, Bool.and_self, cond_true, cond_false]
    rfl
  | true =>
    have hb' := hb
    simp only [rdxB, Bool.and_eq_true] at hb'
    have hv2 := rdx_valid hb
    obtain ⟨j, rfl, hj, hv, ax, hd, hl⟩ := axB_inv hb'.1.2
    have hvs := (validA_inv hv).1
    have hr := ax.rank
    have hl2 := validA_len hv2
    rw [Int.toNat_natCast] at hv2 hl2
    have g3 := lt_of (xs := sh.eraseIdx j) (by omega)
    have g4 := lt_of (xs := rdxN op sh da j) (by omega)
    have hS := alS_same (ls := rvL (lenN sh j)) hvs hj (rvL_length _)
    have hvr := al_valid (ls := rvL (lenN sh j)) hv hj (by rw [hS]; exact hvs)
    rw [hS] at hvr
    have hlr := validA_len hvr
    have g5 := lt_of (xs := alA sh da j (rvL (lenN sh j))) (by omega)
    have hb2 : rdxB op sh (alA sh da j (rvL (lenN sh j))) j = true := by simp only [rdxB, hb'.1.1, axB_of hvr hj, hb'.2, Bool.and_self]
    have fin : op = 4 ∨ op = 5 → rdxN op sh (alA sh da j (rvL (lenN sh j))) j = rdxN op sh da j := fun ho => by
      simp only [rdxN, Int.toNat_natCast]
      refine tab_congr fun n hn => ?_
      obtain ⟨d1, d2, d3⟩ := dec2 hn
      exact ln_rev ho hv hj d1 d2
    cases h4 : ((op : Int) != 4) with
    | true =>
      cases h5 : ((op : Int) != 5) with
      | true => simp only [Bool.and_self, Bool.and_true, Bool.true_and, cond_true, cond_false, Bool.not_true, Bool.not_false, bne_self_eq_false, beq_self_eq_true, decide_true, eq_self, rdxS, rdxD, hb, g1, g2, g3, g4, Int.toNat_natCast, h4, h5]
      | false =>
        have e := fin (.inr (by simpa using h5))
        simp only [Bool.and_self, Bool.and_true, Bool.true_and, cond_true, cond_false, Bool.not_true, Bool.not_false, bne_self_eq_false, beq_self_eq_true, decide_true, eq_self, rdxS, rdxD, revS, revD, hb, hb'.1.2, hb2, g1, g2, g3, g4, g5, lenK, Int.toNat_natCast, h4, h5, e]
    | false =>
      have e := fin (.inl (by simpa using h4))
      simp only [Bool.and_self, Bool.and_true, Bool.true_and, cond_true, cond_false, Bool.not_true, Bool.not_false, bne_self_eq_false, beq_self_eq_true, decide_true, eq_self, rdxS, rdxD, revS, revD, hb, hb'.1.2, hb2, g1, g2, g3, g4, g5, lenK, Int.toNat_natCast, h4, e]

namespace spec_DrawScanAxis
noncomputable def E : Entry := ⟨17, false, false, fun | [.d (.ints .u8 bs)] => bytesB bs | _ => false, fun | [.d (.ints .u8 bs)] => ([.one ((.int .i64 (anyOpV (cutC bs) 0)), false), .agg [((.ints .i64 (rxS (cutC bs))), false), ((.ints .i64 (rxD (cutC bs))), false)], .one ((.int .i64 (rxK (cutC bs))), false)], []) | _ => ([], []), fun _ => [], true, fun _ => none⟩
end spec_DrawScanAxis
namespace spec_DrawScanAxis
noncomputable def X : List Entry := [spec_DrawReduceAxis.E]
noncomputable def I : List Inl := [⟨17, Try.f17, ⟨[6], [], [], [], [], []⟩⟩]
theorem I_ok : ∀ i ∈ I, Try.prog.funcs[i.f]? = some i.fn ∧ (i.fn.name == "runtime.NumGoroutine") = false := by
  intro i hi
  simp only [I, List.mem_cons, List.not_mem_nil, or_false] at hi
  subst hi
  exact ⟨by kernel_rfl, by kernel_rfl⟩
theorem e (fuel : Nat) (p0 : List Int) : runF Try.prog X I 0 fuel 17 Try.f17 [.d (.ints .u8 p0)] =
  (bif bytesB p0 then
  some ([.one ((.int .i64 (anyOpV (cutC p0) 0)), false), .agg [((.ints .i64 (rxS (cutC p0))), false), ((.ints .i64 (rxD (cutC p0))), false)], .one ((.int .i64 (rxK (cutC p0))), false)], [])
  else
  none) := by kernel_rfl
end spec_DrawScanAxis
theorem spec_DrawScanAxis.ok_of (hX : ∀ E ∈ spec_DrawScanAxis.X, CallSpec Try.prog E) (h : ∀ (bs : List Int), (bytesB bs) = true → ∃ fuel, runF Try.prog spec_DrawScanAxis.X spec_DrawScanAxis.I 0 fuel 17 Try.f17 [.d (.ints .u8 bs)] = some ([.one ((.int .i64 (anyOpV (cutC bs) 0)), false), .agg [((.ints .i64 (rxS (cutC bs))), false), ((.ints .i64 (rxD (cutC bs))), false)], .one ((.int .i64 (rxK (cutC bs))), false)], [])) : CallSpec Try.prog spec_DrawScanAxis.E :=
  callSpec_of (d := 0) hX (by kernel_rfl) spec_DrawScanAxis.I_ok (by kernel_rfl) (by kernel_rfl) (by kernel_rfl) (fun _ _ _ _ h => by dsimp only [spec_DrawScanAxis.E] at h; cases h) (fun xs hp => by
    dsimp only [spec_DrawScanAxis.E] at hp ⊢
    split at hp
    · exact h _ hp
    · cases hp)
theorem spec_DrawScanAxis.ok : CallSpec Try.prog spec_DrawScanAxis.E := spec_DrawScanAxis.ok_of (by simp [spec_DrawScanAxis.X, spec_DrawReduceAxis.ok]) fun bs h => ⟨0, by
  rw [spec_DrawScanAxis.e, h]
  rfl⟩

namespace impl_layoutOf_v
noncomputable def E : Entry := ⟨45, false, false, fun | [.d (.ints .i64 sh)] => decide (sh.length < 9223372036854775808) && validS sh | _ => false, fun | [.d (.ints .i64 sh)] => ([.agg [(.junk, false), ((.int .i64 (strd sh 0)), false), ((.int .i64 (strd sh 1)), false), ((.int .i64 (strd sh 2)), false), ((.int .i64 (volW sh)), false)], .one ((.bool true), false)], []) | _ => ([], []), fun _ => [], true, fun _ => none⟩
end impl_layoutOf_v
theorem impl_layoutOf_v.ok : CallSpec Try.prog impl_layoutOf_v.E := CallSpec.le impl_layoutOf_j.ok rfl (fun _ _ _ _ h => by dsimp only [impl_layoutOf_v.E] at h; cases h) fun xs h => by
  dsimp only [impl_layoutOf_v.E] at h
  split at h
  case h_2 => simp at h
  rename_i sh
  rw [Bool.and_eq_true] at h
  refine ⟨h.1, ?_⟩
  simp only [Entry.r, impl_layoutOf_v.E, impl_layoutOf_j.E, pickR, h.2]
  refine ⟨.agg rfl (fun i h1 h2 => ?_) (.same .nil), rfl⟩
  match i, h1 with
  | 0, _ | 1, _ | 2, _ | 3, _ | 4, _ => exact .inl rfl

namespace impl_ScanAxis_1
noncomputable def E : Entry := ⟨50, true, false, fun | [.d (.int .i64 n), .d (.pbox [(.int .i64 st)]), .d (.pbox [(.int .i64 len)]), .d (.pbox [(.ints .i64 sh), (.ints .i64 da)]), .d (.pbox [(.int .i64 k)]), .d (.pbox [(.fn false dom G)])] => scP dom sh da k len st n | _ => false, fun | [.d (.int .i64 n), .d (.pbox [(.int .i64 st)]), .d (.pbox [(.int .i64 len)]), .d (.pbox [(.ints .i64 sh), (.ints .i64 da)]), .d (.pbox [(.int .i64 k)]), .d (.pbox [(.fn false dom G)])] => ([.one ((.int .i64 (G [.l (scL sh da k n.toNat)])), false)], []) | _ => ([], []), fun _ => [], false, fun _ => none⟩
end impl_ScanAxis_1
namespace impl_ScanAxis_1
noncomputable def X : List Entry := [impl_lineOf.E]
noncomputable def I : List Inl := [⟨50, Try.f50, ⟨[28], [], [], [(2, [2, 9, 0, 1, 3, 4, 5, 6, 7, 8, 10, 11, 12, 13, 14]), (3, [1, 2, 3, 0, 4, 5, 6])], [], []⟩⟩]
theorem I_ok : ∀ i ∈ I, Try.prog.funcs[i.f]? = some i.fn ∧ (i.fn.name == "runtime.NumGoroutine") = false := by
  intro i hi
  simp only [I, List.mem_cons, List.not_mem_nil, or_false] at hi
  subst hi
  exact ⟨by kernel_rfl, by kernel_rfl⟩
theorem e (fuel : Nat) (p0 : Int) (f0q0 : Int) (f1q0 : Int) (f2q0 : List Int) (f2q1 : List Int) (f3q0 : Int) (f4q0d : List Q → Bool) (f4q0g : List Q → Int) : runF Try.prog X I 0 fuel 50 Try.f50 [.d (.int .i64 p0), .d (.pbox [(.int .i64 f0q0)]), .d (.pbox [(.int .i64 f1q0)]), .d (.pbox [(.ints .i64 f2q0), (.ints .i64 f2q1)]), .d (.pbox [(.int .i64 f3q0)]), .d (.pbox [(.fn false f4q0d f4q0g)])] =
  (bif decide ((f0q0 : Int) = 0) then
  none
  else
  (bif decide ((f1q0 : Int) = 0) then
  none
  else
  (bif decide ((f0q0 : Int) = 0) then
  none
  else
  (bif decide ((f1q0 : Int) = 0) then
  none
  else
  (bif decide ((f0q0 : Int) = 0) then
  none
  else
  (bif axB f2q0 f2q1 f3q0 && lnB f2q0 f3q0 ((IntKind.wrap .i64 ((IntKind.wrap .i64 ((IntKind.wrap .i64 (Int.tdiv (IntKind.wrap .i64 (Int.tdiv p0 f0q0)) f1q0)) * f0q0)) + (Int.tmod p0 f0q0)))) then
  (cutEnds (lnN f2q0 f2q1 f3q0 ((IntKind.wrap .i64 ((IntKind.wrap .i64 ((IntKind.wrap .i64 (Int.tdiv (IntKind.wrap .i64 (Int.tdiv p0 f0q0)) f1q0)) * f0q0)) + (Int.tmod p0 f0q0))))).length (none) (some (.imm (.int .i64 (IntKind.wrap .i64 ((Int.tmod (IntKind.wrap .i64 (Int.tdiv p0 f0q0)) f1q0) + 1)))))).bind fun cq1 =>
  (bif decide (cq1.1 + (cq1.2 - cq1.1) ≤ (lnN f2q0 f2q1 f3q0 ((IntKind.wrap .i64 ((IntKind.wrap .i64 ((IntKind.wrap .i64 (Int.tdiv (IntKind.wrap .i64 (Int.tdiv p0 f0q0)) f1q0)) * f0q0)) + (Int.tmod p0 f0q0))))).length) then
  (bif (f4q0d [Q.l (((lnN f2q0 f2q1 f3q0 ((IntKind.wrap .i64 ((IntKind.wrap .i64 ((IntKind.wrap .i64 (Int.tdiv (IntKind.wrap .i64 (Int.tdiv p0 f0q0)) f1q0)) * f0q0)) + (Int.tmod p0 f0q0))))).drop cq1.1).take (cq1.2 - cq1.1))]) then
  some ([.one ((.int .i64 (f4q0g [Q.l (((lnN f2q0 f2q1 f3q0 ((IntKind.wrap .i64 ((IntKind.wrap .i64 ((IntKind.wrap .i64 (Int.tdiv (IntKind.wrap .i64 (Int.tdiv p0 f0q0)) f1q0)) * f0q0)) + (Int.tmod p0 f0q0))))).drop cq1.1).take (cq1.2 - cq1.1))])), false)], [])
  else
  none)
  else
  none)
  else
  none)))))) := by kernel_rfl
end impl_ScanAxis_1
theorem impl_ScanAxis_1.ok_of (hX : ∀ E ∈ impl_ScanAxis_1.X, CallSpec Try.prog E) (h : ∀ (n : Int) (st : Int) (len : Int) (sh : List Int) (da : List Int) (k : Int) (dom : List Q → Bool) (G : List Q → Int), (scP dom sh da k len st n) = true → ∃ fuel, runF Try.prog impl_ScanAxis_1.X impl_ScanAxis_1.I 0 fuel 50 Try.f50 [.d (.int .i64 n), .d (.pbox [(.int .i64 st)]), .d (.pbox [(.int .i64 len)]), .d (.pbox [(.ints .i64 sh), (.ints .i64 da)]), .d (.pbox [(.int .i64 k)]), .d (.pbox [(.fn false dom G)])] = some ([.one ((.int .i64 (G [.l (scL sh da k n.toNat)])), false)], [])) : CallSpec Try.prog impl_ScanAxis_1.E :=
  callSpec_of (d := 0) hX (by kernel_rfl) impl_ScanAxis_1.I_ok (by kernel_rfl) (by kernel_rfl) (by kernel_rfl) (fun _ _ _ _ h => by dsimp only [impl_ScanAxis_1.E] at h; cases h) (fun xs hp => by
    dsimp only [impl_ScanAxis_1.E] at hp ⊢
    split at hp
    · exact h _ _ _ _ _ _ _ _ hp
    · cases hp)
theorem impl_ScanAxis_1.ok : CallSpec Try.prog impl_ScanAxis_1.E := impl_ScanAxis_1.ok_of (by simp [impl_ScanAxis_1.X, impl_lineOf.ok]) fun n st len sh da k dom G h => ⟨0, by
  simp only [scP, Bool.and_eq_true, decide_eq_true_eq] at h
  obtain ⟨⟨⟨⟨⟨hb, rfl⟩, rfl⟩, h0⟩, h1⟩, hd⟩ := h
  obtain ⟨n', rfl⟩ : ∃ n' : Nat, n = n' := ⟨n.toNat, by omega⟩
  obtain ⟨j, rfl, hj, hv, ax, hl, _⟩ := axB_inv hb
  have hL := ax.len_le
  have hM := ax.beh_le
  have hle := ax.le
  simp only [scL, Int.toNat_natCast] at hd ⊢
  have hn : n' < befN sh j * lenN sh j * behN sh j := by omega
  obtain ⟨d1, d2, d3, d4⟩ := dec3 hn
  obtain ⟨e1, e2, e3⟩ := enc2 d1 d3
  have hbm : befN sh j * behN sh j ≤ 3600 * 3600 := Nat.mul_le_mul ax.bef_le hM
  have hdm : n' / behN sh j ≤ n' := Nat.div_le_self _ _
  have hdl : n' / behN sh j / lenN sh j ≤ n' / behN sh j := Nat.div_le_self _ _
  have f1 := wN (n := n' / behN sh j) (by omega)
  have f2 := wN (n := n' / behN sh j / lenN sh j) (by omega)
  have f3 := wMul (a := n' / behN sh j / lenN sh j) (b := behN sh j) (by omega)
  have f4 := wAdd (a := n' / behN sh j / lenN sh j * behN sh j) (b := n' % behN sh j) (by omega)
  have f5 := w1 (j := n' / behN sh j % lenN sh j) (by omega)
  have hln : lnB sh j ((n' / behN sh j / lenN sh j * behN sh j + n' % behN sh j : Nat) : Int) = true := by
    simp only [lnB, Int.toNat_natCast, Bool.and_eq_true, decide_eq_true_eq]; omega
  have hlv : lnN sh da j ((n' / behN sh j / lenN sh j * behN sh j + n' % behN sh j : Nat) : Int) = lnK sh da j (n' / behN sh j / lenN sh j) (n' % behN sh j) := by
    simp only [lnN, Int.toNat_natCast, e2, e3]
  have hlen : (lnK sh da (j : Int) (n' / behN sh j / lenN sh j) (n' % behN sh j)).length = lenN sh j := by rw [lnK_length, Int.toNat_natCast]
  have c1 := cut_hi (n := lenN sh j) (k := n' / behN sh j % lenN sh j + 1) (by omega)
  have p1 : ¬ (((behN sh j : Nat) : Int) = 0) := by omega
  have p2 : ¬ (((lenN sh j : Nat) : Int) = 0) := by omega
  have p3 : 0 + (n' / behN sh j % lenN sh j + 1) ≤ lenN sh j := by omega
  rw [impl_ScanAxis_1.e]
  simp only [tdivN, tmodN, f1, f2, f3, f4, f5, hb, hln, hlv, hlen, c1, Bool.and_self, cond_true, Option.bind_some, List.drop_zero, Nat.sub_zero]
  rw [decide_eq_false p1, decide_eq_false p2, cond_false, cond_false, cond_false, cond_false, cond_false, decide_eq_true p3, cond_true, hd]
  rfl⟩

namespace impl_ScanAxis
noncomputable def E : Entry := ⟨18, false, false, fun | [.d (.int .i64 op), .d (.agg [(.ints .i64 sh), (.ints .i64 da)]), .d (.int .i64 k)] => decide (sh.length < 9223372036854775808) && decide (da.length < 9223372036854775808) | _ => false, fun | [.d (.int .i64 op), .d (.agg [(.ints .i64 sh), (.ints .i64 da)]), .d (.int .i64 k)] => ([.agg [((.ints .i64 (scS op sh da k)), true), ((.ints .i64 (scD op sh da k)), true)]], []) | _ => ([], []), fun _ => [], true, fun _ => none⟩
end impl_ScanAxis
namespace impl_ScanAxis
noncomputable def X : List Entry := [impl_reductionOf.E, impl_axisLength.E, impl_layoutOf_v.E, impl_copyList.E, impl_ScanAxis_1.E]
noncomputable def I : List Inl := [⟨18, Try.f18, ⟨[33, 43, 45], [(7, [0, 1, 2, 3, 9, 10, 11, 13, 14, 15, 16, 17, 18, 19, 20, 21, 22, 23, 24, 25, 26, 27, 28, 29, 30, 31, 32, 33, 34, 35, 36, 37, 38, 39, 40, 41, 42, 43, 44, 45, 46, 47, 48])], [(7, [12, 8, 4, 5, 7])], [], [], []⟩⟩, ⟨35, Try.f35, ⟨[12], [(1000006, [2, 3, 5, 6, 7, 9, 10, 11, 12, 13, 14, 15, 16, 17, 18, 19, 20, 21, 24, 25, 26, 27, 28, 29, 30, 31, 32, 33, 34, 35])], [], [], [], []⟩⟩]
theorem I_ok : ∀ i ∈ I, Try.prog.funcs[i.f]? = some i.fn ∧ (i.fn.name == "runtime.NumGoroutine") = false := by
  intro i hi
  simp only [I, List.mem_cons, List.not_mem_nil, or_false] at hi
  rcases hi with rfl | rfl
  all_goals exact ⟨by kernel_rfl, by kernel_rfl⟩
noncomputable abbrev L0 (fuel n : Nat) (s : St) (k : Kont) := lAt Try.prog X I fuel true 3 false 35 (bodyOf Try.f35) [1, 1, 1, 1, 0, 1, 0] n s k
noncomputable abbrev k0  (fuel : Nat) : Kont := (kAt Try.prog X I fuel true 3 false 35 (bodyOf Try.f35) [1, 1, 1, 1, 0, 1, 0] [] (endFn Try.prog Try.f35 49 (kOp Try.prog X I fuel true 4 18 (cAt (bodyOf Try.f18) [1, 1, 1, 1, 1, 1, 0]) 4 (kAt Try.prog X I fuel true 4 false 18 (bodyOf Try.f18) [1, 1, 1, 1, 1, 1, 0] [] (endK Try.prog Try.f18)))))
noncomputable def t0 (p1q0 : List Int) (p1q1 : List Int) (p2 : Int) (p0 : Int) (x0q0 : Int) (x0q8 : Int) (x0q10 : List Int) (x0q17 : Int) (x0q21 : Int) : St := ⟨[(.all 1000000001 1), (.imm (.clo 50 [(.pbox [(.int .i64 x0q0)]), (.pbox [(.int .i64 (axL p1q0 p1q1 p2))]), (.pbox [(.ints .i64 p1q0), (.ints .i64 p1q1)]), (.pbox [(.int .i64 p2)]), (.pbox [(.fn false ql ((qlv (redF p0))))])])), .dead, .dead, (.ptr 1000000002 0 0), .dead, .dead, .dead, (.all 1000000003 1), .dead, .dead, .dead, .dead, .dead, .dead, .dead, .dead, .dead, .dead, .dead, .dead, .dead, (.imm (.int .i64 (((List.replicate ((volW p1q0)).toNat (0 : Int)).length : Nat) : Int))), (.imm (.int .i64 x0q8)), .dead, .dead, .dead, .dead, .dead, .dead, .dead, .dead, .dead, .dead, .dead, .dead], hOf [(1000000000, (.box [(.imm .nils), (.imm .nils)])), (1000000001, (.ints .i64 p1q0)), (1000000002, (.box [(.imm .nils), (.imm .nils)])), (1000000003, (.ints .i64 x0q10))], [.dead, .dead, .dead, .dead, (.dptr [(.ints .i64 p1q0), (.ints .i64 p1q1)] 0), (.dptr [(.int .i64 p2)] 0), (.ptr 1000000000 0 0), (.dptr [(.fn false ql ((qlv (redF p0))))] 0), (.dptr [(.int .i64 (axL p1q0 p1q1 p2))] 0), .dead, .dead, .dead, (.dptr [(.int .i64 x0q17)] 0), .dead, .dead, .dead, .dead, .dead, .dead, .dead, .dead, .dead, .dead, .dead, .dead, .dead, .dead, .dead, .dead, .dead, .dead, .dead, .dead, .dead, .dead, .dead, .dead, .dead, .dead, .dead, .dead, (.dptr [(.ints .i64 p1q0), (.ints .i64 p1q1)] 0), (.imm (.ints .i64 p1q0)), (.all 1000000001 1), (.imm (.clo 50 [(.pbox [(.int .i64 x0q21)]), (.pbox [(.int .i64 (axL p1q0 p1q1 p2))]), (.pbox [(.ints .i64 p1q0), (.ints .i64 p1q1)]), (.pbox [(.int .i64 p2)]), (.pbox [(.fn false ql ((qlv (redF p0))))])])), .dead, .dead, .dead, .dead, (.tup [])], []⟩
theorem e (fuel : Nat) (p0 : Int) (p1q0 : List Int) (p1q1 : List Int) (p2 : Int) : runF Try.prog X I 4 fuel 18 Try.f18 [.d (.int .i64 p0), .d (.agg [(.ints .i64 p1q0), (.ints .i64 p1q1)]), .d (.int .i64 p2)] =
  (bif opOk p0 then
  (bif decide (p1q0.length < 9223372036854775808) && decide (p1q1.length < 9223372036854775808) then
  (bif (!(axB p1q0 p1q1 p2)) then
  some ([.agg [((.ints .i64 []), true), ((.ints .i64 []), true)]], [])
  else
  (bif decide (p1q0.length < 9223372036854775808) && validS p1q0 then
  (bif decide (p2 = ((0 : Nat) : Int)) then
  (bif szB p1q0 then
  (bif decide (p1q0.length < 9223372036854775808) && validS p1q0 then
  (bif decide (0 ≤ ((volW p1q0) : Int)) && decide (((volW p1q0) : Int) ≤ (volW p1q0)) && decide (((volW p1q0) : Int) ≤ 1152921504606846976) && decide (((8 : Nat) : Int) * (volW p1q0) ≤ 281474976710656) then
  L0 fuel fuel (t0 p1q0 p1q1 p2 p0 ((strd p1q0 0)) 0 ((List.replicate ((volW p1q0)).toNat (0 : Int))) ((strd p1q0 0)) ((strd p1q0 0))) (k0  fuel)
  else
  none)
  else
  none)
  else
  none)
  else
  (bif decide (p2 = ((1 : Nat) : Int)) then
  (bif szB p1q0 then
  (bif decide (p1q0.length < 9223372036854775808) && validS p1q0 then
  (bif decide (0 ≤ ((volW p1q0) : Int)) && decide (((volW p1q0) : Int) ≤ (volW p1q0)) && decide (((volW p1q0) : Int) ≤ 1152921504606846976) && decide (((8 : Nat) : Int) * (volW p1q0) ≤ 281474976710656) then
  L0 fuel fuel (t0 p1q0 p1q1 p2 p0 ((strd p1q0 1)) 0 ((List.replicate ((volW p1q0)).toNat (0 : Int))) ((strd p1q0 1)) ((strd p1q0 1))) (k0  fuel)
  else
  none)
  else
  none)
  else
  none)
  else
  (bif decide (p2 = ((2 : Nat) : Int)) then
  (bif szB p1q0 then
  (bif decide (p1q0.length < 9223372036854775808) && validS p1q0 then
  (bif decide (0 ≤ ((volW p1q0) : Int)) && decide (((volW p1q0) : Int) ≤ (volW p1q0)) && decide (((volW p1q0) : Int) ≤ 1152921504606846976) && decide (((8 : Nat) : Int) * (volW p1q0) ≤ 281474976710656) then
  L0 fuel fuel (t0 p1q0 p1q1 p2 p0 ((strd p1q0 2)) 0 ((List.replicate ((volW p1q0)).toNat (0 : Int))) ((strd p1q0 2)) ((strd p1q0 2))) (k0  fuel)
  else
  none)
  else
  none)
  else
  none)
  else
  none)))
  else
  none))
  else
  none)
  else
  (bif decide (p1q0.length < 9223372036854775808) && decide (p1q1.length < 9223372036854775808) then
  some ([.agg [((.ints .i64 []), true), ((.ints .i64 []), true)]], [])
  else
  none)) := by kernel_rfl
theorem s0 (fuel n0 : Nat) (p1q0 : List Int) (p1q1 : List Int) (p2 : Int) (p0 : Int) (x0q0 : Int) (x0q8 : Int) (x0q10 : List Int) (x0q17 : Int) (x0q21 : Int) : L0 fuel (n0 + 1) (t0 p1q0 p1q1 p2 p0 x0q0 x0q8 x0q10 x0q17 x0q21) (k0  fuel) =
  (bif (decide ((x0q8 : Int) < (((List.replicate ((volW p1q0)).toNat (0 : Int)).length : Nat) : Int))) then
  (bif scP ql p1q0 p1q1 p2 ((axL p1q0 p1q1 p2)) x0q0 x0q8 then
  (idx x0q8 x0q10.length).bind fun j2 =>
  (bif decide (j2 < x0q10.length) then
  L0 fuel n0 (t0 p1q0 p1q1 p2 p0 x0q0 ((IntKind.wrap .i64 (x0q8 + 1))) ((x0q10.set j2 (((qlv (redF p0))) [.l (scL p1q0 p1q1 p2 x0q8.toNat)]))) x0q17 x0q21) (k0  fuel)
  else
  none)
  else
  none)
  else
  some ([.agg [((.ints .i64 p1q0), true), ((.ints .i64 x0q10), true)]], [])) := by kernel_rfl
end impl_ScanAxis
theorem impl_ScanAxis.ok_of (hX : ∀ E ∈ impl_ScanAxis.X, CallSpec Try.prog E) (h : ∀ (op : Int) (sh : List Int) (da : List Int) (k : Int), (decide (sh.length < 9223372036854775808) && decide (da.length < 9223372036854775808)) = true → ∃ fuel, runF Try.prog impl_ScanAxis.X impl_ScanAxis.I 4 fuel 18 Try.f18 [.d (.int .i64 op), .d (.agg [(.ints .i64 sh), (.ints .i64 da)]), .d (.int .i64 k)] = some ([.agg [((.ints .i64 (scS op sh da k)), true), ((.ints .i64 (scD op sh da k)), true)]], [])) : CallSpec Try.prog impl_ScanAxis.E :=
  callSpec_of (d := 4) hX (by kernel_rfl) impl_ScanAxis.I_ok (by kernel_rfl) (by kernel_rfl) (by kernel_rfl) (fun _ _ _ _ h => by dsimp only [impl_ScanAxis.E] at h; cases h) (fun xs hp => by
    dsimp only [impl_ScanAxis.E] at hp ⊢
    split at hp
    · exact h _ _ _ _ hp
    · cases hp)
theorem impl_ScanAxis.loop (fuel : Nat) (op : Int) (sh da : List Int) (k : Nat) (st : Int) (hst : st = ((behN sh k : Nat) : Int)) (hv : validA sh da = true) (hk : k < sh.length) (hf : 60 < fuel) :
    impl_ScanAxis.L0 fuel fuel (impl_ScanAxis.t0 sh da (k : Int) op st 0 (List.replicate (volW sh).toNat 0) st st) (impl_ScanAxis.k0 fuel) = some ([.agg [((.ints .i64 sh), true), ((.ints .i64 (scN op sh da k)), true)]], []) := by
  have ax := ax_of (validA_inv hv).1 hk
  have hL := ax.len_le
  have hvol : (volW sh).toNat = da.length := by have := (validA_inv hv).2.1; omega
  have h60 := (validA_len hv).2
  have hA : (scN op sh da k).length = da.length := by simp only [scN, tab_length]
  have hax := ax_data hv hk
  have haxl : axL sh da (k : Int) = ((lenN sh k : Nat) : Int) := by
    simp only [axL, axB_of hv hk, cond_true, Int.toNat_natCast, ax.len]
  rw [hvol]
  refine run_loop (N := da.length) (fun n j out => impl_ScanAxis.L0 fuel n (impl_ScanAxis.t0 sh da (k : Int) op st (j : Int) out st st) (impl_ScanAxis.k0 fuel)) (fun j out => out = part (scN op sh da k) j) ?_ ?_ fuel 0 _ (by omega) (by omega) (by rw [part_zero, hA])
  · intro n out ho
    have hall := part_all (scN op sh da k)
    rw [hA] at hall
    rw [hall] at ho
    rw [impl_ScanAxis.s0]
    simp only [hvol, List.length_replicate]
    rw [dge (by omega), cond_false, ho]
  · intro n j out hj ho
    have hol : out.length = da.length := by rw [ho, part_length (by omega), hA]
    have hn : j < befN sh k * lenN sh k * behN sh k := by omega
    obtain ⟨d1, d2, d3, d4⟩ := dec3 hn
    have hsc : (scL sh da (k : Int) j).length ≤ 60 := by
      simp only [scL, List.length_take, lnK_length, Int.toNat_natCast]; omega
    have hq : scP ql sh da (k : Int) ((lenN sh k : Nat) : Int) st (j : Int) = true := by
      simp only [scP, axB_of hv hk, hst, Int.toNat_natCast, ql]
      simp
      omega
    rw [impl_ScanAxis.s0]
    simp only [hvol, List.length_replicate, haxl]
    rw [dlt hj, cond_true, hq, idx_nat (by omega), w1 (by omega)]
    simp only [cond_true, Option.bind_some, Int.toNat_natCast]
    rw [decide_eq_true (by omega), cond_true]
    refine ⟨_, ?_, rfl⟩
    rw [ho, part_set (by omega)]
    simp only [scN]
    rw [tab_getD hj]
    rfl
theorem impl_ScanAxis.ok : CallSpec Try.prog impl_ScanAxis.E := impl_ScanAxis.ok_of (by simp [impl_ScanAxis.X, impl_reductionOf.ok, impl_axisLength.ok, impl_copyList.ok, impl_layoutOf_v.ok, impl_ScanAxis_1.ok]) fun op sh da k h => by
  obtain ⟨F, hF⟩ : ∃ F : Nat, 60 < F := ⟨61, by omega⟩
  refine ⟨F, ?_⟩
  rw [impl_ScanAxis.e, h]
  unfold scS scD scB
  cases ho : opOk op with
  | false => rfl
  | true =>
    cases hb : axB sh da k with
    | false => rfl
    | true =>
      obtain ⟨j, rfl, hj, hv, ax, hd, hl⟩ := axB_inv hb
      have hr := ax.rank
      have hs := (validA_inv hv).1
      have hvb := vol_bd hs
      have hst := strd_beh ax
      simp only [Bool.not_true, cond_true, cond_false, Bool.true_and]
      rw [lt_of (by omega), hs, szB_of (by omega), mkOk hvb.1 (by omega)]
      simp only [Bool.and_self, cond_true]
      match j, hj, hst with
      | 0, hj, hst => rw [decide_eq_true (p := ((0 : Nat) : Int) = ((0 : Nat) : Int)) rfl, cond_true]; exact impl_ScanAxis.loop F op sh da 0 _ hst hv hj hF
      | 1, hj, hst => rw [decide_eq_false (p := ((1 : Nat) : Int) = ((0 : Nat) : Int)) (by omega), cond_false, decide_eq_true (p := ((1 : Nat) : Int) = ((1 : Nat) : Int)) rfl, cond_true]; exact impl_ScanAxis.loop F op sh da 1 _ hst hv hj hF
      | 2, hj, hst => rw [decide_eq_false (p := ((2 : Nat) : Int) = ((0 : Nat) : Int)) (by omega), cond_false, decide_eq_false (p := ((2 : Nat) : Int) = ((1 : Nat) : Int)) (by omega), cond_false, decide_eq_true (p := ((2 : Nat) : Int) = ((2 : Nat) : Int)) rfl, cond_true]; exact impl_ScanAxis.loop F op sh da 2 _ hst hv hj hF
      | j + 3, hj, _ => exact absurd hj (by omega)

namespace spec_ScanAxis
noncomputable def E : Entry := ⟨19, false, false, fun | [.d (.int .i64 op), .d (.agg [(.ints .i64 sh), (.ints .i64 da)]), .d (.int .i64 k)] => decide (sh.length < 9223372036854775808) && decide (da.length < 9223372036854775808) | _ => false, fun | [.d (.int .i64 op), .d (.agg [(.ints .i64 sh), (.ints .i64 da)]), .d (.int .i64 k)] => ([.agg [((.ints .i64 (scS op sh da k)), true), ((.ints .i64 (scD op sh da k)), true)]], []) | _ => ([], []), fun _ => [], true, fun _ => none⟩
end spec_ScanAxis
namespace spec_ScanAxis
noncomputable def X : List Entry := [spec_validOp.E, spec_isAxis.E, spec_make1.E, spec_around.E, spec_lane.E, spec_fold.E]
noncomputable def I : List Inl := [⟨19, Try.f19, ⟨[28, 50], [(1000006, [1, 3, 5, 11, 12, 13, 14, 15, 16, 17, 18, 19, 20, 21, 22, 23, 24, 25, 26, 27, 28, 29, 30, 31, 32, 33, 34, 35, 36, 37, 38, 39, 40, 41, 42, 43, 44, 45, 46, 47, 48, 49, 50, 51, 52, 53, 54, 55, 56, 57, 58, 59, 60, 61, 62, 63, 64, 65, 66, 67, 68, 69, 70, 71, 72, 73, 74, 75, 76, 77, 78, 79]), (1000009, [1, 3, 5, 12, 13, 14, 15, 16, 17, 18, 19, 20, 21, 22, 23, 24, 25, 26, 27, 28, 29, 30, 31, 32, 33, 34, 35, 36, 37, 38, 39, 40, 41, 42, 43, 44, 45, 46, 47, 48, 49, 50, 51, 52, 53, 54, 55, 56, 57, 58, 59, 60, 61, 62, 63, 64, 65, 66, 67, 68, 69, 70, 71, 72, 73, 74, 75, 76, 77, 78, 79]), (1000013, [1, 3, 5, 14, 15, 16, 17, 18, 19, 20, 21, 22, 23, 24, 25, 26, 27, 28, 29, 30, 31, 32, 33, 34, 35, 36, 37, 38, 39, 40, 41, 42, 43, 44, 45, 46, 47, 48, 49, 50, 51, 52, 53, 54, 55, 56, 57, 58, 59, 60, 61, 62, 63, 64, 65, 66, 67, 68, 69, 70, 71, 72, 73, 74, 75, 76, 77, 78, 79])], [], [(15, [0, 2, 3, 5, 9, 11, 13, 15, 16, 17, 18, 1, 4, 6, 7, 8, 10, 12, 14, 19, 20, 21, 22])], [], []⟩⟩]
theorem I_ok : ∀ i ∈ I, Try.prog.funcs[i.f]? = some i.fn ∧ (i.fn.name == "runtime.NumGoroutine") = false := by
  intro i hi
  simp only [I, List.mem_cons, List.not_mem_nil, or_false] at hi
  subst hi
  exact ⟨by kernel_rfl, by kernel_rfl⟩
noncomputable abbrev L0 (fuel n : Nat) (s : St) (k : Kont) := lAt Try.prog X I fuel true 0 false 19 (bodyOf Try.f19) [1, 1, 1, 1, 0, 1, 0] n s k
noncomputable abbrev k0  (fuel : Nat) : Kont := (kAt Try.prog X I fuel true 0 false 19 (bodyOf Try.f19) [1, 1, 1, 1, 0, 1, 0] [] (endK Try.prog Try.f19))
noncomputable def t0 (p0 : Int) (p2 : Int) (p1q0 : List Int) (p1q1 : List Int) (x0q4 : Int) (x0q8 : List Int) : St := ⟨[(.imm (.int .i64 p0)), .dead, (.imm (.int .i64 p2)), .dead, (.ptr 1000000000 0 0), .dead, (.ptr 1000000001 0 0), (.ptr 1000000002 0 0), (.imm (.int .i64 ((befN p1q0 p2.toNat : Nat) : Int))), (.imm (.int .i64 ((behN p1q0 p2.toNat : Nat) : Int))), (.imm (.int .i64 x0q4)), .dead, .dead, .dead, .dead, .dead, .dead, .dead, .dead, .dead, .dead, .dead, .dead, .dead, .dead, .dead, .dead, .dead, .dead, .dead, .dead, .dead, .dead, .dead, .dead, .dead, .dead, .dead, .dead, .dead, .dead, .dead, .dead, .dead, .dead, .dead, .dead, .dead, .dead, .dead, .dead, .dead, .dead, .dead, .dead, .dead, .dead, .dead, .dead, .dead, .dead, .dead, .dead, .dead, .dead, .dead, .dead, .dead, .dead, .dead, .dead, .dead, .dead, .dead, .dead, .dead, .dead, .dead, .dead, .dead], hOf [(1000000000, (.box [(.imm (.ints .i64 p1q0)), (.imm (.ints .i64 p1q1))])), (1000000001, (.box [(.imm .nils), (.imm .nils)])), (1000000002, (.box [(.all 1000000003 1), (.all 1000000004 1)])), (1000000003, (.ints .i64 p1q0)), (1000000004, (.ints .i64 x0q8))], [], []⟩
noncomputable abbrev L1 (fuel n : Nat) (s : St) (k : Kont) := lAt Try.prog X I fuel true 0 false 19 (bodyOf Try.f19) [1, 1, 1, 1, 0, 1, 0, 0, 1, 0, 0, 1, 0] n s k
noncomputable abbrev k1 (n0 : Nat) (fuel : Nat) : Kont := (kAt Try.prog X I fuel true 0 false 19 (bodyOf Try.f19) [1, 1, 1, 1, 0, 1, 0, 0, 1, 0, 0, 1, 0] [n0] (endK Try.prog Try.f19))
noncomputable def t1 (p0 : Int) (p2 : Int) (p1q0 : List Int) (x0q4 : Int) (p1q1 : List Int) (x1q5 : Int) (x1q9 : List Int) : St := ⟨[(.imm (.int .i64 p0)), .dead, (.imm (.int .i64 p2)), .dead, (.ptr 1000000000 0 0), .dead, (.ptr 1000000001 0 0), (.ptr 1000000002 0 0), (.imm (.int .i64 ((befN p1q0 p2.toNat : Nat) : Int))), (.imm (.int .i64 ((behN p1q0 p2.toNat : Nat) : Int))), (.imm (.int .i64 x0q4)), (.imm (.int .i64 x1q5)), .dead, .dead, .dead, .dead, .dead, .dead, .dead, .dead, .dead, .dead, .dead, .dead, .dead, .dead, .dead, .dead, .dead, .dead, .dead, .dead, .dead, .dead, .dead, .dead, .dead, .dead, .dead, .dead, .dead, .dead, .dead, .dead, .dead, .dead, .dead, .dead, .dead, .dead, .dead, .dead, .dead, .dead, .dead, .dead, .dead, .dead, .dead, .dead, .dead, .dead, .dead, .dead, .dead, .dead, .dead, .dead, .dead, .dead, .dead, .dead, .dead, .dead, .dead, .dead, .dead, .dead, .dead, .dead], hOf [(1000000000, (.box [(.imm (.ints .i64 p1q0)), (.imm (.ints .i64 p1q1))])), (1000000001, (.box [(.imm .nils), (.imm .nils)])), (1000000002, (.box [(.all 1000000003 1), (.all 1000000004 1)])), (1000000003, (.ints .i64 p1q0)), (1000000004, (.ints .i64 x1q9))], [], []⟩
noncomputable abbrev L2 (fuel n : Nat) (s : St) (k : Kont) := lAt Try.prog X I fuel true 0 false 19 (bodyOf Try.f19) [1, 1, 1, 1, 0, 1, 0, 0, 1, 0, 0, 1, 0, 0, 1, 0, 0, 1, 1, 0] n s k
noncomputable abbrev k2 (n0 : Nat) (n1 : Nat) (fuel : Nat) : Kont := (kAt Try.prog X I fuel true 0 false 19 (bodyOf Try.f19) [1, 1, 1, 1, 0, 1, 0, 0, 1, 0, 0, 1, 0, 0, 1, 0, 0, 1, 1, 0] [n0, n1] (endK Try.prog Try.f19))
noncomputable def t2 (p0 : Int) (p2 : Int) (p1q0 : List Int) (x0q4 : Int) (x1q5 : Int) (p1q1 : List Int) (x2q6 : Int) (x2q11 : List Int) : St := ⟨[(.imm (.int .i64 p0)), .dead, (.imm (.int .i64 p2)), .dead, (.ptr 1000000000 0 0), .dead, (.ptr 1000000001 0 0), (.ptr 1000000002 0 0), (.imm (.int .i64 ((befN p1q0 p2.toNat : Nat) : Int))), (.imm (.int .i64 ((behN p1q0 p2.toNat : Nat) : Int))), (.imm (.int .i64 x0q4)), (.imm (.int .i64 x1q5)), (.all 1000000003 1), (.imm (.int .i64 x2q6)), .dead, .dead, .dead, .dead, .dead, .dead, .dead, .dead, .dead, .dead, .dead, .dead, .dead, .dead, .dead, .dead, .dead, .dead, .dead, .dead, .dead, .dead, .dead, .dead, .dead, .dead, .dead, .dead, .dead, .dead, .dead, .dead, .dead, .dead, .dead, .dead, .dead, .dead, .dead, .dead, .dead, .dead, .dead, .dead, .dead, .dead, .dead, .dead, .dead, .dead, .dead, .dead, .dead, .dead, .dead, .dead, .dead, .dead, .dead, .dead, .dead, .dead, .dead, .dead, .dead, .dead], hOf [(1000000000, (.box [(.imm (.ints .i64 p1q0)), (.imm (.ints .i64 p1q1))])), (1000000001, (.box [(.imm .nils), (.imm .nils)])), (1000000002, (.box [(.all 1000000004 1), (.all 1000000005 1)])), (1000000003, (.ints .i64 (lnK p1q0 p1q1 p2 (Int.toNat x0q4) (Int.toNat x1q5)))), (1000000004, (.ints .i64 p1q0)), (1000000005, (.ints .i64 x2q11))], [], []⟩
theorem e (fuel : Nat) (p0 : Int) (p1q0 : List Int) (p1q1 : List Int) (p2 : Int) : runF Try.prog X I 0 fuel 19 Try.f19 [.d (.int .i64 p0), .d (.agg [(.ints .i64 p1q0), (.ints .i64 p1q1)]), .d (.int .i64 p2)] =
  (bif (!(opOk p0)) then
  some ([.agg [((.ints .i64 []), true), ((.ints .i64 []), true)]], [])
  else
  (bif decide (p1q0.length < 9223372036854775808) && decide (p1q1.length < 9223372036854775808) then
  (bif (!(axB p1q0 p1q1 p2)) then
  some ([.agg [((.ints .i64 []), true), ((.ints .i64 []), true)]], [])
  else
  (bif szB p1q0 && szB p1q1 then
  (bif validS p1q0 && axOk p1q0 p2 then
  L0 fuel fuel (t0 p0 p2 p1q0 p1q1 0 p1q1) (k0  fuel)
  else
  none)
  else
  none))
  else
  none)) := by kernel_rfl
theorem s0 (fuel n0 : Nat) (p0 : Int) (p2 : Int) (p1q0 : List Int) (p1q1 : List Int) (x0q4 : Int) (x0q8 : List Int) : L0 fuel (n0 + 1) (t0 p0 p2 p1q0 p1q1 x0q4 x0q8) (k0  fuel) =
  (bif (decide ((x0q4 : Int) < ((befN p1q0 p2.toNat : Nat) : Int))) then
  L1 fuel fuel (t1 p0 p2 p1q0 x0q4 p1q1 0 x0q8) (k1 n0 fuel)
  else
  some ([.agg [((.ints .i64 p1q0), true), ((.ints .i64 x0q8), true)]], [])) := by kernel_rfl
theorem s1 (fuel n0 n1 : Nat) (p0 : Int) (p2 : Int) (p1q0 : List Int) (x0q4 : Int) (p1q1 : List Int) (x1q5 : Int) (x1q9 : List Int) : L1 fuel (n1 + 1) (t1 p0 p2 p1q0 x0q4 p1q1 x1q5 x1q9) (k1 n0 fuel) =
  (bif (decide ((x1q5 : Int) < ((behN p1q0 p2.toNat : Nat) : Int))) then
  (bif axB p1q0 p1q1 p2 && laneB p1q0 p2 x0q4 x1q5 then
  L2 fuel fuel (t2 p0 p2 p1q0 x0q4 x1q5 p1q1 0 x1q9) (k2 n0 n1 fuel)
  else
  none)
  else
  L0 fuel n0 (t0 p0 p2 p1q0 p1q1 ((IntKind.wrap .i64 (x0q4 + 1))) x1q9) (k0  fuel)) := by kernel_rfl
theorem s2 (fuel n0 n1 n2 : Nat) (p0 : Int) (p2 : Int) (p1q0 : List Int) (x0q4 : Int) (x1q5 : Int) (p1q1 : List Int) (x2q6 : Int) (x2q11 : List Int) : L2 fuel (n2 + 1) (t2 p0 p2 p1q0 x0q4 x1q5 p1q1 x2q6 x2q11) (k2 n0 n1 fuel) =
  (bif (decide ((x2q6 : Int) < (((lnK p1q0 p1q1 p2 (Int.toNat x0q4) (Int.toNat x1q5)).length : Nat) : Int))) then
  (idx p2 p1q0.length).bind fun j57 =>
  (p1q0[j57]?).bind fun v58 =>
  (cutEnds (lnK p1q0 p1q1 p2 (Int.toNat x0q4) (Int.toNat x1q5)).length (none) (some (.imm (.int .i64 (IntKind.wrap .i64 (x2q6 + 1)))))).bind fun cq59 =>
  (bif decide (cq59.1 + (cq59.2 - cq59.1) ≤ (lnK p1q0 p1q1 p2 (Int.toNat x0q4) (Int.toNat x1q5)).length) then
  (bif opOk p0 && decide (((((lnK p1q0 p1q1 p2 (Int.toNat x0q4) (Int.toNat x1q5)).drop cq59.1).take (cq59.2 - cq59.1))).length < 9223372036854775808) then
  (idx (IntKind.wrap .i64 ((IntKind.wrap .i64 ((IntKind.wrap .i64 ((IntKind.wrap .i64 (x0q4 * v58)) + x2q6)) * ((behN p1q0 p2.toNat : Nat) : Int))) + x1q5)) x2q11.length).bind fun j60 =>
  (bif decide (j60 < x2q11.length) then
  L2 fuel n2 (t2 p0 p2 p1q0 x0q4 x1q5 p1q1 ((IntKind.wrap .i64 (x2q6 + 1))) ((x2q11.set j60 (redF p0 ((((lnK p1q0 p1q1 p2 (Int.toNat x0q4) (Int.toNat x1q5)).drop cq59.1).take (cq59.2 - cq59.1))))))) (k2 n0 n1 fuel)
  else
  none)
  else
  none)
  else
  none)
  else
  L1 fuel n1 (t1 p0 p2 p1q0 x0q4 p1q1 ((IntKind.wrap .i64 (x1q5 + 1))) x2q11) (k1 n0 fuel)) := by kernel_rfl
end spec_ScanAxis
theorem spec_ScanAxis.ok_of (hX : ∀ E ∈ spec_ScanAxis.X, CallSpec Try.prog E) (h : ∀ (op : Int) (sh : List Int) (da : List Int) (k : Int), (decide (sh.length < 9223372036854775808) && decide (da.length < 9223372036854775808)) = true → ∃ fuel, runF Try.prog spec_ScanAxis.X spec_ScanAxis.I 0 fuel 19 Try.f19 [.d (.int .i64 op), .d (.agg [(.ints .i64 sh), (.ints .i64 da)]), .d (.int .i64 k)] = some ([.agg [((.ints .i64 (scS op sh da k)), true), ((.ints .i64 (scD op sh da k)), true)]], [])) : CallSpec Try.prog spec_ScanAxis.E :=
  callSpec_of (d := 0) hX (by kernel_rfl) spec_ScanAxis.I_ok (by kernel_rfl) (by kernel_rfl) (by kernel_rfl) (fun _ _ _ _ h => by dsimp only [spec_ScanAxis.E] at h; cases h) (fun xs hp => by
    dsimp only [spec_ScanAxis.E] at hp ⊢
    split at hp
    · exact h _ _ _ _ hp
    · cases hp)
theorem scan_at {sh da : List Int} {k : Nat} {i j m : Nat} (hi : i < befN sh k) (hj : j < lenN sh k) (hm : m < behN sh k) : scL sh da (k : Int) ((i * lenN sh k + j) * behN sh k + m) = (lnK sh da (k : Int) i m).take (j + 1) := by
  obtain ⟨_, e1, e2, e3⟩ := enc3 hi hj hm
  simp only [scL, Int.toNat_natCast, e1, e2, e3]
theorem spec_ScanAxis.inner (fuel n0 n1 : Nat) (op : Int) (sh da : List Int) (k i m : Nat) (ho : opOk op = true) (hv : validA sh da = true) (hk : k < sh.length) (hi : i < befN sh k) (hm : m < behN sh k) (hf : 60 < fuel) (out0 : List Int)
    (h0 : Filled da.length (rkN (lenN sh k) (behN sh k)) (fun n => redF op (scL sh da k n)) ((i * behN sh k + m) * lenN sh k + 0) out0) :
    ∃ out, Filled da.length (rkN (lenN sh k) (behN sh k)) (fun n => redF op (scL sh da k n)) ((i * behN sh k + m) * lenN sh k + lenN sh k) out ∧
      spec_ScanAxis.L2 fuel fuel (spec_ScanAxis.t2 op (k : Int) sh (i : Int) (m : Int) da 0 out0) (spec_ScanAxis.k2 n0 n1 fuel) = spec_ScanAxis.L1 fuel n1 (spec_ScanAxis.t1 op (k : Int) sh (i : Int) da ((IntKind.wrap .i64 ((m : Int) + 1))) out) (spec_ScanAxis.k1 n0 fuel) := by
  have ax := ax_of (validA_inv hv).1 hk
  have hL := ax.len_le
  have hlk := ax.lt
  have hd := ax_data hv hk
  have hle := ax.le
  have hlen : (lnK sh da (k : Int) i m).length = lenN sh k := by rw [lnK_length, Int.toNat_natCast]
  have hx : i * lenN sh k ≤ 3600 * 60 := Nat.mul_le_mul (by have := ax.bef_le; omega) hL
  have go : ∀ d j n out, lenN sh k - j = d → j ≤ lenN sh k → lenN sh k - j < n → Filled da.length (rkN (lenN sh k) (behN sh k)) (fun n => redF op (scL sh da k n)) ((i * behN sh k + m) * lenN sh k + j) out →
      ∃ out', Filled da.length (rkN (lenN sh k) (behN sh k)) (fun n => redF op (scL sh da k n)) ((i * behN sh k + m) * lenN sh k + lenN sh k) out' ∧
      spec_ScanAxis.L2 fuel n (spec_ScanAxis.t2 op (k : Int) sh (i : Int) (m : Int) da (j : Int) out) (spec_ScanAxis.k2 n0 n1 fuel) = spec_ScanAxis.L1 fuel n1 (spec_ScanAxis.t1 op (k : Int) sh (i : Int) da ((IntKind.wrap .i64 ((m : Int) + 1))) out') (spec_ScanAxis.k1 n0 fuel) := by
    intro d
    induction d with
    | zero =>
      intro j n out hd0 hj hn hF
      obtain ⟨n, rfl⟩ : ∃ n', n = n' + 1 := ⟨n - 1, by omega⟩
      obtain rfl : j = lenN sh k := by omega
      refine ⟨out, hF, ?_⟩
      rw [spec_ScanAxis.s2]
      simp only [Int.toNat_natCast, hlen]
      rw [dge (by omega), cond_false]
    | succ d ih =>
      intro j n out hd0 hj hn hF
      obtain ⟨n, rfl⟩ : ∃ n', n = n' + 1 := ⟨n - 1, by omega⟩
      have hj' : j < lenN sh k := by omega
      obtain ⟨e1, e2, e3, e4⟩ := enc3 hi hj' hm
      have hol := hF.len
      rw [spec_ScanAxis.s2]
      simp only [Int.toNat_natCast, hlen]
      rw [dlt hj', cond_true, idx_nat hlk]
      simp only [Option.bind_some, getD_get hlk, ax.len]
      rw [w1 (by omega), cut_hi (by omega)]
      simp only [Option.bind_some, List.drop_zero, Nat.sub_zero]
      rw [decide_eq_true (by omega), cond_true, ho, lt_of (by simp only [List.length_take]; omega), wIdx (by omega) (by omega), idx_nat (by omega)]
      simp only [Option.bind_some, Bool.and_self, cond_true]
      rw [decide_eq_true (by omega), cond_true]
      exact ih (j + 1) n _ (by omega) (by omega) (by omega) (hF.set (fun p hp hr => rkN_inj (B := befN sh k) (L := lenN sh k) (M := behN sh k) (by omega) e1 hr) (rkN_enc hi hj' hm) (by rw [scan_at hi hj' hm]))
  exact go _ 0 fuel out0 rfl (by omega) (by omega) h0
theorem spec_ScanAxis.mid (fuel n0 : Nat) (op : Int) (sh da : List Int) (k i : Nat) (ho : opOk op = true) (hv : validA sh da = true) (hk : k < sh.length) (hi : i < befN sh k) (hf : 3600 < fuel) (out0 : List Int)
    (h0 : Filled da.length (rkN (lenN sh k) (behN sh k)) (fun n => redF op (scL sh da k n)) ((i * behN sh k + 0) * lenN sh k + 0) out0) :
    ∃ out, Filled da.length (rkN (lenN sh k) (behN sh k)) (fun n => redF op (scL sh da k n)) (((i + 1) * behN sh k + 0) * lenN sh k + 0) out ∧
      spec_ScanAxis.L1 fuel fuel (spec_ScanAxis.t1 op (k : Int) sh (i : Int) da 0 out0) (spec_ScanAxis.k1 n0 fuel) = spec_ScanAxis.L0 fuel n0 (spec_ScanAxis.t0 op (k : Int) sh da ((IntKind.wrap .i64 ((i : Int) + 1))) out) (spec_ScanAxis.k0 fuel) := by
  have ax := ax_of (validA_inv hv).1 hk
  have hM := ax.beh_le
  have go : ∀ d m n out, behN sh k - m = d → m ≤ behN sh k → behN sh k - m < n → Filled da.length (rkN (lenN sh k) (behN sh k)) (fun n => redF op (scL sh da k n)) ((i * behN sh k + m) * lenN sh k + 0) out →
      ∃ out', Filled da.length (rkN (lenN sh k) (behN sh k)) (fun n => redF op (scL sh da k n)) ((i * behN sh k + behN sh k) * lenN sh k + 0) out' ∧
      spec_ScanAxis.L1 fuel n (spec_ScanAxis.t1 op (k : Int) sh (i : Int) da (m : Int) out) (spec_ScanAxis.k1 n0 fuel) = spec_ScanAxis.L0 fuel n0 (spec_ScanAxis.t0 op (k : Int) sh da ((IntKind.wrap .i64 ((i : Int) + 1))) out') (spec_ScanAxis.k0 fuel) := by
    intro d
    induction d with
    | zero =>
      intro m n out hd0 hm hn hF
      obtain ⟨n, rfl⟩ : ∃ n', n = n' + 1 := ⟨n - 1, by omega⟩
      obtain rfl : m = behN sh k := by omega
      refine ⟨out, hF, ?_⟩
      rw [spec_ScanAxis.s1]
      simp only [Int.toNat_natCast]
      rw [dge (by omega), cond_false]
    | succ d ih =>
      intro m n out hd0 hm hn hF
      obtain ⟨n, rfl⟩ : ∃ n', n = n' + 1 := ⟨n - 1, by omega⟩
      have hm' : m < behN sh k := by omega
      obtain ⟨out', hF', he⟩ := spec_ScanAxis.inner fuel n0 n op sh da k i m ho hv hk hi hm' (by omega) out hF
      have hln : laneB sh (k : Int) (i : Int) (m : Int) = true := by simp only [laneB, Int.toNat_natCast]; simp; omega
      rw [spec_ScanAxis.s1]
      simp only [Int.toNat_natCast]
      rw [dlt hm', cond_true, axB_of hv hk, hln, Bool.and_self, cond_true, he, w1 (by omega)]
      refine ih (m + 1) n out' (by omega) (by omega) (by omega) ?_
      rw [show (i * behN sh k + (m + 1)) * lenN sh k + 0 = (i * behN sh k + m) * lenN sh k + lenN sh k by rw [← Nat.add_assoc, Nat.add_mul (_ + m), Nat.one_mul]; omega]
      exact hF'
  obtain ⟨out', hF', he⟩ := go _ 0 fuel out0 rfl (by omega) (by omega) h0
  refine ⟨out', ?_, he⟩
  rw [show (i + 1) * behN sh k + 0 = i * behN sh k + behN sh k by rw [Nat.add_mul]; omega]
  exact hF'
theorem spec_ScanAxis.loop (fuel : Nat) (op : Int) (sh da : List Int) (k : Nat) (ho : opOk op = true) (hv : validA sh da = true) (hk : k < sh.length) (hf : 3600 < fuel) :
    spec_ScanAxis.L0 fuel fuel (spec_ScanAxis.t0 op (k : Int) sh da 0 da) (spec_ScanAxis.k0 fuel) = some ([.agg [((.ints .i64 sh), true), ((.ints .i64 (scN op sh da k)), true)]], []) := by
  have ax := ax_of (validA_inv hv).1 hk
  have hB := ax.bef_le
  have hd := ax_data hv hk
  refine run_loop (N := befN sh k) (fun n i out => spec_ScanAxis.L0 fuel n (spec_ScanAxis.t0 op (k : Int) sh da (i : Int) out) (spec_ScanAxis.k0 fuel)) (fun i out => Filled da.length (rkN (lenN sh k) (behN sh k)) (fun n => redF op (scL sh da k n)) ((i * behN sh k + 0) * lenN sh k + 0) out) ?_ ?_ fuel 0 da (by omega) (by omega) (by simp only [Nat.zero_mul, Nat.add_zero]; exact Filled.zero rfl)
  · intro n out hF
    have hall := hF.all fun p hp => by
      have := rkN_lt (B := befN sh k) (L := lenN sh k) (M := behN sh k) (p := p) (by omega)
      simpa using this
    rw [spec_ScanAxis.s0]
    simp only [Int.toNat_natCast]
    rw [dge (by omega), cond_false, hall]
    rfl
  · intro n i out hi hF
    obtain ⟨out', hF', he⟩ := spec_ScanAxis.mid fuel n op sh da k i ho hv hk hi hf out hF
    rw [spec_ScanAxis.s0]
    simp only [Int.toNat_natCast]
    rw [dlt hi, cond_true, he, w1 (by omega)]
    exact ⟨out', hF', rfl⟩
theorem spec_ScanAxis.ok : CallSpec Try.prog spec_ScanAxis.E := spec_ScanAxis.ok_of (by simp [spec_ScanAxis.X, spec_validOp.ok, spec_isAxis.ok, spec_make1.ok, spec_around.ok, spec_lane.ok, spec_fold.ok]) fun op sh da k h => by
  obtain ⟨F, hF⟩ : ∃ F : Nat, 3600 < F := ⟨3601, by omega⟩
  refine ⟨F, ?_⟩
  rw [spec_ScanAxis.e, h]
  unfold scS scD scB
  cases ho : opOk op with
  | false => rfl
  | true =>
    cases hb : axB sh da k with
    | false => rfl
    | true =>
      obtain ⟨j, rfl, hj, hv, ax, hd, hl⟩ := axB_inv hb
      have hlen := validA_len hv
      simp only [Bool.not_true, cond_true, cond_false]
      rw [szB_of (by omega), szB_of (by omega), (validA_inv hv).1, axOk_of hj]
      exact spec_ScanAxis.loop F op sh da j ho hv hj hF

namespace impl_isCount
noncomputable def E : Entry := ⟨51, true, false, fun | [.d (.int .i64 n)] => true | _ => false, fun | [.d (.int .i64 n)] => ([.one ((.bool (cntB n)), false)], []) | _ => ([], []), fun _ => [], false, fun _ => none⟩
end impl_isCount
namespace impl_isCount
noncomputable def X : List Entry := []
noncomputable def I : List Inl := [⟨51, Try.f51, ⟨[], [], [], [], [], []⟩⟩]
theorem I_ok : ∀ i ∈ I, Try.prog.funcs[i.f]? = some i.fn ∧ (i.fn.name == "runtime.NumGoroutine") = false := by
  intro i hi
  simp only [I, List.mem_cons, List.not_mem_nil, or_false] at hi
  subst hi
  exact ⟨by kernel_rfl, by kernel_rfl⟩
theorem e (fuel : Nat) (p0 : Int) : runF Try.prog X I 0 fuel 51 Try.f51 [.d (.int .i64 p0)] =
  (bif (decide (((-60) : Int) ≤ p0)) then
  some ([.one ((.bool (decide ((p0 : Int) ≤ 60))), false)], [])
  else
  some ([.one ((.bool false), false)], [])) := by kernel_rfl
end impl_isCount
theorem impl_isCount.ok_of (hX : ∀ E ∈ impl_isCount.X, CallSpec Try.prog E) (h : ∀ (n : Int), (true) = true → ∃ fuel, runF Try.prog impl_isCount.X impl_isCount.I 0 fuel 51 Try.f51 [.d (.int .i64 n)] = some ([.one ((.bool (cntB n)), false)], [])) : CallSpec Try.prog impl_isCount.E :=
  callSpec_of (d := 0) hX (by kernel_rfl) impl_isCount.I_ok (by kernel_rfl) (by kernel_rfl) (by kernel_rfl) (fun _ _ _ _ h => by dsimp only [impl_isCount.E] at h; cases h) (fun xs hp => by
    dsimp only [impl_isCount.E] at hp ⊢
    split at hp
    · exact h _ hp
    · cases hp)
theorem impl_isCount.ok : CallSpec Try.prog impl_isCount.E := impl_isCount.ok_of (by simp [impl_isCount.X]) fun n _ => ⟨0, by
  rw [impl_isCount.e]
  unfold cntB
  cases decide (-60 ≤ n) <;> rfl⟩

namespace impl_TakeAxis_1
noncomputable def E : Entry := ⟨52, true, false, fun | [.d (.int .i64 i), .d (.pbox [(.int .i64 c)])] => true | _ => false, fun | [.d (.int .i64 i), .d (.pbox [(.int .i64 c)])] => ([.one ((.int .i64 (addI c i)), false)], []) | _ => ([], []), fun _ => [], false, fun | [(.pbox [(.int .i64 c)])] => some (false, q1, (q1v (addI c))) | _ => none⟩
end impl_TakeAxis_1
namespace impl_TakeAxis_1
noncomputable def X : List Entry := []
noncomputable def I : List Inl := [⟨52, Try.f52, ⟨[], [], [], [], [], []⟩⟩]
theorem I_ok : ∀ i ∈ I, Try.prog.funcs[i.f]? = some i.fn ∧ (i.fn.name == "runtime.NumGoroutine") = false := by
  intro i hi
  simp only [I, List.mem_cons, List.not_mem_nil, or_false] at hi
  subst hi
  exact ⟨by kernel_rfl, by kernel_rfl⟩
theorem e (fuel : Nat) (p0 : Int) (f0q0 : Int) : runF Try.prog X I 0 fuel 52 Try.f52 [.d (.int .i64 p0), .d (.pbox [(.int .i64 f0q0)])] =
  some ([.one ((.int .i64 (IntKind.wrap .i64 (f0q0 + p0))), false)], []) := by kernel_rfl
end impl_TakeAxis_1
theorem impl_TakeAxis_1.ok_of (hX : ∀ E ∈ impl_TakeAxis_1.X, CallSpec Try.prog E) (hfn : ∀ ds rb dom G, impl_TakeAxis_1.E.fnOf ds = some (rb, dom, G) → ∀ qs, dom qs = true → impl_TakeAxis_1.E.m ((qs.map fun q => .d q.d) ++ ds.map .d) = some ([.one (fnD rb (G qs), false)], [])) (h : ∀ (i : Int) (c : Int), (true) = true → ∃ fuel, runF Try.prog impl_TakeAxis_1.X impl_TakeAxis_1.I 0 fuel 52 Try.f52 [.d (.int .i64 i), .d (.pbox [(.int .i64 c)])] = some ([.one ((.int .i64 (addI c i)), false)], [])) : CallSpec Try.prog impl_TakeAxis_1.E :=
  callSpec_of (d := 0) hX (by kernel_rfl) impl_TakeAxis_1.I_ok (by kernel_rfl) (by kernel_rfl) (by kernel_rfl) hfn (fun xs hp => by
    dsimp only [impl_TakeAxis_1.E] at hp ⊢
    split at hp
    · exact h _ _ hp
    · cases hp)
theorem impl_TakeAxis_1.ok : CallSpec Try.prog impl_TakeAxis_1.E := impl_TakeAxis_1.ok_of (by simp [impl_TakeAxis_1.X]) (fun ds rb dom G h qs hq => by
  dsimp only [impl_TakeAxis_1.E] at h
  split at h
  case h_2 => cases h
  cases h
  match qs, hq with
  | [.i n], _ => rfl) fun i c _ => ⟨0, by rw [impl_TakeAxis_1.e]; rfl⟩

namespace impl_absolute
noncomputable def E : Entry := ⟨53, true, false, fun | [.d (.int .i64 n)] => true | _ => false, fun | [.d (.int .i64 n)] => ([.one ((.int .i64 (absV n)), false)], []) | _ => ([], []), fun _ => [], false, fun _ => none⟩
end impl_absolute
namespace impl_absolute
noncomputable def X : List Entry := []
noncomputable def I : List Inl := [⟨53, Try.f53, ⟨[], [], [], [], [], []⟩⟩]
theorem I_ok : ∀ i ∈ I, Try.prog.funcs[i.f]? = some i.fn ∧ (i.fn.name == "runtime.NumGoroutine") = false := by
  intro i hi
  simp only [I, List.mem_cons, List.not_mem_nil, or_false] at hi
  subst hi
  exact ⟨by kernel_rfl, by kernel_rfl⟩
theorem e (fuel : Nat) (p0 : Int) : runF Try.prog X I 0 fuel 53 Try.f53 [.d (.int .i64 p0)] =
  some ([.one ((.int .i64 (maxI p0 (IntKind.wrap .i64 (0 - p0)))), false)], []) := by kernel_rfl
end impl_absolute
theorem impl_absolute.ok_of (hX : ∀ E ∈ impl_absolute.X, CallSpec Try.prog E) (h : ∀ (n : Int), (true) = true → ∃ fuel, runF Try.prog impl_absolute.X impl_absolute.I 0 fuel 53 Try.f53 [.d (.int .i64 n)] = some ([.one ((.int .i64 (absV n)), false)], [])) : CallSpec Try.prog impl_absolute.E :=
  callSpec_of (d := 0) hX (by kernel_rfl) impl_absolute.I_ok (by kernel_rfl) (by kernel_rfl) (by kernel_rfl) (fun _ _ _ _ h => by dsimp only [impl_absolute.E] at h; cases h) (fun xs hp => by
    dsimp only [impl_absolute.E] at hp ⊢
    split at hp
    · exact h _ hp
    · cases hp)
theorem impl_absolute.ok : CallSpec Try.prog impl_absolute.E := impl_absolute.ok_of (by simp [impl_absolute.X]) fun n _ => ⟨0, by rw [impl_absolute.e]; rfl⟩

namespace impl_TakeAxis
noncomputable def E : Entry := ⟨20, false, false, fun | [.d (.agg [(.ints .i64 sh), (.ints .i64 da)]), .d (.int .i64 k), .d (.int .i64 n)] => decide (sh.length < 9223372036854775808) && decide (da.length < 9223372036854775808) | _ => false, fun | [.d (.agg [(.ints .i64 sh), (.ints .i64 da)]), .d (.int .i64 k), .d (.int .i64 n)] => ([.agg [((.ints .i64 (tkS sh da k n)), true), ((.ints .i64 (tkD sh da k n)), true)], .one ((.bool (tkB sh da k n)), false)], []) | _ => ([], []), fun _ => [], true, fun _ => none⟩
end impl_TakeAxis
namespace impl_TakeAxis
noncomputable def X : List Entry := [impl_axisLength.E, impl_isCount.E, impl_TakeAxis_1.E, impl_absolute.E, impl_view_copied.E]
noncomputable def I : List Inl := [⟨20, Try.f20, ⟨[38], [], [(7, [10])], [(8, [1, 2, 4, 0, 3, 5, 6, 7, 8, 9, 10])], [], []⟩⟩]
theorem I_ok : ∀ i ∈ I, Try.prog.funcs[i.f]? = some i.fn ∧ (i.fn.name == "runtime.NumGoroutine") = false := by
  intro i hi
  simp only [I, List.mem_cons, List.not_mem_nil, or_false] at hi
  subst hi
  exact ⟨by kernel_rfl, by kernel_rfl⟩
theorem e (fuel : Nat) (p0q0 : List Int) (p0q1 : List Int) (p1 : Int) (p2 : Int) : runF Try.prog X I 0 fuel 20 Try.f20 [.d (.agg [(.ints .i64 p0q0), (.ints .i64 p0q1)]), .d (.int .i64 p1), .d (.int .i64 p2)] =
  (bif decide (p0q0.length < 9223372036854775808) && decide (p0q1.length < 9223372036854775808) then
  (bif (!(axB p0q0 p0q1 p1)) then
  some ([.agg [((.ints .i64 []), true), ((.ints .i64 []), true)], .one ((.bool false), false)], [])
  else
  (bif (!(cntB p2)) then
  some ([.agg [((.ints .i64 []), true), ((.ints .i64 []), true)], .one ((.bool false), false)], [])
  else
  (bif (decide ((p2 : Int) < 0)) then
  (bif axB p0q0 p0q1 p1 && domB ((absV p2)) q1 then
  some ([.agg [((.ints .i64 (cpS p0q0 p1 ((absV p2)))), true), ((.ints .i64 (cpD p0q0 p0q1 p1 ((absV p2)) ((q1v (addI ((IntKind.wrap .i64 ((axL p0q0 p0q1 p1) + p2)))))))), true)], .one ((.bool (cpB p0q0 p1 ((absV p2)))), false)], [])
  else
  none)
  else
  (bif axB p0q0 p0q1 p1 && domB ((absV p2)) q1 then
  some ([.agg [((.ints .i64 (cpS p0q0 p1 ((absV p2)))), true), ((.ints .i64 (cpD p0q0 p0q1 p1 ((absV p2)) ((q1v (addI 0))))), true)], .one ((.bool (cpB p0q0 p1 ((absV p2)))), false)], [])
  else
  none))))
  else
  none) := by kernel_rfl
end impl_TakeAxis
theorem impl_TakeAxis.ok_of (hX : ∀ E ∈ impl_TakeAxis.X, CallSpec Try.prog E) (h : ∀ (sh : List Int) (da : List Int) (k : Int) (n : Int), (decide (sh.length < 9223372036854775808) && decide (da.length < 9223372036854775808)) = true → ∃ fuel, runF Try.prog impl_TakeAxis.X impl_TakeAxis.I 0 fuel 20 Try.f20 [.d (.agg [(.ints .i64 sh), (.ints .i64 da)]), .d (.int .i64 k), .d (.int .i64 n)] = some ([.agg [((.ints .i64 (tkS sh da k n)), true), ((.ints .i64 (tkD sh da k n)), true)], .one ((.bool (tkB sh da k n)), false)], [])) : CallSpec Try.prog impl_TakeAxis.E :=
  callSpec_of (d := 0) hX (by kernel_rfl) impl_TakeAxis.I_ok (by kernel_rfl) (by kernel_rfl) (by kernel_rfl) (fun _ _ _ _ h => by dsimp only [impl_TakeAxis.E] at h; cases h) (fun xs hp => by
    dsimp only [impl_TakeAxis.E] at hp ⊢
    split at hp
    · exact h _ _ _ _ hp
    · cases hp)
theorem impl_TakeAxis.ok : CallSpec Try.prog impl_TakeAxis.E := impl_TakeAxis.ok_of (by simp [impl_TakeAxis.X, impl_axisLength.ok, impl_isCount.ok, impl_TakeAxis_1.ok, impl_absolute.ok, impl_view_copied.ok]) fun sh da k n h => ⟨0, by
  rw [impl_TakeAxis.e, h]
  unfold tkS tkD tkB
  cases hb : axB sh da k with
  | false => rfl
  | true =>
    cases hn : cntB n with
    | false => rfl
    | true =>
      obtain ⟨j, rfl, hj, hv, ax, hd, hl⟩ := axB_inv hb
      have hB := validA_inv hv
      have hn2 := cntB_inv hn
      have hc : ∀ z, z = (bif decide (n < 0) then IntKind.wrap .i64 (((lenN sh j : Nat) : Int) + n) else 0) → cpL sh (j : Int) ((n.natAbs : Nat) : Int) (q1v (addI z)) = tkL (lenN sh j) n := by
        rintro z rfl
        exact cpL_congr (l := n.natAbs) rfl (fun i hi => by rw [Int.toNat_natCast]; exact cp_take ax.len_le hn2.1 hn2.2 hi)
      rw [hl, domB_q1, absV_nat (by omega) (by omega)]
      simp only [cond_true, Bool.not_true, cond_false, Bool.and_self, Bool.true_and, cpS, cpD, cpB, lenK, Int.toNat_natCast, alS, tkL_length]
      by_cases h0 : n < 0
      · rw [decide_eq_true h0, cond_true, hc _ (by rw [decide_eq_true h0]; rfl)]
      · rw [decide_eq_false h0, cond_false, hc _ (by rw [decide_eq_false h0]; rfl)]⟩

namespace laws_FnScanAxis
noncomputable def E : Entry := ⟨5, true, false, fun | [.d (.ints .u8 bs)] => bytesB bs | _ => false, fun | [.d (.ints .u8 bs)] => ([.one ((.bool true), false)], []) | _ => ([], []), fun _ => [], false, fun _ => none⟩
end laws_FnScanAxis
namespace laws_FnScanAxis
noncomputable def X : List Entry := [spec_DrawScanAxis.E, impl_ScanAxis.E, spec_ScanAxis.E, laws_equalArray.E, impl_RankOf.E, impl_TakeAxis.E, impl_ReduceAxis.E, laws_equalInts.E]
noncomputable def I : List Inl := [⟨5, Try.f5, ⟨[20, 27, 32, 52, 57, 64, 70, 76], [], [], [(5, [1, 3, 0, 2, 4, 5, 6, 7, 8, 9, 10, 11, 12, 13, 15, 14, 16, 17, 18, 19]), (6, [1, 3, 0, 2, 4, 5, 6])], [], []⟩⟩]
theorem I_ok : ∀ i ∈ I, Try.prog.funcs[i.f]? = some i.fn ∧ (i.fn.name == "runtime.NumGoroutine") = false := by
  intro i hi
  simp only [I, List.mem_cons, List.not_mem_nil, or_false] at hi
  subst hi
  exact ⟨by kernel_rfl, by kernel_rfl⟩
theorem e (fuel : Nat) (p0 : List Int) : runF Try.prog X I 0 fuel 5 Try.f5 [.d (.ints .u8 p0)] =
  (bif (decide ((((p0.length : Nat) : Int) : Int) > 1048576)) then
  some ([.one ((.bool true), false)], [])
  else
  (bif bytesB p0 then
  (bif decide (((rxS (cutC p0))).length < 9223372036854775808) && decide (((rxD (cutC p0))).length < 9223372036854775808) then
  (bif decide (((rxS (cutC p0))).length < 9223372036854775808) && decide (((rxD (cutC p0))).length < 9223372036854775808) then
  (bif decide (((scS ((anyOpV (cutC p0) 0)) ((rxS (cutC p0))) ((rxD (cutC p0))) ((rxK (cutC p0))))).length < 9223372036854775808) && decide (((scD ((anyOpV (cutC p0) 0)) ((rxS (cutC p0))) ((rxD (cutC p0))) ((rxK (cutC p0))))).length < 9223372036854775808) && decide (((scS ((anyOpV (cutC p0) 0)) ((rxS (cutC p0))) ((rxD (cutC p0))) ((rxK (cutC p0))))).length < 9223372036854775808) && decide (((scD ((anyOpV (cutC p0) 0)) ((rxS (cutC p0))) ((rxD (cutC p0))) ((rxK (cutC p0))))).length < 9223372036854775808) then
  (bif (!(decide (((scS ((anyOpV (cutC p0) 0)) ((rxS (cutC p0))) ((rxD (cutC p0))) ((rxK (cutC p0))))) = ((scS ((anyOpV (cutC p0) 0)) ((rxS (cutC p0))) ((rxD (cutC p0))) ((rxK (cutC p0)))))) && decide (((scD ((anyOpV (cutC p0) 0)) ((rxS (cutC p0))) ((rxD (cutC p0))) ((rxK (cutC p0))))) = ((scD ((anyOpV (cutC p0) 0)) ((rxS (cutC p0))) ((rxD (cutC p0))) ((rxK (cutC p0)))))))) then
  (bif decide (((rxS (cutC p0))).length < 9223372036854775808) && decide (((rxD (cutC p0))).length < 9223372036854775808) then
  (bif decide (((scS ((anyOpV (cutC p0) 0)) ((rxS (cutC p0))) ((rxD (cutC p0))) ((rxK (cutC p0))))).length < 9223372036854775808) && decide (((scD ((anyOpV (cutC p0) 0)) ((rxS (cutC p0))) ((rxD (cutC p0))) ((rxK (cutC p0))))).length < 9223372036854775808) && decide (((scS ((anyOpV (cutC p0) 0)) ((rxS (cutC p0))) ((rxD (cutC p0))) ((rxK (cutC p0))))).length < 9223372036854775808) && decide (((scD ((anyOpV (cutC p0) 0)) ((rxS (cutC p0))) ((rxD (cutC p0))) ((rxK (cutC p0))))).length < 9223372036854775808) then
  some ([.one ((.bool (decide (((scS ((anyOpV (cutC p0) 0)) ((rxS (cutC p0))) ((rxD (cutC p0))) ((rxK (cutC p0))))) = ((scS ((anyOpV (cutC p0) 0)) ((rxS (cutC p0))) ((rxD (cutC p0))) ((rxK (cutC p0)))))) && decide (((scD ((anyOpV (cutC p0) 0)) ((rxS (cutC p0))) ((rxD (cutC p0))) ((rxK (cutC p0))))) = ((scD ((anyOpV (cutC p0) 0)) ((rxS (cutC p0))) ((rxD (cutC p0))) ((rxK (cutC p0)))))))), false)], [])
  else
  none)
  else
  none)
  else
  (bif decide (((scS ((anyOpV (cutC p0) 0)) ((rxS (cutC p0))) ((rxD (cutC p0))) ((rxK (cutC p0))))).length < 9223372036854775808) && decide (((scD ((anyOpV (cutC p0) 0)) ((rxS (cutC p0))) ((rxD (cutC p0))) ((rxK (cutC p0))))).length < 9223372036854775808) then
  (bif (decide (((rankV ((scS ((anyOpV (cutC p0) 0)) ((rxS (cutC p0))) ((rxD (cutC p0))) ((rxK (cutC p0))))) ((scD ((anyOpV (cutC p0) 0)) ((rxS (cutC p0))) ((rxD (cutC p0))) ((rxK (cutC p0)))))) : Int) < 1)) then
  (bif decide (((rxS (cutC p0))).length < 9223372036854775808) && decide (((rxD (cutC p0))).length < 9223372036854775808) then
  (bif decide (((scS ((anyOpV (cutC p0) 0)) ((rxS (cutC p0))) ((rxD (cutC p0))) ((rxK (cutC p0))))).length < 9223372036854775808) && decide (((scD ((anyOpV (cutC p0) 0)) ((rxS (cutC p0))) ((rxD (cutC p0))) ((rxK (cutC p0))))).length < 9223372036854775808) && decide (((scS ((anyOpV (cutC p0) 0)) ((rxS (cutC p0))) ((rxD (cutC p0))) ((rxK (cutC p0))))).length < 9223372036854775808) && decide (((scD ((anyOpV (cutC p0) 0)) ((rxS (cutC p0))) ((rxD (cutC p0))) ((rxK (cutC p0))))).length < 9223372036854775808) then
  some ([.one ((.bool (decide (((scS ((anyOpV (cutC p0) 0)) ((rxS (cutC p0))) ((rxD (cutC p0))) ((rxK (cutC p0))))) = ((scS ((anyOpV (cutC p0) 0)) ((rxS (cutC p0))) ((rxD (cutC p0))) ((rxK (cutC p0)))))) && decide (((scD ((anyOpV (cutC p0) 0)) ((rxS (cutC p0))) ((rxD (cutC p0))) ((rxK (cutC p0))))) = ((scD ((anyOpV (cutC p0) 0)) ((rxS (cutC p0))) ((rxD (cutC p0))) ((rxK (cutC p0)))))))), false)], [])
  else
  none)
  else
  none)
  else
  (idx (rxK (cutC p0)) (rxS (cutC p0)).length).bind fun j1 =>
  ((rxS (cutC p0))[j1]?).bind fun v2 =>
  (bif ((v2 : Int) == 0) then
  (bif decide (((rxS (cutC p0))).length < 9223372036854775808) && decide (((rxD (cutC p0))).length < 9223372036854775808) then
  (bif decide (((scS ((anyOpV (cutC p0) 0)) ((rxS (cutC p0))) ((rxD (cutC p0))) ((rxK (cutC p0))))).length < 9223372036854775808) && decide (((scD ((anyOpV (cutC p0) 0)) ((rxS (cutC p0))) ((rxD (cutC p0))) ((rxK (cutC p0))))).length < 9223372036854775808) && decide (((scS ((anyOpV (cutC p0) 0)) ((rxS (cutC p0))) ((rxD (cutC p0))) ((rxK (cutC p0))))).length < 9223372036854775808) && decide (((scD ((anyOpV (cutC p0) 0)) ((rxS (cutC p0))) ((rxD (cutC p0))) ((rxK (cutC p0))))).length < 9223372036854775808) then
  some ([.one ((.bool (decide (((scS ((anyOpV (cutC p0) 0)) ((rxS (cutC p0))) ((rxD (cutC p0))) ((rxK (cutC p0))))) = ((scS ((anyOpV (cutC p0) 0)) ((rxS (cutC p0))) ((rxD (cutC p0))) ((rxK (cutC p0)))))) && decide (((scD ((anyOpV (cutC p0) 0)) ((rxS (cutC p0))) ((rxD (cutC p0))) ((rxK (cutC p0))))) = ((scD ((anyOpV (cutC p0) 0)) ((rxS (cutC p0))) ((rxD (cutC p0))) ((rxK (cutC p0)))))))), false)], [])
  else
  none)
  else
  none)
  else
  (bif decide (((scS ((anyOpV (cutC p0) 0)) ((rxS (cutC p0))) ((rxD (cutC p0))) ((rxK (cutC p0))))).length < 9223372036854775808) && decide (((scD ((anyOpV (cutC p0) 0)) ((rxS (cutC p0))) ((rxD (cutC p0))) ((rxK (cutC p0))))).length < 9223372036854775808) then
  (bif decide (((rxS (cutC p0))).length < 9223372036854775808) && decide (((rxD (cutC p0))).length < 9223372036854775808) then
  (bif decide (((scS ((anyOpV (cutC p0) 0)) ((rxS (cutC p0))) ((rxD (cutC p0))) ((rxK (cutC p0))))).length < 9223372036854775808) && decide (((scD ((anyOpV (cutC p0) 0)) ((rxS (cutC p0))) ((rxD (cutC p0))) ((rxK (cutC p0))))).length < 9223372036854775808) then
  (bif decide (((rxS (cutC p0))).length < 9223372036854775808) && decide (((rxD (cutC p0))).length < 9223372036854775808) then
  (bif (tkB ((scS ((anyOpV (cutC p0) 0)) ((rxS (cutC p0))) ((rxD (cutC p0))) ((rxK (cutC p0))))) ((scD ((anyOpV (cutC p0) 0)) ((rxS (cutC p0))) ((rxD (cutC p0))) ((rxK (cutC p0))))) ((rxK (cutC p0))) ((-1))) then
  (bif (tkB ((scS ((anyOpV (cutC p0) 0)) ((rxS (cutC p0))) ((rxD (cutC p0))) ((rxK (cutC p0))))) ((scD ((anyOpV (cutC p0) 0)) ((rxS (cutC p0))) ((rxD (cutC p0))) ((rxK (cutC p0))))) ((rxK (cutC p0))) 1) then
  (bif (tkB ((rxS (cutC p0))) ((rxD (cutC p0))) ((rxK (cutC p0))) 1) then
  (bif decide (((tkS ((scS ((anyOpV (cutC p0) 0)) ((rxS (cutC p0))) ((rxD (cutC p0))) ((rxK (cutC p0))))) ((scD ((anyOpV (cutC p0) 0)) ((rxS (cutC p0))) ((rxD (cutC p0))) ((rxK (cutC p0))))) ((rxK (cutC p0))) 1)).length < 9223372036854775808) && decide (((tkD ((scS ((anyOpV (cutC p0) 0)) ((rxS (cutC p0))) ((rxD (cutC p0))) ((rxK (cutC p0))))) ((scD ((anyOpV (cutC p0) 0)) ((rxS (cutC p0))) ((rxD (cutC p0))) ((rxK (cutC p0))))) ((rxK (cutC p0))) 1)).length < 9223372036854775808) && decide (((tkS ((rxS (cutC p0))) ((rxD (cutC p0))) ((rxK (cutC p0))) 1)).length < 9223372036854775808) && decide (((tkD ((rxS (cutC p0))) ((rxD (cutC p0))) ((rxK (cutC p0))) 1)).length < 9223372036854775808) then
  (bif (decide (((tkS ((scS ((anyOpV (cutC p0) 0)) ((rxS (cutC p0))) ((rxD (cutC p0))) ((rxK (cutC p0))))) ((scD ((anyOpV (cutC p0) 0)) ((rxS (cutC p0))) ((rxD (cutC p0))) ((rxK (cutC p0))))) ((rxK (cutC p0))) 1)) = ((tkS ((rxS (cutC p0))) ((rxD (cutC p0))) ((rxK (cutC p0))) 1))) && decide (((tkD ((scS ((anyOpV (cutC p0) 0)) ((rxS (cutC p0))) ((rxD (cutC p0))) ((rxK (cutC p0))))) ((scD ((anyOpV (cutC p0) 0)) ((rxS (cutC p0))) ((rxD (cutC p0))) ((rxK (cutC p0))))) ((rxK (cutC p0))) 1)) = ((tkD ((rxS (cutC p0))) ((rxD (cutC p0))) ((rxK (cutC p0))) 1)))) then
  (bif (!(rdxB ((anyOpV (cutC p0) 0)) ((rxS (cutC p0))) ((rxD (cutC p0))) ((rxK (cutC p0))))) then
  (bif decide (((scS ((anyOpV (cutC p0) 0)) ((rxS (cutC p0))) ((rxD (cutC p0))) ((rxK (cutC p0))))).length < 9223372036854775808) && decide (((rxS (cutC p0))).length < 9223372036854775808) then
  some ([.one ((.bool (decide (((scS ((anyOpV (cutC p0) 0)) ((rxS (cutC p0))) ((rxD (cutC p0))) ((rxK (cutC p0))))) = ((rxS (cutC p0)))))), false)], [])
  else
  none)
  else
  (bif decide (((tkD ((scS ((anyOpV (cutC p0) 0)) ((rxS (cutC p0))) ((rxD (cutC p0))) ((rxK (cutC p0))))) ((scD ((anyOpV (cutC p0) 0)) ((rxS (cutC p0))) ((rxD (cutC p0))) ((rxK (cutC p0))))) ((rxK (cutC p0))) ((-1)))).length < 9223372036854775808) && decide (((rdxD ((anyOpV (cutC p0) 0)) ((rxS (cutC p0))) ((rxD (cutC p0))) ((rxK (cutC p0))))).length < 9223372036854775808) then
  (bif (decide (((tkD ((scS ((anyOpV (cutC p0) 0)) ((rxS (cutC p0))) ((rxD (cutC p0))) ((rxK (cutC p0))))) ((scD ((anyOpV (cutC p0) 0)) ((rxS (cutC p0))) ((rxD (cutC p0))) ((rxK (cutC p0))))) ((rxK (cutC p0))) ((-1)))) = ((rdxD ((anyOpV (cutC p0) 0)) ((rxS (cutC p0))) ((rxD (cutC p0))) ((rxK (cutC p0))))))) then
  (bif decide (((scS ((anyOpV (cutC p0) 0)) ((rxS (cutC p0))) ((rxD (cutC p0))) ((rxK (cutC p0))))).length < 9223372036854775808) && decide (((rxS (cutC p0))).length < 9223372036854775808) then
  some ([.one ((.bool (decide (((scS ((anyOpV (cutC p0) 0)) ((rxS (cutC p0))) ((rxD (cutC p0))) ((rxK (cutC p0))))) = ((rxS (cutC p0)))))), false)], [])
  else
  none)
  else
  some ([.one ((.bool false), false)], []))
  else
  none))
  else
  some ([.one ((.bool false), false)], []))
  else
  none)
  else
  some ([.one ((.bool false), false)], []))
  else
  some ([.one ((.bool false), false)], []))
  else
  some ([.one ((.bool false), false)], []))
  else
  none)
  else
  none)
  else
  none)
  else
  none)))
  else
  none))
  else
  none)
  else
  none)
  else
  none)
  else
  none)) := by kernel_rfl
end laws_FnScanAxis
theorem laws_FnScanAxis.ok_of (hX : ∀ E ∈ laws_FnScanAxis.X, CallSpec Try.prog E) (h : ∀ (bs : List Int), (bytesB bs) = true → ∃ fuel, runF Try.prog laws_FnScanAxis.X laws_FnScanAxis.I 0 fuel 5 Try.f5 [.d (.ints .u8 bs)] = some ([.one ((.bool true), false)], [])) : CallSpec Try.prog laws_FnScanAxis.E :=
  callSpec_of (d := 0) hX (by kernel_rfl) laws_FnScanAxis.I_ok (by kernel_rfl) (by kernel_rfl) (by kernel_rfl) (fun _ _ _ _ h => by dsimp only [laws_FnScanAxis.E] at h; cases h) (fun xs hp => by
    dsimp only [laws_FnScanAxis.E] at hp ⊢
    split at hp
    · exact h _ hp
    · cases hp)
theorem laws_FnScanAxis.ok : CallSpec Try.prog laws_FnScanAxis.E := laws_FnScanAxis.ok_of (by simp [laws_FnScanAxis.X, spec_DrawScanAxis.ok, impl_ScanAxis.ok, spec_ScanAxis.ok, laws_equalArray.ok, impl_RankOf.ok, impl_TakeAxis.ok, impl_ReduceAxis.ok, laws_equalInts.ok]) fun bs h => by
  obtain ⟨F, hF⟩ : ∃ F : Nat, 4000 < F := ⟨4001, by omega⟩
  refine ⟨F, ?_⟩
  rw [laws_FnScanAxis.e]
  by_cases hl : ((bs.length : Nat) : Int) > 1048576
  · rw [decide_eq_true hl]; rfl
  rw [decide_eq_false hl, cond_false, h, cond_true]
  have r0 := cut_ok h (p := 0) (by omega) (by omega)
  obtain ⟨a1, a2, _, _⟩ := rx_bd r0
  obtain ⟨op, hop⟩ : ∃ x, anyOpV (cutC bs) 0 = x := ⟨_, rfl⟩
  obtain ⟨sh, hsh⟩ : ∃ x, rxS (cutC bs) = x := ⟨_, rfl⟩
  obtain ⟨da, hda⟩ : ∃ x, rxD (cutC bs) = x := ⟨_, rfl⟩
  obtain ⟨k, hk⟩ : ∃ x, rxK (cutC bs) = x := ⟨_, rfl⟩
  rw [hsh] at a1
  rw [hda] at a2
  have g1 := lt_of (xs := sh) (by omega)
  have g2 := lt_of (xs := da) (by omega)
  simp only [hop, hsh, hda, hk]
  cases hb : scB op sh da k with
  | false =>
    simp only [scS, scD, hb, g1, g2, Bool.and_self, cond_true, cond_false]
    rfl
  | true =>
    have hb' := hb
    simp only [scB, Bool.and_eq_true] at hb'
    have hv2 := sc_valid hb
    obtain ⟨j, rfl, hj, hv, ax, hd, hl⟩ := axB_inv hb'.2
    have hvs := (validA_inv hv).1
    have hr := ax.rank
    have hL := ax.len_le
    have hl2 := validA_len hv2
    have g3 := lt_of (xs := scN op sh da j) (by omega)
    have i1 := idx_nat hj
    have i2 := getD_get hj
    rw [ax.len] at i2
    have d1 : decide (((sh.length : Nat) : Int) < 1) = false := decide_eq_false (by omega)
    have hd2 : (scN op sh da j).length = befN sh j * lenN sh j * behN sh j := by simp only [scN, tab_length, hd]
    cases h0 : (((lenN sh j : Nat) : Int) == 0) with
    | true => simp only [Bool.and_self, Bool.and_true, Bool.true_and, cond_true, cond_false, Bool.not_true, Bool.not_false, bne_self_eq_false, beq_self_eq_true, decide_true, eq_self, scS, scD, hb, g1, g2, g3, rankV, hv2, d1, i1, i2, Option.bind_some, h0]
    | false =>
      have hL0 : 0 < lenN sh j := by
        have : ((lenN sh j : Nat) : Int) ≠ 0 := by simpa using h0
        omega
      have hvt : ∀ n : Int, n.natAbs = 1 → validS (alS sh j (tkL (lenN sh j) n)) = true := fun n hn => by
        simp only [alS, Int.toNat_natCast, tkL_length, hn]
        exact valid_less hvs hj (by omega)
      have tb : ∀ (d : List Int) (n : Int), validA sh d = true → n.natAbs = 1 → tkB sh d j n = true := fun d n hd hn => by
        have : cntB n = true := by simp only [cntB, Bool.and_eq_true, decide_eq_true_eq]; omega
        simp only [tkB, axB_of hd hj, this, lenK, Int.toNat_natCast, hvt n hn, Bool.and_self]
      have t1 := tb (scN op sh da j) (-1) hv2 rfl
      have t2 := tb (scN op sh da j) 1 hv2 rfl
      have t3 := tb da 1 hv rfl
      have k1 : (tkL (lenN sh j) 1) = [0] := by
        symm
        refine tab_ext rfl fun i hi => ?_
        obtain rfl : i = 0 := by simp at hi; omega
        unfold tkP
        rw [show (bif decide ((1 : Int) < 0) then ((lenN sh j : Nat) : Int) + 1 else 0) = 0 from rfl, decide_eq_true (p := (0 : Int) ≤ 0 + ((0 : Nat) : Int)) (by omega), decide_eq_true (p := (0 : Int) + ((0 : Nat) : Int) < ((lenN sh j : Nat) : Int)) (by omega)]
        rfl
      have k2 : (tkL (lenN sh j) (-1)) = [((lenN sh j - 1 : Nat) : Int)] := by
        symm
        refine tab_ext rfl fun i hi => ?_
        obtain rfl : i = 0 := by simp at hi; omega
        unfold tkP
        rw [show (bif decide ((-1 : Int) < 0) then ((lenN sh j : Nat) : Int) + -1 else 0) = ((lenN sh j : Nat) : Int) + -1 from rfl, decide_eq_true (p := (0 : Int) ≤ ((lenN sh j : Nat) : Int) + -1 + ((0 : Nat) : Int)) (by omega), decide_eq_true (p := ((lenN sh j : Nat) : Int) + -1 + ((0 : Nat) : Int) < ((lenN sh j : Nat) : Int)) (by omega)]
        simp
        omega
      have at_ : ∀ (d : List Int) (b m i : Nat), atV (lenN sh j) (behN sh j) d b (i : Int) m = d.getD ((b * lenN sh j + i) * behN sh j + m) 0 := fun d b m i => by unfold atV; rw [decide_eq_true (by omega), cond_true, Int.toNat_natCast]
      have e1 : alA sh (scN op sh da j) j [0] = alA sh da j [0] := by
        refine ext3 (B := befN sh j) (L := 1) (M := behN sh j) (alA_length _ _ _ _) (alA_length _ _ _ _) fun b i m hb2 hi hm => ?_
        obtain rfl : i = 0 := by omega
        have q1 := alA_get (sh := sh) (da := scN op sh da j) (ls := [0]) hb2 (show 0 < [(0 : Int)].length by simp) hm
        have q2 := alA_get (sh := sh) (da := da) (ls := [0]) hb2 (show 0 < [(0 : Int)].length by simp) hm
        simp only [List.length_cons, List.length_nil] at q1 q2
        rw [q1, q2, show ([0] : List Int).getD 0 0 = ((0 : Nat) : Int) from rfl, at_, at_, sc_get hd hb2 hL0 hm]
        have h0 := ln_get (sh := sh) (da := da) (k := j) (i := b) (m := m) (j := 0) hL0
        have hl1 : (lnK sh da (j : Int) b m).length = lenN sh j := ln_len
        match hq : lnK sh da (j : Int) b m, hl1 with
        | [], hl1 => simp at hl1; omega
        | x :: xs, _ =>
          rw [hq] at h0
          rw [← h0]
          rfl
      have e2 : alA sh (scN op sh da j) j [((lenN sh j - 1 : Nat) : Int)] = rdxN op sh da j := by
        refine ext2 (B := befN sh j) (M := behN sh j) (by rw [alA_length]; simp) (by simp only [rdxN, tab_length, Int.toNat_natCast]) fun b m hb2 hm => ?_
        have q1 := alA_get (sh := sh) (da := scN op sh da j) (ls := [((lenN sh j - 1 : Nat) : Int)]) hb2 (show 0 < [((lenN sh j - 1 : Nat) : Int)].length by simp) hm
        simp only [List.length_cons, List.length_nil, Nat.zero_add, Nat.mul_one, Nat.add_zero] at q1
        rw [q1, rdx_get hb2 hm, show ([((lenN sh j - 1 : Nat) : Int)] : List Int).getD 0 0 = ((lenN sh j - 1 : Nat) : Int) from rfl, at_, sc_get hd hb2 (by omega) hm, List.take_of_length_le (by rw [ln_len]; omega)]
      have hvx := al_valid hv hj (hvt 1 rfl)
      have hlx := validA_len hvx
      rw [k1] at hlx
      have g5 := lt_of (xs := alS sh j [0]) (by omega)
      have g6 := lt_of (xs := alA sh da j [0]) (by omega)
      cases hrx : rdxB op sh da j with
      | false =>
        simp only [Bool.and_self, Bool.and_true, Bool.true_and, cond_true, cond_false, Bool.not_true, Bool.not_false, bne_self_eq_false, beq_self_eq_true, decide_true, eq_self, scS, scD, tkS, tkD, hb, g1, g2, g3, g5, g6, rankV, hv2, d1, i1, i2, Option.bind_some, h0, t1, t2, t3, lenK, Int.toNat_natCast, k1, k2, e1, hrx]
      | true =>
        have g7 := lt_of (xs := rdxN op sh da j) (by have := validA_len (rdx_valid hrx); omega)
        simp only [Bool.and_self, Bool.and_true, Bool.true_and, cond_true, cond_false, Bool.not_true, Bool.not_false, bne_self_eq_false, beq_self_eq_true, decide_true, eq_self, scS, scD, tkS, tkD, rdxD, hb, g1, g2, g3, g5, g6, g7, rankV, hv2, d1, i1, i2, Option.bind_some, h0, t1, t2, t3, lenK, Int.toNat_natCast, k1, k2, e1, e2, hrx]

namespace laws_FnScanAxisPart
noncomputable def E : Entry := ⟨6, true, false, fun | [.d (.ints .u8 bs)] => bytesB bs | _ => false, fun | [.d (.ints .u8 bs)] => ([.one ((.bool true), false)], []) | _ => ([], []), fun _ => [], false, fun _ => none⟩
end laws_FnScanAxisPart
namespace laws_FnScanAxisPart
noncomputable def X : List Entry := [spec_DrawScanAxis.E, impl_ScanAxis.E, spec_ScanAxis.E, laws_equalArray.E, impl_RankOf.E, impl_TakeAxis.E]
noncomputable def I : List Inl := [⟨6, Try.f6, ⟨[17, 24, 29, 41, 53, 60, 71], [], [], [(5, [1, 3, 0, 2, 4, 5, 6, 7, 8, 9, 10, 11]), (6, [1, 3, 0, 2, 4, 5, 6]), (10, [0, 1, 2, 3, 4, 5, 7, 6, 9, 8, 10, 11, 12])], [], []⟩⟩]
theorem I_ok : ∀ i ∈ I, Try.prog.funcs[i.f]? = some i.fn ∧ (i.fn.name == "runtime.NumGoroutine") = false := by
  intro i hi
  simp only [I, List.mem_cons, List.not_mem_nil, or_false] at hi
  subst hi
  exact ⟨by kernel_rfl, by kernel_rfl⟩
theorem e (fuel : Nat) (p0 : List Int) : runF Try.prog X I 0 fuel 6 Try.f6 [.d (.ints .u8 p0)] =
  (bif (decide ((((p0.length : Nat) : Int) : Int) > 1048576)) then
  some ([.one ((.bool true), false)], [])
  else
  (bif bytesB p0 then
  (bif decide (((rxS (cutC p0))).length < 9223372036854775808) && decide (((rxD (cutC p0))).length < 9223372036854775808) then
  (bif decide (((rxS (cutC p0))).length < 9223372036854775808) && decide (((rxD (cutC p0))).length < 9223372036854775808) then
  (bif decide (((scS ((anyOpV (cutC p0) 0)) ((rxS (cutC p0))) ((rxD (cutC p0))) ((rxK (cutC p0))))).length < 9223372036854775808) && decide (((scD ((anyOpV (cutC p0) 0)) ((rxS (cutC p0))) ((rxD (cutC p0))) ((rxK (cutC p0))))).length < 9223372036854775808) && decide (((scS ((anyOpV (cutC p0) 0)) ((rxS (cutC p0))) ((rxD (cutC p0))) ((rxK (cutC p0))))).length < 9223372036854775808) && decide (((scD ((anyOpV (cutC p0) 0)) ((rxS (cutC p0))) ((rxD (cutC p0))) ((rxK (cutC p0))))).length < 9223372036854775808) then
  (bif (!(decide (((scS ((anyOpV (cutC p0) 0)) ((rxS (cutC p0))) ((rxD (cutC p0))) ((rxK (cutC p0))))) = ((scS ((anyOpV (cutC p0) 0)) ((rxS (cutC p0))) ((rxD (cutC p0))) ((rxK (cutC p0)))))) && decide (((scD ((anyOpV (cutC p0) 0)) ((rxS (cutC p0))) ((rxD (cutC p0))) ((rxK (cutC p0))))) = ((scD ((anyOpV (cutC p0) 0)) ((rxS (cutC p0))) ((rxD (cutC p0))) ((rxK (cutC p0)))))))) then
  (bif decide (((rxS (cutC p0))).length < 9223372036854775808) && decide (((rxD (cutC p0))).length < 9223372036854775808) then
  (bif decide (((scS ((anyOpV (cutC p0) 0)) ((rxS (cutC p0))) ((rxD (cutC p0))) ((rxK (cutC p0))))).length < 9223372036854775808) && decide (((scD ((anyOpV (cutC p0) 0)) ((rxS (cutC p0))) ((rxD (cutC p0))) ((rxK (cutC p0))))).length < 9223372036854775808) && decide (((scS ((anyOpV (cutC p0) 0)) ((rxS (cutC p0))) ((rxD (cutC p0))) ((rxK (cutC p0))))).length < 9223372036854775808) && decide (((scD ((anyOpV (cutC p0) 0)) ((rxS (cutC p0))) ((rxD (cutC p0))) ((rxK (cutC p0))))).length < 9223372036854775808) then
  some ([.one ((.bool (decide (((scS ((anyOpV (cutC p0) 0)) ((rxS (cutC p0))) ((rxD (cutC p0))) ((rxK (cutC p0))))) = ((scS ((anyOpV (cutC p0) 0)) ((rxS (cutC p0))) ((rxD (cutC p0))) ((rxK (cutC p0)))))) && decide (((scD ((anyOpV (cutC p0) 0)) ((rxS (cutC p0))) ((rxD (cutC p0))) ((rxK (cutC p0))))) = ((scD ((anyOpV (cutC p0) 0)) ((rxS (cutC p0))) ((rxD (cutC p0))) ((rxK (cutC p0)))))))), false)], [])
  else
  none)
  else
  none)
  else
  (bif decide (((scS ((anyOpV (cutC p0) 0)) ((rxS (cutC p0))) ((rxD (cutC p0))) ((rxK (cutC p0))))).length < 9223372036854775808) && decide (((scD ((anyOpV (cutC p0) 0)) ((rxS (cutC p0))) ((rxD (cutC p0))) ((rxK (cutC p0))))).length < 9223372036854775808) then
  (bif (decide (((rankV ((scS ((anyOpV (cutC p0) 0)) ((rxS (cutC p0))) ((rxD (cutC p0))) ((rxK (cutC p0))))) ((scD ((anyOpV (cutC p0) 0)) ((rxS (cutC p0))) ((rxD (cutC p0))) ((rxK (cutC p0)))))) : Int) < 1)) then
  (bif decide (((rxS (cutC p0))).length < 9223372036854775808) && decide (((rxD (cutC p0))).length < 9223372036854775808) then
  (bif decide (((scS ((anyOpV (cutC p0) 0)) ((rxS (cutC p0))) ((rxD (cutC p0))) ((rxK (cutC p0))))).length < 9223372036854775808) && decide (((scD ((anyOpV (cutC p0) 0)) ((rxS (cutC p0))) ((rxD (cutC p0))) ((rxK (cutC p0))))).length < 9223372036854775808) && decide (((scS ((anyOpV (cutC p0) 0)) ((rxS (cutC p0))) ((rxD (cutC p0))) ((rxK (cutC p0))))).length < 9223372036854775808) && decide (((scD ((anyOpV (cutC p0) 0)) ((rxS (cutC p0))) ((rxD (cutC p0))) ((rxK (cutC p0))))).length < 9223372036854775808) then
  some ([.one ((.bool (decide (((scS ((anyOpV (cutC p0) 0)) ((rxS (cutC p0))) ((rxD (cutC p0))) ((rxK (cutC p0))))) = ((scS ((anyOpV (cutC p0) 0)) ((rxS (cutC p0))) ((rxD (cutC p0))) ((rxK (cutC p0)))))) && decide (((scD ((anyOpV (cutC p0) 0)) ((rxS (cutC p0))) ((rxD (cutC p0))) ((rxK (cutC p0))))) = ((scD ((anyOpV (cutC p0) 0)) ((rxS (cutC p0))) ((rxD (cutC p0))) ((rxK (cutC p0)))))))), false)], [])
  else
  none)
  else
  none)
  else
  (idx (rxK (cutC p0)) (rxS (cutC p0)).length).bind fun j1 =>
  ((rxS (cutC p0))[j1]?).bind fun v2 =>
  (bif decide (((rxS (cutC p0))).length < 9223372036854775808) && decide (((rxD (cutC p0))).length < 9223372036854775808) then
  (bif decide (((scS ((anyOpV (cutC p0) 0)) ((rxS (cutC p0))) ((rxD (cutC p0))) ((rxK (cutC p0))))).length < 9223372036854775808) && decide (((scD ((anyOpV (cutC p0) 0)) ((rxS (cutC p0))) ((rxD (cutC p0))) ((rxK (cutC p0))))).length < 9223372036854775808) then
  (bif (tkB ((rxS (cutC p0))) ((rxD (cutC p0))) ((rxK (cutC p0))) ((IntKind.wrap .i64 (Int.tdiv v2 2)))) then
  (bif (tkB ((scS ((anyOpV (cutC p0) 0)) ((rxS (cutC p0))) ((rxD (cutC p0))) ((rxK (cutC p0))))) ((scD ((anyOpV (cutC p0) 0)) ((rxS (cutC p0))) ((rxD (cutC p0))) ((rxK (cutC p0))))) ((rxK (cutC p0))) ((IntKind.wrap .i64 (Int.tdiv v2 2)))) then
  (bif decide (((tkS ((rxS (cutC p0))) ((rxD (cutC p0))) ((rxK (cutC p0))) ((IntKind.wrap .i64 (Int.tdiv v2 2))))).length < 9223372036854775808) && decide (((tkD ((rxS (cutC p0))) ((rxD (cutC p0))) ((rxK (cutC p0))) ((IntKind.wrap .i64 (Int.tdiv v2 2))))).length < 9223372036854775808) then
  (bif decide (((scS ((anyOpV (cutC p0) 0)) ((tkS ((rxS (cutC p0))) ((rxD (cutC p0))) ((rxK (cutC p0))) ((IntKind.wrap .i64 (Int.tdiv v2 2))))) ((tkD ((rxS (cutC p0))) ((rxD (cutC p0))) ((rxK (cutC p0))) ((IntKind.wrap .i64 (Int.tdiv v2 2))))) ((rxK (cutC p0))))).length < 9223372036854775808) && decide (((scD ((anyOpV (cutC p0) 0)) ((tkS ((rxS (cutC p0))) ((rxD (cutC p0))) ((rxK (cutC p0))) ((IntKind.wrap .i64 (Int.tdiv v2 2))))) ((tkD ((rxS (cutC p0))) ((rxD (cutC p0))) ((rxK (cutC p0))) ((IntKind.wrap .i64 (Int.tdiv v2 2))))) ((rxK (cutC p0))))).length < 9223372036854775808) && decide (((tkS ((scS ((anyOpV (cutC p0) 0)) ((rxS (cutC p0))) ((rxD (cutC p0))) ((rxK (cutC p0))))) ((scD ((anyOpV (cutC p0) 0)) ((rxS (cutC p0))) ((rxD (cutC p0))) ((rxK (cutC p0))))) ((rxK (cutC p0))) ((IntKind.wrap .i64 (Int.tdiv v2 2))))).length < 9223372036854775808) && decide (((tkD ((scS ((anyOpV (cutC p0) 0)) ((rxS (cutC p0))) ((rxD (cutC p0))) ((rxK (cutC p0))))) ((scD ((anyOpV (cutC p0) 0)) ((rxS (cutC p0))) ((rxD (cutC p0))) ((rxK (cutC p0))))) ((rxK (cutC p0))) ((IntKind.wrap .i64 (Int.tdiv v2 2))))).length < 9223372036854775808) then
  some ([.one ((.bool (decide (((scS ((anyOpV (cutC p0) 0)) ((tkS ((rxS (cutC p0))) ((rxD (cutC p0))) ((rxK (cutC p0))) ((IntKind.wrap .i64 (Int.tdiv v2 2))))) ((tkD ((rxS (cutC p0))) ((rxD (cutC p0))) ((rxK (cutC p0))) ((IntKind.wrap .i64 (Int.tdiv v2 2))))) ((rxK (cutC p0))))) = ((tkS ((scS ((anyOpV (cutC p0) 0)) ((rxS (cutC p0))) ((rxD (cutC p0))) ((rxK (cutC p0))))) ((scD ((anyOpV (cutC p0) 0)) ((rxS (cutC p0))) ((rxD (cutC p0))) ((rxK (cutC p0))))) ((rxK (cutC p0))) ((IntKind.wrap .i64 (Int.tdiv v2 2)))))) && decide (((scD ((anyOpV (cutC p0) 0)) ((tkS ((rxS (cutC p0))) ((rxD (cutC p0))) ((rxK (cutC p0))) ((IntKind.wrap .i64 (Int.tdiv v2 2))))) ((tkD ((rxS (cutC p0))) ((rxD (cutC p0))) ((rxK (cutC p0))) ((IntKind.wrap .i64 (Int.tdiv v2 2))))) ((rxK (cutC p0))))) = ((tkD ((scS ((anyOpV (cutC p0) 0)) ((rxS (cutC p0))) ((rxD (cutC p0))) ((rxK (cutC p0))))) ((scD ((anyOpV (cutC p0) 0)) ((rxS (cutC p0))) ((rxD (cutC p0))) ((rxK (cutC p0))))) ((rxK (cutC p0))) ((IntKind.wrap .i64 (Int.tdiv v2 2)))))))), false)], [])
  else
  none)
  else
  none)
  else
  some ([.one ((.bool false), false)], []))
  else
  some ([.one ((.bool false), false)], []))
  else
  none)
  else
  none))
  else
  none))
  else
  none)
  else
  none)
  else
  none)
  else
  none)) := by kernel_rfl
end laws_FnScanAxisPart
theorem laws_FnScanAxisPart.ok_of (hX : ∀ E ∈ laws_FnScanAxisPart.X, CallSpec Try.prog E) (h : ∀ (bs : List Int), (bytesB bs) = true → ∃ fuel, runF Try.prog laws_FnScanAxisPart.X laws_FnScanAxisPart.I 0 fuel 6 Try.f6 [.d (.ints .u8 bs)] = some ([.one ((.bool true), false)], [])) : CallSpec Try.prog laws_FnScanAxisPart.E :=
  callSpec_of (d := 0) hX (by kernel_rfl) laws_FnScanAxisPart.I_ok (by kernel_rfl) (by kernel_rfl) (by kernel_rfl) (fun _ _ _ _ h => by dsimp only [laws_FnScanAxisPart.E] at h; cases h) (fun xs hp => by
    dsimp only [laws_FnScanAxisPart.E] at hp ⊢
    split at hp
    · exact h _ hp
    · cases hp)
theorem laws_FnScanAxisPart.ok : CallSpec Try.prog laws_FnScanAxisPart.E := laws_FnScanAxisPart.ok_of (by simp [laws_FnScanAxisPart.X, spec_DrawScanAxis.ok, impl_ScanAxis.ok, spec_ScanAxis.ok, laws_equalArray.ok, impl_RankOf.ok, impl_TakeAxis.ok]) fun bs h => by
  obtain ⟨F, hF⟩ : ∃ F : Nat, 4000 < F := ⟨4001, by omega⟩
  refine ⟨F, ?_⟩
  rw [laws_FnScanAxisPart.e]
  by_cases hl : ((bs.length : Nat) : Int) > 1048576
  · rw [decide_eq_true hl]; rfl
  rw [decide_eq_false hl, cond_false, h, cond_true]
  have r0 := cut_ok h (p := 0) (by omega) (by omega)
  obtain ⟨a1, a2, _, _⟩ := rx_bd r0
  obtain ⟨op, hop⟩ : ∃ x, anyOpV (cutC bs) 0 = x := ⟨_, rfl⟩
  obtain ⟨sh, hsh⟩ : ∃ x, rxS (cutC bs) = x := ⟨_, rfl⟩
  obtain ⟨da, hda⟩ : ∃ x, rxD (cutC bs) = x := ⟨_, rfl⟩
  obtain ⟨k, hk⟩ : ∃ x, rxK (cutC bs) = x := ⟨_, rfl⟩
  rw [hsh] at a1
  rw [hda] at a2
  have g1 := lt_of (xs := sh) (by omega)
  have g2 := lt_of (xs := da) (by omega)
  simp only [hop, hsh, hda, hk]
  cases hb : scB op sh da k with
  | false =>
    simp only [scS, scD, hb, g1, g2, Bool.and_self, cond_true, cond_false]
    rfl
  | true =>
    have hb' := hb
    simp only [scB, Bool.and_eq_true] at hb'
    have hv2 := sc_valid hb
    obtain ⟨j, rfl, hj, hv, ax, hd, hl⟩ := axB_inv hb'.2
    have hvs := (validA_inv hv).1
    have hr := ax.rank
    have hL := ax.len_le
    have hl2 := validA_len hv2
    have g3 := lt_of (xs := scN op sh da j) (by omega)
    have i1 := idx_nat hj
    have i2 := getD_get hj
    rw [ax.len] at i2
    have d1 : decide (((sh.length : Nat) : Int) < 1) = false := decide_eq_false (by omega)
    have hd2 : (scN op sh da j).length = befN sh j * lenN sh j * behN sh j := by simp only [scN, tab_length, hd]
    have hw : IntKind.wrap .i64 (Int.tdiv ((lenN sh j : Nat) : Int) 2) = ((lenN sh j / 2 : Nat) : Int) := by
      rw [show (2 : Int) = ((2 : Nat) : Int) from rfl, tdivN, wN (by omega)]
    generalize hh : lenN sh j / 2 = h at *
    have hhL : h ≤ lenN sh j := by omega
    have hvt : validS (alS sh j (tkL (lenN sh j) (h : Int))) = true := by
      simp only [alS, Int.toNat_natCast, tkL_length]
      rw [show ((h : Int)).natAbs = h by omega]
      exact valid_less hvs hj hhL
    have tb : ∀ (d : List Int), validA sh d = true → tkB sh d j (h : Int) = true := fun d hd => by
      have : cntB (h : Int) = true := by simp only [cntB, Bool.and_eq_true, decide_eq_true_eq]; omega
      simp only [tkB, axB_of hd hj, this, lenK, Int.toNat_natCast, hvt, Bool.and_self]
    have t1 := tb da hv
    have t2 := tb (scN op sh da j) hv2
    have hvx := al_valid hv hj hvt
    have hvy := al_valid hv2 hj hvt
    have hj2 : j < (alS sh j (tkL (lenN sh j) (h : Int))).length := by rw [alS_len]; exact hj
    have sb2 : scB op (alS sh j (tkL (lenN sh j) (h : Int))) (alA sh da j (tkL (lenN sh j) (h : Int))) j = true := by simp only [scB, hb'.1, axB_of hvx hj2, Bool.and_self]
    have hlx := validA_len hvx
    have hly := validA_len hvy
    have hbe : befN (alS sh j (tkL (lenN sh j) (h : Int))) j = befN sh j := by simp only [alS, Int.toNat_natCast]; rw [bef_set]
    have hbh : behN (alS sh j (tkL (lenN sh j) (h : Int))) j = behN sh j := by simp only [alS, Int.toNat_natCast]; rw [beh_set]
    have hln : lenN (alS sh j (tkL (lenN sh j) (h : Int))) j = h := by rw [lenK_set hj, tkL_length]; omega
    have htg : ∀ i, i < h → (tkL (lenN sh j) (h : Int)).getD i 0 = (i : Int) := fun i hi => by
      rw [tk_get (by omega), decide_eq_false (p := (h : Int) < 0) (by omega), cond_false]
      unfold tkP
      rw [decide_eq_true (by omega), decide_eq_true (by omega)]
      simp only [Bool.and_self, cond_true]; omega
    have at_ : ∀ (d : List Int) (b m i : Nat), atV (lenN sh j) (behN sh j) d b (i : Int) m = d.getD ((b * lenN sh j + i) * behN sh j + m) 0 := fun d b m i => by unfold atV; rw [decide_eq_true (by omega), cond_true, Int.toNat_natCast]
    have e : scN op (alS sh j (tkL (lenN sh j) (h : Int))) (alA sh da j (tkL (lenN sh j) (h : Int))) j = alA sh (scN op sh da j) j (tkL (lenN sh j) (h : Int)) := by
      have hlen : (tkL (lenN sh j) (h : Int)).length = h := by rw [tkL_length]; omega
      have hda := alA_length sh da j (tkL (lenN sh j) (h : Int))
      rw [hlen] at hda
      refine ext3 (B := befN sh j) (L := h) (M := behN sh j) (by simp only [scN, tab_length]; exact hda) (by rw [alA_length, hlen]) fun b i m hb2 hi hm => ?_
      have q1 := alA_get (sh := sh) (da := scN op sh da j) (ls := tkL (lenN sh j) (h : Int)) hb2 (show i < _ by rw [hlen]; exact hi) hm
      rw [hlen, htg i hi, at_, sc_get hd hb2 (by omega) hm] at q1
      rw [q1]
      have q2 := sc_get (op := op) (sh := alS sh j (tkL (lenN sh j) (h : Int))) (da := alA sh da j (tkL (lenN sh j) (h : Int))) (k := j) (i := b) (j := i) (m := m) (by rw [hbe, hbh, hln]; exact hda) (by rw [hbe]; exact hb2) (by rw [hln]; exact hi) (by rw [hbh]; exact hm)
      rw [hbh, hln] at q2
      rw [q2, ln_take hj hb2 hm, hlen]
      congr 1
      apply List.ext_getElem (by rw [List.length_take, List.length_take, tab_length, ln_len]; omega)
      intro q z1 z2
      rw [List.length_take, tab_length] at z1
      have y1 := tab_getD (f := fun j_1 => atV (lenN sh j) (behN sh j) da b ((tkL (lenN sh j) (h : Int)).getD j_1 0) m) (show q < h by omega)
      have y2 := ln_get (sh := sh) (da := da) (k := j) (i := b) (m := m) (j := q) (by omega)
      rw [htg q (by omega), at_, ← y2] at y1
      rw [List.getElem_take, List.getElem_take]
      have u1 : q < (tab h fun j_1 => atV (lenN sh j) (behN sh j) da b ((tkL (lenN sh j) (h : Int)).getD j_1 0) m).length := by rw [tab_length]; omega
      have u2 : q < (lnK sh da (j : Int) b m).length := by rw [ln_len]; omega
      rw [getD_el u1, getD_el u2] at y1
      exact y1
    have g5 := lt_of (xs := alS sh j (tkL (lenN sh j) (h : Int))) (by omega)
    have g6 := lt_of (xs := alA sh da j (tkL (lenN sh j) (h : Int))) (by omega)
    have g7 := lt_of (xs := alA sh (scN op sh da j) j (tkL (lenN sh j) (h : Int))) (by omega)
    simp only [Bool.and_self, Bool.and_true, Bool.true_and, cond_true, cond_false, Bool.not_true, Bool.not_false, bne_self_eq_false, beq_self_eq_true, decide_true, eq_self, scS, scD, tkS, tkD, hb, g1, g2, g3, g5, g6, g7, rankV, hv2, d1, i1, i2, Option.bind_some, hw, t1, t2, sb2, lenK, Int.toNat_natCast, e]

namespace spec_DrawReduceAll
noncomputable def E : Entry := ⟨21, false, false, fun | [.d (.ints .u8 bs)] => bytesB bs | _ => false, fun | [.d (.ints .u8 bs)] => ([.one ((.int .i64 (anyOpV (cutC bs) 0)), false), .agg [((.ints .i64 (aArS (cutC bs) 2)), false), ((.ints .i64 (aArD (cutC bs) 2)), false)]], []) | _ => ([], []), fun _ => [], true, fun _ => none⟩
end spec_DrawReduceAll
namespace spec_DrawReduceAll
noncomputable def X : List Entry := [spec_newReader.E, spec_anyOp.E, spec_anyArray.E]
noncomputable def I : List Inl := [⟨21, Try.f21, ⟨[12], [], [], [], [], []⟩⟩]
theorem I_ok : ∀ i ∈ I, Try.prog.funcs[i.f]? = some i.fn ∧ (i.fn.name == "runtime.NumGoroutine") = false := by
  intro i hi
  simp only [I, List.mem_cons, List.not_mem_nil, or_false] at hi
  subst hi
  exact ⟨by kernel_rfl, by kernel_rfl⟩
theorem e (fuel : Nat) (p0 : List Int) : runF Try.prog X I 0 fuel 21 Try.f21 [.d (.ints .u8 p0)] =
  (bif rdOk ((cutC p0)) (0 + 1) && rdOk ((cutC p0)) 0 then
  (bif rdOk (((cutC p0))) ((0 + 2)) && decide ((((0 + 2)) : Int) ≤ 1000000) then
  some ([.one ((.int .i64 (anyOpV ((cutC p0)) 0)), false), .agg [((.ints .i64 (aArS (((cutC p0))) ((0 + 2)))), false), ((.ints .i64 (aArD (((cutC p0))) ((0 + 2)))), false)]], [])
  else
  none)
  else
  none) := by kernel_rfl
end spec_DrawReduceAll
theorem spec_DrawReduceAll.ok_of (hX : ∀ E ∈ spec_DrawReduceAll.X, CallSpec Try.prog E) (h : ∀ (bs : List Int), (bytesB bs) = true → ∃ fuel, runF Try.prog spec_DrawReduceAll.X spec_DrawReduceAll.I 0 fuel 21 Try.f21 [.d (.ints .u8 bs)] = some ([.one ((.int .i64 (anyOpV (cutC bs) 0)), false), .agg [((.ints .i64 (aArS (cutC bs) 2)), false), ((.ints .i64 (aArD (cutC bs) 2)), false)]], [])) : CallSpec Try.prog spec_DrawReduceAll.E :=
  callSpec_of (d := 0) hX (by kernel_rfl) spec_DrawReduceAll.I_ok (by kernel_rfl) (by kernel_rfl) (by kernel_rfl) (fun _ _ _ _ h => by dsimp only [spec_DrawReduceAll.E] at h; cases h) (fun xs hp => by
    dsimp only [spec_DrawReduceAll.E] at hp ⊢
    split at hp
    · exact h _ hp
    · cases hp)
theorem spec_DrawReduceAll.ok : CallSpec Try.prog spec_DrawReduceAll.E := spec_DrawReduceAll.ok_of (by simp [spec_DrawReduceAll.X, spec_newReader.ok, spec_anyOp.ok, spec_anyArray.ok]) fun bs h => ⟨0, by
  have r0 := cut_ok h (p := 0) (by omega) (by omega)
  rw [spec_DrawReduceAll.e, r0, rd_le (q := 0 + 1) r0 (by omega) (by omega), rd_le (q := 0 + 2) r0 (by omega) (by omega)]
  rfl⟩

namespace impl_ReduceAll
noncomputable def E : Entry := ⟨22, true, false, fun | [.d (.int .i64 op), .d (.agg [(.ints .i64 sh), (.ints .i64 da)])] => decide (sh.length < 9223372036854775808) && decide (da.length < 9223372036854775808) | _ => false, fun | [.d (.int .i64 op), .d (.agg [(.ints .i64 sh), (.ints .i64 da)])] => ([.one ((.int .i64 (rallV op sh da)), false)], []) | _ => ([], []), fun _ => [], false, fun _ => none⟩
end impl_ReduceAll
namespace impl_ReduceAll
noncomputable def X : List Entry := [impl_reductionOf.E, impl_ValidArray.E]
noncomputable def I : List Inl := [⟨22, Try.f22, ⟨[], [], [], [], [], []⟩⟩]
theorem I_ok : ∀ i ∈ I, Try.prog.funcs[i.f]? = some i.fn ∧ (i.fn.name == "runtime.NumGoroutine") = false := by
  intro i hi
  simp only [I, List.mem_cons, List.not_mem_nil, or_false] at hi
  subst hi
  exact ⟨by kernel_rfl, by kernel_rfl⟩
theorem e (fuel : Nat) (p0 : Int) (p1q0 : List Int) (p1q1 : List Int) : runF Try.prog X I 0 fuel 22 Try.f22 [.d (.int .i64 p0), .d (.agg [(.ints .i64 p1q0), (.ints .i64 p1q1)])] =
  (bif opOk p0 then
  (bif decide (p1q0.length < 9223372036854775808) && decide (p1q1.length < 9223372036854775808) then
  (bif (!(validA p1q0 p1q1)) then
  some ([.one ((.int .i64 0), false)], [])
  else
  (bif (ql [Q.l p1q1]) then
  some ([.one ((.int .i64 (((qlv (redF p0))) [Q.l p1q1])), false)], [])
  else
  none))
  else
  none)
  else
  some ([.one ((.int .i64 0), false)], [])) := by kernel_rfl
end impl_ReduceAll
theorem impl_ReduceAll.ok_of (hX : ∀ E ∈ impl_ReduceAll.X, CallSpec Try.prog E) (h : ∀ (op : Int) (sh : List Int) (da : List Int), (decide (sh.length < 9223372036854775808) && decide (da.length < 9223372036854775808)) = true → ∃ fuel, runF Try.prog impl_ReduceAll.X impl_ReduceAll.I 0 fuel 22 Try.f22 [.d (.int .i64 op), .d (.agg [(.ints .i64 sh), (.ints .i64 da)])] = some ([.one ((.int .i64 (rallV op sh da)), false)], [])) : CallSpec Try.prog impl_ReduceAll.E :=
  callSpec_of (d := 0) hX (by kernel_rfl) impl_ReduceAll.I_ok (by kernel_rfl) (by kernel_rfl) (by kernel_rfl) (fun _ _ _ _ h => by dsimp only [impl_ReduceAll.E] at h; cases h) (fun xs hp => by
    dsimp only [impl_ReduceAll.E] at hp ⊢
    split at hp
    · exact h _ _ _ hp
    · cases hp)
theorem impl_ReduceAll.ok : CallSpec Try.prog impl_ReduceAll.E := impl_ReduceAll.ok_of (by simp [impl_ReduceAll.X, impl_reductionOf.ok, impl_ValidArray.ok]) fun op sh da h => ⟨0, by
  rw [impl_ReduceAll.e, h]
  have hl : decide (da.length < 9223372036854775808) = true := by simp only [Bool.and_eq_true] at h; exact h.2
  have hq : ql [.l da] = true := hl
  unfold rallV
  cases ho : opOk op with
  | false => rfl
  | true => cases hv : validA sh da with
    | false => rfl
    | true => rw [hq]; rfl⟩

namespace spec_ReduceAll
noncomputable def E : Entry := ⟨23, true, false, fun | [.d (.int .i64 op), .d (.agg [(.ints .i64 sh), (.ints .i64 da)])] => decide (sh.length < 9223372036854775808) && decide (da.length < 9223372036854775808) | _ => false, fun | [.d (.int .i64 op), .d (.agg [(.ints .i64 sh), (.ints .i64 da)])] => ([.one ((.int .i64 (rallV op sh da)), false)], []) | _ => ([], []), fun _ => [], false, fun _ => none⟩
end spec_ReduceAll
namespace spec_ReduceAll
noncomputable def X : List Entry := [spec_validOp.E, spec_valid.E, spec_fold.E]
noncomputable def I : List Inl := [⟨23, Try.f23, ⟨[], [], [], [], [], []⟩⟩]
theorem I_ok : ∀ i ∈ I, Try.prog.funcs[i.f]? = some i.fn ∧ (i.fn.name == "runtime.NumGoroutine") = false := by
  intro i hi
  simp only [I, List.mem_cons, List.not_mem_nil, or_false] at hi
  subst hi
  exact ⟨by kernel_rfl, by kernel_rfl⟩
theorem e (fuel : Nat) (p0 : Int) (p1q0 : List Int) (p1q1 : List Int) : runF Try.prog X I 0 fuel 23 Try.f23 [.d (.int .i64 p0), .d (.agg [(.ints .i64 p1q0), (.ints .i64 p1q1)])] =
  (bif (!(opOk p0)) then
  some ([.one ((.int .i64 0), false)], [])
  else
  (bif decide (p1q0.length < 9223372036854775808) && decide (p1q1.length < 9223372036854775808) then
  (bif (!(validA p1q0 p1q1)) then
  some ([.one ((.int .i64 0), false)], [])
  else
  (bif opOk p0 && decide (p1q1.length < 9223372036854775808) then
  some ([.one ((.int .i64 (redF p0 p1q1)), false)], [])
  else
  none))
  else
  none)) := by kernel_rfl
end spec_ReduceAll
theorem spec_ReduceAll.ok_of (hX : ∀ E ∈ spec_ReduceAll.X, CallSpec Try.prog E) (h : ∀ (op : Int) (sh : List Int) (da : List Int), (decide (sh.length < 9223372036854775808) && decide (da.length < 9223372036854775808)) = true → ∃ fuel, runF Try.prog spec_ReduceAll.X spec_ReduceAll.I 0 fuel 23 Try.f23 [.d (.int .i64 op), .d (.agg [(.ints .i64 sh), (.ints .i64 da)])] = some ([.one ((.int .i64 (rallV op sh da)), false)], [])) : CallSpec Try.prog spec_ReduceAll.E :=
  callSpec_of (d := 0) hX (by kernel_rfl) spec_ReduceAll.I_ok (by kernel_rfl) (by kernel_rfl) (by kernel_rfl) (fun _ _ _ _ h => by dsimp only [spec_ReduceAll.E] at h; cases h) (fun xs hp => by
    dsimp only [spec_ReduceAll.E] at hp ⊢
    split at hp
    · exact h _ _ _ hp
    · cases hp)
theorem spec_ReduceAll.ok : CallSpec Try.prog spec_ReduceAll.E := spec_ReduceAll.ok_of (by simp [spec_ReduceAll.X, spec_validOp.ok, spec_valid.ok, spec_fold.ok]) fun op sh da h => ⟨0, by
  rw [spec_ReduceAll.e, h]
  have hl : decide (da.length < 9223372036854775808) = true := by simp only [Bool.and_eq_true] at h; exact h.2
  have hq : ql [.l da] = true := hl
  unfold rallV
  cases ho : opOk op with
  | false => rfl
  | true => cases hv : validA sh da with
    | false => rfl
    | true => rw [hl]; rfl⟩

namespace impl_VectorOf
noncomputable def E : Entry := ⟨55, false, false, fun | [.d (.ints .i64 xs)] => szB xs | _ => false, fun | [.d (.ints .i64 xs)] => ([.agg [((.ints .i64 (vecS xs)), true), ((.ints .i64 (vecD xs)), true)]], []) | _ => ([], []), fun _ => [], true, fun _ => none⟩
end impl_VectorOf
namespace impl_VectorOf
noncomputable def X : List Entry := [impl_ValidArray.E, impl_copyList.E]
noncomputable def I : List Inl := [⟨55, Try.f55, ⟨[15], [], [], [], [], []⟩⟩]
theorem I_ok : ∀ i ∈ I, Try.prog.funcs[i.f]? = some i.fn ∧ (i.fn.name == "runtime.NumGoroutine") = false := by
  intro i hi
  simp only [I, List.mem_cons, List.not_mem_nil, or_false] at hi
  subst hi
  exact ⟨by kernel_rfl, by kernel_rfl⟩
theorem e (fuel : Nat) (p0 : List Int) : runF Try.prog X I 0 fuel 55 Try.f55 [.d (.ints .i64 p0)] =
  (bif decide (([((p0.length : Nat) : Int)]).length < 9223372036854775808) && decide (p0.length < 9223372036854775808) then
  (bif (!(validA ([((p0.length : Nat) : Int)]) p0)) then
  some ([.agg [((.ints .i64 []), true), ((.ints .i64 []), true)]], [])
  else
  (bif szB p0 then
  some ([.agg [((.ints .i64 [((p0.length : Nat) : Int)]), true), ((.ints .i64 p0), true)]], [])
  else
  none))
  else
  none) := by kernel_rfl
end impl_VectorOf
theorem impl_VectorOf.ok_of (hX : ∀ E ∈ impl_VectorOf.X, CallSpec Try.prog E) (h : ∀ (xs : List Int), (szB xs) = true → ∃ fuel, runF Try.prog impl_VectorOf.X impl_VectorOf.I 0 fuel 55 Try.f55 [.d (.ints .i64 xs)] = some ([.agg [((.ints .i64 (vecS xs)), true), ((.ints .i64 (vecD xs)), true)]], [])) : CallSpec Try.prog impl_VectorOf.E :=
  callSpec_of (d := 0) hX (by kernel_rfl) impl_VectorOf.I_ok (by kernel_rfl) (by kernel_rfl) (by kernel_rfl) (fun _ _ _ _ h => by dsimp only [impl_VectorOf.E] at h; cases h) (fun xs hp => by
    dsimp only [impl_VectorOf.E] at hp ⊢
    split at hp
    · exact h _ hp
    · cases hp)
theorem validA_vec0 (xs : List Int) (hx : xs.length < 9223372036854775808) : validA [((xs.length : Nat) : Int)] xs = vecOk xs := by
  have e1 := @wS ((xs.length : Nat) : Int) (by omega) (by omega)
  by_cases h1 : xs.length ≤ 60
  · have h2 : ((xs.length : Nat) : Int) ≤ 60 := by omega
    simp [validA, validS, vecOk, allB_cons, allB_nil, volW, volFrom, e1, h1, h2]
  · have h2 : ¬ ((xs.length : Nat) : Int) ≤ 60 := by omega
    simp [validA, validS, vecOk, allB_cons, allB_nil, volW, volFrom, e1, h1, h2]

theorem impl_VectorOf.ok : CallSpec Try.prog impl_VectorOf.E := impl_VectorOf.ok_of (by simp [impl_VectorOf.X, impl_ValidArray.ok, impl_copyList.ok]) fun xs h => ⟨0, by
  rw [impl_VectorOf.e, lt_of (szB_lt h), h, validA_vec0 xs (szB_lt h), lt_of (by simp)]
  unfold vecS vecD
  cases vecOk xs <;> rfl⟩

namespace impl_Ravel
noncomputable def E : Entry := ⟨24, false, false, fun | [.d (.agg [(.ints .i64 sh), (.ints .i64 da)])] => decide (sh.length < 9223372036854775808) && decide (da.length < 9223372036854775808) | _ => false, fun | [.d (.agg [(.ints .i64 sh), (.ints .i64 da)])] => ([.agg [((.ints .i64 (ravS sh da)), true), ((.ints .i64 (ravD sh da)), true)]], []) | _ => ([], []), fun _ => [], true, fun _ => none⟩
end impl_Ravel
namespace impl_Ravel
noncomputable def X : List Entry := [impl_ValidArray.E, impl_VectorOf.E]
noncomputable def I : List Inl := [⟨24, Try.f24, ⟨[9], [], [], [], [], []⟩⟩]
theorem I_ok : ∀ i ∈ I, Try.prog.funcs[i.f]? = some i.fn ∧ (i.fn.name == "runtime.NumGoroutine") = false := by
  intro i hi
  simp only [I, List.mem_cons, List.not_mem_nil, or_false] at hi
  subst hi
  exact ⟨by kernel_rfl, by kernel_rfl⟩
theorem e (fuel : Nat) (p0q0 : List Int) (p0q1 : List Int) : runF Try.prog X I 0 fuel 24 Try.f24 [.d (.agg [(.ints .i64 p0q0), (.ints .i64 p0q1)])] =
  (bif decide (p0q0.length < 9223372036854775808) && decide (p0q1.length < 9223372036854775808) then
  (bif (!(validA p0q0 p0q1)) then
  some ([.agg [((.ints .i64 []), true), ((.ints .i64 []), true)]], [])
  else
  (bif szB p0q1 then
  some ([.agg [((.ints .i64 (vecS p0q1)), true), ((.ints .i64 (vecD p0q1)), true)]], [])
  else
  none))
  else
  none) := by kernel_rfl
end impl_Ravel
theorem impl_Ravel.ok_of (hX : ∀ E ∈ impl_Ravel.X, CallSpec Try.prog E) (h : ∀ (sh : List Int) (da : List Int), (decide (sh.length < 9223372036854775808) && decide (da.length < 9223372036854775808)) = true → ∃ fuel, runF Try.prog impl_Ravel.X impl_Ravel.I 0 fuel 24 Try.f24 [.d (.agg [(.ints .i64 sh), (.ints .i64 da)])] = some ([.agg [((.ints .i64 (ravS sh da)), true), ((.ints .i64 (ravD sh da)), true)]], [])) : CallSpec Try.prog impl_Ravel.E :=
  callSpec_of (d := 0) hX (by kernel_rfl) impl_Ravel.I_ok (by kernel_rfl) (by kernel_rfl) (by kernel_rfl) (fun _ _ _ _ h => by dsimp only [impl_Ravel.E] at h; cases h) (fun xs hp => by
    dsimp only [impl_Ravel.E] at hp ⊢
    split at hp
    · exact h _ _ hp
    · cases hp)
theorem impl_Ravel.ok : CallSpec Try.prog impl_Ravel.E := impl_Ravel.ok_of (by simp [impl_Ravel.X, impl_ValidArray.ok, impl_VectorOf.ok]) fun sh da h => ⟨0, by
  rw [impl_Ravel.e, h]
  unfold ravS ravD vecS vecD
  cases hv : validA sh da with
  | false => rfl
  | true => rw [szB_of (by have := validA_len hv; omega), vecOk_of hv]; rfl⟩

namespace laws_FnReduceAll
noncomputable def E : Entry := ⟨7, true, false, fun | [.d (.ints .u8 bs)] => bytesB bs | _ => false, fun | [.d (.ints .u8 bs)] => ([.one ((.bool true), false)], []) | _ => ([], []), fun _ => [], false, fun _ => none⟩
end laws_FnReduceAll
namespace laws_FnReduceAll
noncomputable def X : List Entry := [spec_DrawReduceAll.E, impl_ReduceAll.E, spec_ReduceAll.E, impl_ValidArray.E, impl_Ravel.E, impl_ReduceAxis.E, laws_equalInts.E]
noncomputable def I : List Inl := [⟨7, Try.f7, ⟨[13, 45, 46], [], [], [], [54], []⟩⟩]
theorem I_ok : ∀ i ∈ I, Try.prog.funcs[i.f]? = some i.fn ∧ (i.fn.name == "runtime.NumGoroutine") = false := by
  intro i hi
  simp only [I, List.mem_cons, List.not_mem_nil, or_false] at hi
  subst hi
  exact ⟨by kernel_rfl, by kernel_rfl⟩
theorem e (fuel : Nat) (p0 : List Int) : runF Try.prog X I 0 fuel 7 Try.f7 [.d (.ints .u8 p0)] =
  (bif (decide ((((p0.length : Nat) : Int) : Int) > 1048576)) then
  some ([.one ((.bool true), false)], [])
  else
  (bif bytesB p0 then
  (bif decide (((aArS (cutC p0) 2)).length < 9223372036854775808) && decide (((aArD (cutC p0) 2)).length < 9223372036854775808) then
  (bif decide (((aArS (cutC p0) 2)).length < 9223372036854775808) && decide (((aArD (cutC p0) 2)).length < 9223372036854775808) then
  (bif (((rallV ((anyOpV (cutC p0) 0)) ((aArS (cutC p0) 2)) ((aArD (cutC p0) 2))) : Int) != (rallV ((anyOpV (cutC p0) 0)) ((aArS (cutC p0) 2)) ((aArD (cutC p0) 2)))) then
  (bif decide (((aArS (cutC p0) 2)).length < 9223372036854775808) && decide (((aArD (cutC p0) 2)).length < 9223372036854775808) then
  some ([.one ((.bool (((rallV ((anyOpV (cutC p0) 0)) ((aArS (cutC p0) 2)) ((aArD (cutC p0) 2))) : Int) == (rallV ((anyOpV (cutC p0) 0)) ((aArS (cutC p0) 2)) ((aArD (cutC p0) 2))))), false)], [])
  else
  none)
  else
  (bif decide (((aArS (cutC p0) 2)).length < 9223372036854775808) && decide (((aArD (cutC p0) 2)).length < 9223372036854775808) then
  (bif (!(validA ((aArS (cutC p0) 2)) ((aArD (cutC p0) 2)))) then
  (bif decide (((aArS (cutC p0) 2)).length < 9223372036854775808) && decide (((aArD (cutC p0) 2)).length < 9223372036854775808) then
  some ([.one ((.bool (((rallV ((anyOpV (cutC p0) 0)) ((aArS (cutC p0) 2)) ((aArD (cutC p0) 2))) : Int) == (rallV ((anyOpV (cutC p0) 0)) ((aArS (cutC p0) 2)) ((aArD (cutC p0) 2))))), false)], [])
  else
  none)
  else
  (bif (decide (((anyOpV (cutC p0) 0) : Int) < 1)) then
  (bif decide (((aArS (cutC p0) 2)).length < 9223372036854775808) && decide (((aArD (cutC p0) 2)).length < 9223372036854775808) then
  some ([.one ((.bool (((rallV ((anyOpV (cutC p0) 0)) ((aArS (cutC p0) 2)) ((aArD (cutC p0) 2))) : Int) == (rallV ((anyOpV (cutC p0) 0)) ((aArS (cutC p0) 2)) ((aArD (cutC p0) 2))))), false)], [])
  else
  none)
  else
  (bif (decide (((anyOpV (cutC p0) 0) : Int) > 8)) then
  (bif decide (((aArS (cutC p0) 2)).length < 9223372036854775808) && decide (((aArD (cutC p0) 2)).length < 9223372036854775808) then
  some ([.one ((.bool (((rallV ((anyOpV (cutC p0) 0)) ((aArS (cutC p0) 2)) ((aArD (cutC p0) 2))) : Int) == (rallV ((anyOpV (cutC p0) 0)) ((aArS (cutC p0) 2)) ((aArD (cutC p0) 2))))), false)], [])
  else
  none)
  else
  (bif decide (((aArS (cutC p0) 2)).length < 9223372036854775808) && decide (((aArD (cutC p0) 2)).length < 9223372036854775808) then
  (bif decide (((ravS ((aArS (cutC p0) 2)) ((aArD (cutC p0) 2)))).length < 9223372036854775808) && decide (((ravD ((aArS (cutC p0) 2)) ((aArD (cutC p0) 2)))).length < 9223372036854775808) then
  (bif (rdxB ((anyOpV (cutC p0) 0)) ((ravS ((aArS (cutC p0) 2)) ((aArD (cutC p0) 2)))) ((ravD ((aArS (cutC p0) 2)) ((aArD (cutC p0) 2)))) 0) then
  (bif decide (((rdxD ((anyOpV (cutC p0) 0)) ((ravS ((aArS (cutC p0) 2)) ((aArD (cutC p0) 2)))) ((ravD ((aArS (cutC p0) 2)) ((aArD (cutC p0) 2)))) 0)).length < 9223372036854775808) && decide (([(rallV ((anyOpV (cutC p0) 0)) ((aArS (cutC p0) 2)) ((aArD (cutC p0) 2)))]).length < 9223372036854775808) then
  (bif (decide (((rdxD ((anyOpV (cutC p0) 0)) ((ravS ((aArS (cutC p0) 2)) ((aArD (cutC p0) 2)))) ((ravD ((aArS (cutC p0) 2)) ((aArD (cutC p0) 2)))) 0)) = ([(rallV ((anyOpV (cutC p0) 0)) ((aArS (cutC p0) 2)) ((aArD (cutC p0) 2)))]))) then
  (bif (decide (((((aArS (cutC p0) 2).length : Nat) : Int) : Int) > 0)) then
  some ([.one ((.bool true), false)], [])
  else
  (idx 0 (aArD (cutC p0) 2).length).bind fun j1 =>
  ((aArD (cutC p0) 2)[j1]?).bind fun v2 =>
  some ([.one ((.bool (((rallV ((anyOpV (cutC p0) 0)) ((aArS (cutC p0) 2)) ((aArD (cutC p0) 2))) : Int) == v2)), false)], []))
  else
  some ([.one ((.bool false), false)], []))
  else
  none)
  else
  some ([.one ((.bool false), false)], []))
  else
  none)
  else
  none))))
  else
  none))
  else
  none)
  else
  none)
  else
  none)) := by kernel_rfl
end laws_FnReduceAll
theorem laws_FnReduceAll.ok_of (hX : ∀ E ∈ laws_FnReduceAll.X, CallSpec Try.prog E) (h : ∀ (bs : List Int), (bytesB bs) = true → ∃ fuel, runF Try.prog laws_FnReduceAll.X laws_FnReduceAll.I 0 fuel 7 Try.f7 [.d (.ints .u8 bs)] = some ([.one ((.bool true), false)], [])) : CallSpec Try.prog laws_FnReduceAll.E :=
  callSpec_of (d := 0) hX (by kernel_rfl) laws_FnReduceAll.I_ok (by kernel_rfl) (by kernel_rfl) (by kernel_rfl) (fun _ _ _ _ h => by dsimp only [laws_FnReduceAll.E] at h; cases h) (fun xs hp => by
    dsimp only [laws_FnReduceAll.E] at hp ⊢
    split at hp
    · exact h _ hp
    · cases hp)
theorem laws_FnReduceAll.ok : CallSpec Try.prog laws_FnReduceAll.E := laws_FnReduceAll.ok_of (by simp [laws_FnReduceAll.X, spec_DrawReduceAll.ok, impl_ReduceAll.ok, spec_ReduceAll.ok, impl_ValidArray.ok, impl_Ravel.ok, impl_ReduceAxis.ok, laws_equalInts.ok]) fun bs h => by
  obtain ⟨F, hF⟩ : ∃ F : Nat, 4000 < F := ⟨4001, by omega⟩
  refine ⟨F, ?_⟩
  rw [laws_FnReduceAll.e]
  by_cases hl : ((bs.length : Nat) : Int) > 1048576
  · rw [decide_eq_true hl]; rfl
  rw [decide_eq_false hl, cond_false, h, cond_true]
  have r0 := cut_ok h (p := 0) (by omega) (by omega)
  obtain ⟨a1, a2, _, _⟩ := aAr_bd (rd_le (q := 2) r0 (by omega) (by omega)) (by omega)
  obtain ⟨op, hop⟩ : ∃ x, anyOpV (cutC bs) 0 = x := ⟨_, rfl⟩
  obtain ⟨sh, hsh⟩ : ∃ x, aArS (cutC bs) 2 = x := ⟨_, rfl⟩
  obtain ⟨da, hda⟩ : ∃ x, aArD (cutC bs) 2 = x := ⟨_, rfl⟩
  rw [hsh] at a1
  rw [hda] at a2
  have g1 := lt_of (xs := sh) (by omega)
  have g2 := lt_of (xs := da) (by omega)
  simp only [hop, hsh, hda]
  cases hv : validA sh da with
  | false => simp only [Bool.and_self, Bool.and_true, Bool.true_and, cond_true, cond_false, Bool.not_true, Bool.not_false, bne_self_eq_false, beq_self_eq_true, decide_true, eq_self, g1, g2, hv]
  | true =>
    by_cases h1 : op < 1
    · have d1 := decide_eq_true h1
      simp only [Bool.and_self, Bool.and_true, Bool.true_and, cond_true, cond_false, Bool.not_true, Bool.not_false, bne_self_eq_false, beq_self_eq_true, decide_true, eq_self, g1, g2, hv, d1]
    · by_cases h8 : op > 8
      · have d1 := decide_eq_false h1
        have d8 := decide_eq_true h8
        simp only [Bool.and_self, Bool.and_true, Bool.true_and, cond_true, cond_false, Bool.not_true, Bool.not_false, bne_self_eq_false, beq_self_eq_true, decide_true, eq_self, g1, g2, hv, d1, d8]
      · have d1 := decide_eq_false h1
        have d8 := decide_eq_false h8
        have ho : opOk op = true := by simp only [opOk, Bool.and_eq_true, decide_eq_true_eq]; omega
        have hl := validA_len hv
        have hr := rav_valid hv
        have hb : rdxB op [((da.length : Nat) : Int)] da 0 = true := by
          have hax : axB [((da.length : Nat) : Int)] da 0 = true := axB_of (k := 0) hr (by simp)
          simp only [rdxB, ho, hax, Bool.and_self, Bool.true_and]
          rfl
        have hN : rdxN op [((da.length : Nat) : Int)] da 0 = [redF op da] := by
          have hln : lnK [((da.length : Nat) : Int)] da 0 0 0 = da := by
            symm
            refine tab_ext (by simp [lenN]) fun i hi => ?_
            rw [show behN [((da.length : Nat) : Int)] (0 : Int).toNat = 1 from rfl]
            simp
          unfold rdxN
          symm
          refine tab_ext (by rfl) fun i hi => ?_
          have hi1 : i < 1 := hi
          obtain rfl : i = 0 := by omega
          rw [show behN [((da.length : Nat) : Int)] (0 : Int).toNat = 1 from rfl, Nat.zero_div, Nat.zero_mod, hln]
          rfl
        have g3 := lt_of (xs := [((da.length : Nat) : Int)]) (by simp)
        have g4 := lt_of (xs := [redF op da]) (by simp)
        by_cases h0 : ((sh.length : Nat) : Int) > 0
        · have d0 := decide_eq_true h0
          simp only [Bool.and_self, Bool.and_true, Bool.true_and, cond_true, cond_false, Bool.not_true, Bool.not_false, bne_self_eq_false, beq_self_eq_true, decide_true, eq_self, g1, g2, g3, g4, hv, d1, d8, d0, ravS, ravD, rdxD, hb, hN, rallV, ho]
        · have d0 := decide_eq_false h0
          have e := List.length_eq_zero_iff.mp (show sh.length = 0 by omega)
          subst e
          have hs := sc_len hv
          match da, hs with
          | [x], _ =>
            have i1 : idx 0 [x].length = some 0 := rfl
            have i2 : ([x] : List Int)[0]? = some x := rfl
            simp only [Bool.and_self, Bool.and_true, Bool.true_and, cond_true, cond_false, Bool.not_true, Bool.not_false, bne_self_eq_false, beq_self_eq_true, decide_true, eq_self, g1, g2, g3, g4, hv, d1, d8, d0, ravS, ravD, rdxD, hb, hN, rallV, ho, i1, Option.bind_some, i2, redF]

namespace laws_FnReduceAllOrder
noncomputable def E : Entry := ⟨8, true, false, fun | [.d (.ints .u8 bs)] => bytesB bs | _ => false, fun | [.d (.ints .u8 bs)] => ([.one ((.bool true), false)], []) | _ => ([], []), fun _ => [], false, fun _ => none⟩
end laws_FnReduceAllOrder
namespace laws_FnReduceAllOrder
noncomputable def X : List Entry := [spec_DrawReduceAll.E, impl_ReduceAll.E, spec_ReduceAll.E, impl_ValidArray.E]
noncomputable def I : List Inl := [⟨8, Try.f8, ⟨[14], [(14, [0, 1, 2, 3, 5, 8, 9, 10, 11, 12, 13, 14, 15, 16, 17, 18, 19, 20, 21, 22, 23, 24, 25, 26, 27, 28, 29, 30, 31, 32, 33, 34, 35, 36, 37, 38, 39, 40, 41, 42, 43, 44, 45, 46, 47, 48, 49, 50, 51, 52, 53, 54, 55, 56, 57, 58, 59, 60, 61, 62, 63, 64, 65, 66, 67, 68, 69, 70, 71, 72, 73, 74, 75, 76, 77]), (1000010, [0, 1, 2, 3, 5, 9, 10, 11, 12, 13, 14, 15, 16, 17, 18, 19, 20, 21, 22, 23, 24, 25, 26, 27, 28, 29, 30, 31, 32, 33, 34, 35, 36, 37, 38, 39, 40, 41, 42, 43, 44, 45, 46, 47, 48, 49, 50, 51, 52, 53, 54, 55, 56, 57, 58, 59, 60, 61, 62, 63, 64, 65, 66, 67, 68, 69, 70, 71, 72, 73, 74, 75, 76, 77])], [], [], [], []⟩⟩, ⟨25, Try.f25, ⟨[], [(1000002, [2, 3, 4, 6, 7, 8, 9, 10, 11, 12, 13, 14, 15, 16, 17])], [], [], [], []⟩⟩]
theorem I_ok : ∀ i ∈ I, Try.prog.funcs[i.f]? = some i.fn ∧ (i.fn.name == "runtime.NumGoroutine") = false := by
  intro i hi
  simp only [I, List.mem_cons, List.not_mem_nil, or_false] at hi
  rcases hi with rfl | rfl
  all_goals exact ⟨by kernel_rfl, by kernel_rfl⟩
noncomputable abbrev L0 (fuel n : Nat) (s : St) (k : Kont) := lAt Try.prog X I fuel true 4 false 8 (bodyOf Try.f8) [1, 1, 1, 1, 1, 1, 1, 0, 1, 0] n s k
noncomputable abbrev k0  (fuel : Nat) : Kont := (kAt Try.prog X I fuel true 4 false 8 (bodyOf Try.f8) [1, 1, 1, 1, 1, 1, 1, 0, 1, 0] [] (endK Try.prog Try.f8))
noncomputable def t0 (p0 : List Int) (x0q2 : Int) : St := ⟨[.dead, .dead, .dead, .dead, (.ptr 1000000000 0 0), .dead, (.imm (.int .i64 (rallV 4 ((aArS (cutC p0) 2)) ((aArD (cutC p0) 2))))), (.imm (.int .i64 (rallV 5 ((aArS (cutC p0) 2)) ((aArD (cutC p0) 2))))), (.imm (.int .i64 x0q2)), .dead, .dead, .dead, .dead, .dead, .dead, .dead, .dead, .dead, .dead, .dead, .dead, .dead, .dead, .dead, .dead, .dead, .dead, .dead, .dead, .dead, .dead, .dead, .dead, .dead, .dead, .dead, .dead, .dead, .dead, .dead, .dead, .dead, .dead, .dead, .dead, .dead, .dead, .dead, .dead, .dead, .dead, .dead, .dead, .dead, .dead, .dead, .dead, .dead, .dead, .dead, .dead, .dead, .dead, .dead, .dead, .dead, .dead, .dead, .dead, .dead, .dead, .dead, .dead, .dead, .dead, .dead, .dead, .dead], hOf [(1000000000, (.box [(.imm (.ints .i64 (aArS (cutC p0) 2))), (.imm (.ints .i64 (aArD (cutC p0) 2)))]))], [], []⟩
noncomputable abbrev L1 (fuel n : Nat) (s : St) (k : Kont) := lAt Try.prog X I fuel true 3 false 25 (bodyOf Try.f25) [1, 0, 1, 0] n s k
noncomputable abbrev k1  (fuel : Nat) : Kont := (kAt Try.prog X I fuel true 3 false 25 (bodyOf Try.f25) [1, 0, 1, 0] [] (endFn Try.prog Try.f25 78 (kOp Try.prog X I fuel true 4 8 (cAt (bodyOf Try.f8) [1, 1, 1, 1, 1, 1, 1, 1, 0]) 3 (kAt Try.prog X I fuel true 4 false 8 (bodyOf Try.f8) [1, 1, 1, 1, 1, 1, 1, 1, 0] [] (endK Try.prog Try.f8)))))
noncomputable def t1 (p0 : List Int) (x1q2 : Int) : St := ⟨[(.imm (.ints .i64 (aArD (cutC p0) 2))), (.imm (.int .i64 (rallV 4 ((aArS (cutC p0) 2)) ((aArD (cutC p0) 2))))), .dead, .dead, .dead, (.imm (.int .i64 x1q2)), .dead, .dead, .dead, .dead, .dead, .dead, .dead, .dead, .dead, .dead, .dead, .dead], hOf [(1000000000, (.box [(.imm (.ints .i64 (aArS (cutC p0) 2))), (.imm (.ints .i64 (aArD (cutC p0) 2)))]))], [.dead, .dead, .dead, .dead, (.ptr 1000000000 0 0), .dead, (.imm (.int .i64 (rallV 4 ((aArS (cutC p0) 2)) ((aArD (cutC p0) 2))))), (.imm (.int .i64 (rallV 5 ((aArS (cutC p0) 2)) ((aArD (cutC p0) 2))))), .dead, .dead, .dead, .dead, .dead, .dead, .dead, .dead, .dead, .dead, .dead, .dead, .dead, .dead, .dead, .dead, .dead, .dead, .dead, .dead, .dead, .dead, .dead, .dead, .dead, .dead, .dead, .dead, .dead, .dead, .dead, .dead, .dead, .dead, .dead, .dead, .dead, .dead, .dead, .dead, .dead, .dead, .dead, .dead, .dead, .dead, .dead, .dead, .dead, .dead, .dead, .dead, .dead, .dead, .dead, .dead, .dead, .dead, .dead, .dead, (.ptr 1000000000 0 1), (.imm (.ints .i64 (aArD (cutC p0) 2))), (.imm (.int .i64 (rallV 4 ((aArS (cutC p0) 2)) ((aArD (cutC p0) 2))))), .dead, .dead, .dead, .dead, .dead, .dead, .dead, (.tup [])], []⟩
noncomputable abbrev L2 (fuel n : Nat) (s : St) (k : Kont) := lAt Try.prog X I fuel true 3 false 25 (bodyOf Try.f25) [1, 0, 1, 0] n s k
noncomputable abbrev k2  (fuel : Nat) : Kont := (kAt Try.prog X I fuel true 3 false 25 (bodyOf Try.f25) [1, 0, 1, 0] [] (endFn Try.prog Try.f25 78 (kOp Try.prog X I fuel true 4 8 (cAt (bodyOf Try.f8) [1, 1, 1, 1, 1, 1, 1, 1, 0]) 8 (kAt Try.prog X I fuel true 4 false 8 (bodyOf Try.f8) [1, 1, 1, 1, 1, 1, 1, 1, 0] [] (endK Try.prog Try.f8)))))
noncomputable def t2 (p0 : List Int) (x2q2 : Int) : St := ⟨[(.imm (.ints .i64 (aArD (cutC p0) 2))), (.imm (.int .i64 (rallV 5 ((aArS (cutC p0) 2)) ((aArD (cutC p0) 2))))), .dead, .dead, .dead, (.imm (.int .i64 x2q2)), .dead, .dead, .dead, .dead, .dead, .dead, .dead, .dead, .dead, .dead, .dead, .dead], hOf [(1000000000, (.box [(.imm (.ints .i64 (aArS (cutC p0) 2))), (.imm (.ints .i64 (aArD (cutC p0) 2)))]))], [.dead, .dead, .dead, .dead, (.ptr 1000000000 0 0), .dead, (.imm (.int .i64 (rallV 4 ((aArS (cutC p0) 2)) ((aArD (cutC p0) 2))))), (.imm (.int .i64 (rallV 5 ((aArS (cutC p0) 2)) ((aArD (cutC p0) 2))))), .dead, .dead, .dead, .dead, .dead, .dead, .dead, .dead, .dead, .dead, .dead, .dead, .dead, .dead, .dead, .dead, .dead, .dead, .dead, .dead, .dead, .dead, .dead, .dead, .dead, .dead, .dead, .dead, .dead, .dead, .dead, .dead, .dead, .dead, .dead, .dead, .dead, .dead, .dead, .dead, .dead, .dead, .dead, .dead, .dead, .dead, .dead, .dead, .dead, .dead, .dead, .dead, .dead, .dead, .dead, .dead, .dead, .dead, .dead, .dead, (.ptr 1000000000 0 1), (.imm (.ints .i64 (aArD (cutC p0) 2))), (.imm (.int .i64 (rallV 4 ((aArS (cutC p0) 2)) ((aArD (cutC p0) 2))))), (.imm (.bool true)), (.imm (.bool true)), (.ptr 1000000000 0 1), (.imm (.ints .i64 (aArD (cutC p0) 2))), (.imm (.int .i64 (rallV 5 ((aArS (cutC p0) 2)) ((aArD (cutC p0) 2))))), .dead, .dead, (.tup [])], []⟩
theorem e (fuel : Nat) (p0 : List Int) : runF Try.prog X I 4 fuel 8 Try.f8 [.d (.ints .u8 p0)] =
  (bif (decide ((((p0.length : Nat) : Int) : Int) > 1048576)) then
  some ([.one ((.bool true), false)], [])
  else
  (bif bytesB p0 then
  (bif decide (((aArS (cutC p0) 2)).length < 9223372036854775808) && decide (((aArD (cutC p0) 2)).length < 9223372036854775808) then
  (bif decide (((aArS (cutC p0) 2)).length < 9223372036854775808) && decide (((aArD (cutC p0) 2)).length < 9223372036854775808) then
  (bif (((rallV ((anyOpV (cutC p0) 0)) ((aArS (cutC p0) 2)) ((aArD (cutC p0) 2))) : Int) != (rallV ((anyOpV (cutC p0) 0)) ((aArS (cutC p0) 2)) ((aArD (cutC p0) 2)))) then
  (bif decide (((aArS (cutC p0) 2)).length < 9223372036854775808) && decide (((aArD (cutC p0) 2)).length < 9223372036854775808) then
  some ([.one ((.bool (((rallV ((anyOpV (cutC p0) 0)) ((aArS (cutC p0) 2)) ((aArD (cutC p0) 2))) : Int) == (rallV ((anyOpV (cutC p0) 0)) ((aArS (cutC p0) 2)) ((aArD (cutC p0) 2))))), false)], [])
  else
  none)
  else
  (bif decide (((aArS (cutC p0) 2)).length < 9223372036854775808) && decide (((aArD (cutC p0) 2)).length < 9223372036854775808) then
  (bif (!(validA ((aArS (cutC p0) 2)) ((aArD (cutC p0) 2)))) then
  (bif decide (((aArS (cutC p0) 2)).length < 9223372036854775808) && decide (((aArD (cutC p0) 2)).length < 9223372036854775808) then
  some ([.one ((.bool (((rallV ((anyOpV (cutC p0) 0)) ((aArS (cutC p0) 2)) ((aArD (cutC p0) 2))) : Int) == (rallV ((anyOpV (cutC p0) 0)) ((aArS (cutC p0) 2)) ((aArD (cutC p0) 2))))), false)], [])
  else
  none)
  else
  (bif (((((aArD (cutC p0) 2).length : Nat) : Int) : Int) == 0) then
  (bif decide (((aArS (cutC p0) 2)).length < 9223372036854775808) && decide (((aArD (cutC p0) 2)).length < 9223372036854775808) then
  some ([.one ((.bool (((rallV ((anyOpV (cutC p0) 0)) ((aArS (cutC p0) 2)) ((aArD (cutC p0) 2))) : Int) == (rallV ((anyOpV (cutC p0) 0)) ((aArS (cutC p0) 2)) ((aArD (cutC p0) 2))))), false)], [])
  else
  none)
  else
  (bif decide (((aArS (cutC p0) 2)).length < 9223372036854775808) && decide (((aArD (cutC p0) 2)).length < 9223372036854775808) then
  (bif decide (((aArS (cutC p0) 2)).length < 9223372036854775808) && decide (((aArD (cutC p0) 2)).length < 9223372036854775808) then
  L0 fuel fuel (t0 p0 0) (k0  fuel)
  else
  none)
  else
  none)))
  else
  none))
  else
  none)
  else
  none)
  else
  none)) := by kernel_rfl
theorem s0 (fuel n0 : Nat) (p0 : List Int) (x0q2 : Int) : L0 fuel (n0 + 1) (t0 p0 x0q2) (k0  fuel) =
  (bif (decide ((x0q2 : Int) < (((aArD (cutC p0) 2).length : Nat) : Int))) then
  (idx x0q2 (aArD (cutC p0) 2).length).bind fun j41 =>
  ((aArD (cutC p0) 2)[j41]?).bind fun v42 =>
  (bif (decide ((v42 : Int) < (rallV 4 ((aArS (cutC p0) 2)) ((aArD (cutC p0) 2))))) then
  some ([.one ((.bool false), false)], [])
  else
  (idx x0q2 (aArD (cutC p0) 2).length).bind fun j43 =>
  ((aArD (cutC p0) 2)[j43]?).bind fun v44 =>
  (bif (decide ((v44 : Int) > (rallV 5 ((aArS (cutC p0) 2)) ((aArD (cutC p0) 2))))) then
  some ([.one ((.bool false), false)], [])
  else
  L0 fuel n0 (t0 p0 ((IntKind.wrap .i64 (x0q2 + 1)))) (k0  fuel)))
  else
  L1 fuel fuel (t1 p0 0) (k1  fuel)) := by kernel_rfl
theorem s1 (fuel n1 : Nat) (p0 : List Int) (x1q2 : Int) : L1 fuel (n1 + 1) (t1 p0 x1q2) (k1  fuel) =
  (bif (decide ((x1q2 : Int) < (((aArD (cutC p0) 2).length : Nat) : Int))) then
  (idx x1q2 (aArD (cutC p0) 2).length).bind fun j51 =>
  ((aArD (cutC p0) 2)[j51]?).bind fun v52 =>
  (bif ((v52 : Int) == (rallV 4 ((aArS (cutC p0) 2)) ((aArD (cutC p0) 2)))) then
  L2 fuel fuel (t2 p0 0) (k2  fuel)
  else
  L1 fuel n1 (t1 p0 ((IntKind.wrap .i64 (x1q2 + 1)))) (k1  fuel))
  else
  some ([.one ((.bool false), false)], [])) := by kernel_rfl
theorem s2 (fuel n2 : Nat) (p0 : List Int) (x2q2 : Int) : L2 fuel (n2 + 1) (t2 p0 x2q2) (k2  fuel) =
  (bif (decide ((x2q2 : Int) < (((aArD (cutC p0) 2).length : Nat) : Int))) then
  (idx x2q2 (aArD (cutC p0) 2).length).bind fun j55 =>
  ((aArD (cutC p0) 2)[j55]?).bind fun v56 =>
  (bif ((v56 : Int) == (rallV 5 ((aArS (cutC p0) 2)) ((aArD (cutC p0) 2)))) then
  some ([.one ((.bool true), false)], [])
  else
  L2 fuel n2 (t2 p0 ((IntKind.wrap .i64 (x2q2 + 1)))) (k2  fuel))
  else
  some ([.one ((.bool false), false)], [])) := by kernel_rfl
end laws_FnReduceAllOrder
theorem laws_FnReduceAllOrder.ok_of (hX : ∀ E ∈ laws_FnReduceAllOrder.X, CallSpec Try.prog E) (h : ∀ (bs : List Int), (bytesB bs) = true → ∃ fuel, runF Try.prog laws_FnReduceAllOrder.X laws_FnReduceAllOrder.I 4 fuel 8 Try.f8 [.d (.ints .u8 bs)] = some ([.one ((.bool true), false)], [])) : CallSpec Try.prog laws_FnReduceAllOrder.E :=
  callSpec_of (d := 4) hX (by kernel_rfl) laws_FnReduceAllOrder.I_ok (by kernel_rfl) (by kernel_rfl) (by kernel_rfl) (fun _ _ _ _ h => by dsimp only [laws_FnReduceAllOrder.E] at h; cases h) (fun xs hp => by
    dsimp only [laws_FnReduceAllOrder.E] at hp ⊢
    split at hp
    · exact h _ hp
    · cases hp)
theorem laws_FnReduceAllOrder.ok : CallSpec Try.prog laws_FnReduceAllOrder.E := laws_FnReduceAllOrder.ok_of (by simp [laws_FnReduceAllOrder.X, spec_DrawReduceAll.ok, impl_ReduceAll.ok, spec_ReduceAll.ok, impl_ValidArray.ok]) fun bs h => by
  obtain ⟨F, hF⟩ : ∃ F : Nat, 4000 < F := ⟨4001, by omega⟩
  refine ⟨F, ?_⟩
  rw [laws_FnReduceAllOrder.e]
  by_cases hl : ((bs.length : Nat) : Int) > 1048576
  · rw [decide_eq_true hl]; rfl
  rw [decide_eq_false hl, cond_false, h, cond_true]
  have r0 := cut_ok h (p := 0) (by omega) (by omega)
  obtain ⟨a1, a2, _, _⟩ := aAr_bd (rd_le (q := 2) r0 (by omega) (by omega)) (by omega)
  obtain ⟨op, hop⟩ : ∃ x, anyOpV (cutC bs) 0 = x := ⟨_, rfl⟩
  obtain ⟨sh, hsh⟩ : ∃ x, aArS (cutC bs) 2 = x := ⟨_, rfl⟩
  obtain ⟨da, hda⟩ : ∃ x, aArD (cutC bs) 2 = x := ⟨_, rfl⟩
  rw [hsh] at a1
  rw [hda] at a2
  have g1 := lt_of (xs := sh) (by omega)
  have g2 := lt_of (xs := da) (by omega)
  simp only [hop, hsh, hda]
  cases hv : validA sh da with
  | false => simp only [Bool.and_self, Bool.and_true, Bool.true_and, cond_true, cond_false, Bool.not_true, Bool.not_false, bne_self_eq_false, beq_self_eq_true, decide_true, eq_self, g1, g2, hv]
  | true =>
    cases h0 : (((da.length : Nat) : Int) == 0) with
    | true => simp only [Bool.and_self, Bool.and_true, Bool.true_and, cond_true, cond_false, Bool.not_true, Bool.not_false, bne_self_eq_false, beq_self_eq_true, decide_true, eq_self, g1, g2, hv, h0]
    | false =>
      have hl := validA_len hv
      have hne : da ≠ [] := fun e => by subst e; exact absurd h0 (by decide)
      obtain ⟨m1, m2⟩ := red_min hne
      obtain ⟨x1, x2⟩ := red_max hne
      have e4 : rallV 4 sh da = redF 4 da := by simp only [rallV, hv]; rfl
      have e5 : rallV 5 sh da = redF 5 da := by simp only [rallV, hv]; rfl
      obtain ⟨p4, q4, r4⟩ := List.getElem_of_mem m1
      obtain ⟨p5, q5, r5⟩ := List.getElem_of_mem x1
      have s4 : da.getD p4 0 = redF 4 da := by simp [q4, r4]
      have s5 : da.getD p5 0 = redF 5 da := by simp [q5, r5]
      simp only [Bool.and_self, Bool.and_true, Bool.true_and, cond_true, cond_false, Bool.not_true, Bool.not_false, bne_self_eq_false, beq_self_eq_true, decide_true, eq_self, g1, g2, hv, h0]
      refine run_loop (N := da.length) (fun n j (_ : Unit) => laws_FnReduceAllOrder.L0 F n (laws_FnReduceAllOrder.t0 bs (j : Int)) (laws_FnReduceAllOrder.k0 F)) (fun _ _ => True) ?_ ?_ F 0 () (by omega) (by omega) trivial
      · intro n _ _
        rw [laws_FnReduceAllOrder.s0]
        simp only [hsh, hda]
        rw [dge (by omega), cond_false]
        refine cnt_loop (N := p4 + 1) (fun n j (_ : Unit) => laws_FnReduceAllOrder.L1 F n (laws_FnReduceAllOrder.t1 bs (j : Int)) (laws_FnReduceAllOrder.k1 F)) (fun j _ => j ≤ p4) ?_ ?_ F 0 () (by omega) (by omega) (by omega)
        · intro n _ hI
          exact absurd hI (by omega)
        · intro n j _ hj hI
          have jl : j < da.length := by omega
          rw [laws_FnReduceAllOrder.s1]
          simp only [hsh, hda, e4]
          rw [dlt jl, cond_true, idx_nat jl, w1 (by omega)]
          simp only [Option.bind_some, getD_get jl]
          cases he : (da.getD j 0 == redF 4 da) with
          | true =>
            refine .inl ?_
            rw [cond_true]
            refine cnt_loop (N := p5 + 1) (fun n j (_ : Unit) => laws_FnReduceAllOrder.L2 F n (laws_FnReduceAllOrder.t2 bs (j : Int)) (laws_FnReduceAllOrder.k2 F)) (fun j _ => j ≤ p5) ?_ ?_ F 0 () (by omega) (by omega) (by omega)
            · intro n _ hI
              exact absurd hI (by omega)
            · intro n j _ hj hI
              have jl : j < da.length := by omega
              rw [laws_FnReduceAllOrder.s2]
              simp only [hsh, hda, e5]
              rw [dlt jl, cond_true, idx_nat jl, w1 (by omega)]
              simp only [Option.bind_some, getD_get jl]
              cases he : (da.getD j 0 == redF 5 da) with
              | true => exact .inl rfl
              | false =>
                refine .inr ⟨(), ?_, rfl⟩
                by_cases hj5 : j = p5
                · subst hj5
                  rw [s5, beq_self_eq_true] at he
                  cases he
                · omega
          | false =>
            refine .inr ⟨(), ?_, rfl⟩
            by_cases hj4 : j = p4
            · subst hj4
              rw [s4, beq_self_eq_true] at he
              cases he
            · omega
      · intro n j _ hj _
        have y1 := m2 _ (mem_getD hj)
        have y2 := x2 _ (mem_getD hj)
        rw [laws_FnReduceAllOrder.s0]
        simp only [hsh, hda, e4, e5]
        rw [dlt hj, cond_true, idx_nat hj, w1 (by omega)]
        simp only [Option.bind_some, getD_get hj]
        rw [decide_eq_false (p := da.getD j 0 < redF 4 da) (by omega), cond_false, decide_eq_false (p := da.getD j 0 > redF 5 da) (by omega), cond_false]
        exact ⟨(), trivial, rfl⟩

end Go.Ab
