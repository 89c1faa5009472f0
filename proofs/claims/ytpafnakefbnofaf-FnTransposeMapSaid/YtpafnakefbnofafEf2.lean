import Derived.Test.YtpafnakefbnofafEf1
import Derived.Test.YtpafnakefbnofafProg
import Derived.Test.YtpafnakefbnofafChecked
open Go Go.Ab Go.Proofs
set_option maxRecDepth 100000
set_option linter.unusedVariables false
set_option linter.unusedSimpArgs false
namespace Go.Ab
namespace laws_FnMoveAxesItem
noncomputable def E : Entry := ⟨6, true, false, fun | [.d (.ints .u8 bs)] => bytesB bs | _ => false, fun | [.d (.ints .u8 bs)] => ([.one ((.bool true), false)], []) | _ => ([], []), fun _ => [], false, fun _ => none⟩
end laws_FnMoveAxesItem
namespace laws_FnMoveAxesItem
noncomputable def X : List Entry := [spec_DrawMoveAxes.E, impl_MoveAxes.E, spec_MoveAxes.E, laws_equalArray.E, impl_PlaceOf.E, impl_ItemAt.E]
noncomputable def I : List Inl := [⟨6, Try.f6, ⟨[21, 27, 33, 68], [(1000009, [0, 1, 2, 6, 7, 8, 10, 11, 12, 13, 14, 15, 16, 17, 18, 19, 20, 21, 22, 23, 24, 25, 26, 27, 28, 29, 30, 31, 32, 33, 34, 35, 36, 37, 38, 39, 40, 41, 42, 43, 44, 45, 46, 47, 48, 49, 50, 51, 52, 53, 54, 55, 56, 57, 58, 59, 60, 61, 62, 63, 64, 65, 66, 67, 68, 69, 70, 71, 72, 73, 74, 75, 76, 77, 78, 79, 80, 81, 82, 83, 84, 85, 86, 87, 88, 89, 90, 91, 92, 93, 94, 95, 96, 97, 98, 99, 100, 101, 102, 103, 104, 105, 106, 107, 108, 109, 110]), (1000014, [0, 1, 2, 6, 7, 8, 14, 15, 16, 17, 18, 19, 20, 21, 22, 23, 24, 25, 26, 27, 28, 29, 30, 31, 32, 33, 34, 35, 36, 37, 38, 39, 40, 41, 42, 43, 44, 45, 46, 47, 48, 49, 50, 51, 52, 53, 54, 55, 56, 57, 58, 59, 60, 61, 62, 63, 64, 65, 66, 67, 68, 69, 70, 71, 72, 73, 74, 75, 76, 77, 78, 79, 80, 81, 82, 83, 84, 85, 86, 87, 88, 89, 90, 91, 92, 93, 94, 95, 96, 97, 98, 99, 100, 101, 102, 103, 104, 105, 106, 107, 108, 109, 110])], [], [(16, [0, 1, 2, 5, 6, 3, 4, 7, 8, 9, 10])], [], []⟩⟩]
theorem I_ok : ∀ i ∈ I, Try.prog.funcs[i.f]? = some i.fn ∧ (i.fn.name == "runtime.NumGoroutine") = false := by
  intro i hi
  simp only [I, List.mem_cons, List.not_mem_nil, or_false] at hi
  subst hi
  exact ⟨by kernel_rfl, by kernel_rfl⟩
noncomputable abbrev L0 (fuel n : Nat) (s : St) (k : Kont) := lAt Try.prog X I fuel true 0 false 6 (bodyOf Try.f6) [1, 1, 1, 1, 1, 1, 0, 1, 0] n s k
noncomputable abbrev k0  (fuel : Nat) : Kont := (kAt Try.prog X I fuel true 0 false 6 (bodyOf Try.f6) [1, 1, 1, 1, 1, 1, 0, 1, 0] [] (endK Try.prog Try.f6))
noncomputable def t0 (p0 : List Int) (x0q1 : Int) : St := ⟨[.dead, .dead, .dead, (.ptr 1000000000 0 0), (.imm (.ints .i64 (dMO (cutC p0)))), (.ptr 1000000001 0 0), .dead, .dead, .dead, (.imm (.int .i64 x0q1)), .dead, .dead, .dead, .dead, .dead, .dead, .dead, .dead, .dead, .dead, .dead, .dead, .dead, .dead, .dead, .dead, .dead, .dead, .dead, .dead, .dead, .dead, .dead, .dead, .dead, .dead, .dead, .dead, .dead, .dead, .dead, .dead, .dead, .dead, .dead, .dead, .dead, .dead, .dead, .dead, .dead, .dead, .dead, .dead, .dead, .dead, .dead, .dead, .dead, .dead, .dead, .dead, .dead, .dead, .dead, .dead, .dead, .dead, .dead, .dead, .dead, .dead, .dead, .dead, .dead, .dead, .dead, .dead, .dead, .dead, .dead, .dead, .dead, .dead, .dead, .dead, .dead, .dead, .dead, .dead, .dead, .dead, .dead, .dead, .dead, .dead, .dead, .dead, .dead, .dead, .dead, .dead, .dead, .dead, .dead, .dead, .dead, .dead, .dead, .dead, .dead], hOf [(1000000000, (.box [(.imm (.ints .i64 (aArS (cutC p0) 0))), (.imm (.ints .i64 (aArD (cutC p0) 0)))])), (1000000001, (.box [(.all 1000000002 1), (.all 1000000003 1)])), (1000000002, (.ints .i64 (mvS ((aArS (cutC p0) 0)) ((aArD (cutC p0) 0)) ((dMO (cutC p0)))))), (1000000003, (.ints .i64 (mvD ((aArS (cutC p0) 0)) ((aArD (cutC p0) 0)) ((dMO (cutC p0))))))], [], []⟩
noncomputable abbrev L1 (fuel n : Nat) (s : St) (k : Kont) := lAt Try.prog X I fuel true 0 false 6 (bodyOf Try.f6) [1, 1, 1, 1, 1, 1, 0, 1, 0, 0, 1, 0, 0, 1, 1, 0, 1, 0] n s k
noncomputable abbrev k1 (n0 : Nat) (fuel : Nat) : Kont := (kAt Try.prog X I fuel true 0 false 6 (bodyOf Try.f6) [1, 1, 1, 1, 1, 1, 0, 1, 0, 0, 1, 0, 0, 1, 1, 0, 1, 0] [n0] (endK Try.prog Try.f6))
noncomputable def t1 (p0 : List Int) (x0q1 : Int) (x1q3 : Int) (x1q7 : List Int) : St := ⟨[.dead, .dead, .dead, (.ptr 1000000000 0 0), (.imm (.ints .i64 (dMO (cutC p0)))), (.ptr 1000000001 0 0), .dead, .dead, .dead, (.imm (.int .i64 x0q1)), (.all 1000000002 1), (.imm (.bool (plB ((mvS ((aArS (cutC p0) 0)) ((aArD (cutC p0) 0)) ((dMO (cutC p0))))) x0q1))), (.all 1000000003 1), (.imm (.int .i64 x1q3)), .dead, .dead, .dead, .dead, .dead, .dead, .dead, .dead, .dead, .dead, .dead, .dead, .dead, .dead, .dead, .dead, .dead, .dead, .dead, .dead, .dead, .dead, .dead, .dead, .dead, .dead, .dead, .dead, .dead, .dead, .dead, .dead, .dead, .dead, .dead, .dead, .dead, .dead, .dead, .dead, .dead, .dead, .dead, .dead, .dead, .dead, .dead, .dead, .dead, .dead, .dead, .dead, .dead, .dead, .dead, .dead, .dead, .dead, .dead, .dead, .dead, .dead, .dead, .dead, .dead, .dead, .dead, .dead, .dead, .dead, .dead, .dead, .dead, .dead, .dead, .dead, .dead, .dead, .dead, .dead, .dead, .dead, .dead, .dead, .dead, .dead, .dead, .dead, .dead, .dead, .dead, .dead, .dead, .dead, .dead, .dead, .dead], hOf [(1000000000, (.box [(.imm (.ints .i64 (aArS (cutC p0) 0))), (.imm (.ints .i64 (aArD (cutC p0) 0)))])), (1000000001, (.box [(.all 1000000004 1), (.all 1000000005 1)])), (1000000002, (.ints .i64 (plD ((mvS ((aArS (cutC p0) 0)) ((aArD (cutC p0) 0)) ((dMO (cutC p0))))) x0q1))), (1000000003, (.ints .i64 x1q7)), (1000000004, (.ints .i64 (mvS ((aArS (cutC p0) 0)) ((aArD (cutC p0) 0)) ((dMO (cutC p0)))))), (1000000005, (.ints .i64 (mvD ((aArS (cutC p0) 0)) ((aArD (cutC p0) 0)) ((dMO (cutC p0))))))], [], []⟩
theorem e (fuel : Nat) (p0 : List Int) : runF Try.prog X I 0 fuel 6 Try.f6 [.d (.ints .u8 p0)] =
  (bif (decide ((((p0.length : Nat) : Int) : Int) > 1048576)) then
  some ([.one ((.bool true), false)], [])
  else
  (bif bytesB p0 then
  (bif decide (((aArS (cutC p0) 0)).length < 9223372036854775808) && decide (((aArD (cutC p0) 0)).length < 9223372036854775808) && decide (((dMO (cutC p0))).length < 9223372036854775808) then
  (bif decide (((aArS (cutC p0) 0)).length < 9223372036854775808) && decide (((aArD (cutC p0) 0)).length < 9223372036854775808) && decide (((dMO (cutC p0))).length < 9223372036854775808) then
  (bif decide (((mvS ((aArS (cutC p0) 0)) ((aArD (cutC p0) 0)) ((dMO (cutC p0))))).length < 9223372036854775808) && decide (((mvD ((aArS (cutC p0) 0)) ((aArD (cutC p0) 0)) ((dMO (cutC p0))))).length < 9223372036854775808) && decide (((mvS ((aArS (cutC p0) 0)) ((aArD (cutC p0) 0)) ((dMO (cutC p0))))).length < 9223372036854775808) && decide (((mvD ((aArS (cutC p0) 0)) ((aArD (cutC p0) 0)) ((dMO (cutC p0))))).length < 9223372036854775808) then
  (bif (!(decide (((mvS ((aArS (cutC p0) 0)) ((aArD (cutC p0) 0)) ((dMO (cutC p0))))) = ((mvS ((aArS (cutC p0) 0)) ((aArD (cutC p0) 0)) ((dMO (cutC p0)))))) && decide (((mvD ((aArS (cutC p0) 0)) ((aArD (cutC p0) 0)) ((dMO (cutC p0))))) = ((mvD ((aArS (cutC p0) 0)) ((aArD (cutC p0) 0)) ((dMO (cutC p0)))))))) then
  (bif decide (((mvS ((aArS (cutC p0) 0)) ((aArD (cutC p0) 0)) ((dMO (cutC p0))))).length < 9223372036854775808) && decide (((mvD ((aArS (cutC p0) 0)) ((aArD (cutC p0) 0)) ((dMO (cutC p0))))).length < 9223372036854775808) && decide (((mvS ((aArS (cutC p0) 0)) ((aArD (cutC p0) 0)) ((dMO (cutC p0))))).length < 9223372036854775808) && decide (((mvD ((aArS (cutC p0) 0)) ((aArD (cutC p0) 0)) ((dMO (cutC p0))))).length < 9223372036854775808) then
  (bif (decide (((mvS ((aArS (cutC p0) 0)) ((aArD (cutC p0) 0)) ((dMO (cutC p0))))) = ((mvS ((aArS (cutC p0) 0)) ((aArD (cutC p0) 0)) ((dMO (cutC p0)))))) && decide (((mvD ((aArS (cutC p0) 0)) ((aArD (cutC p0) 0)) ((dMO (cutC p0))))) = ((mvD ((aArS (cutC p0) 0)) ((aArD (cutC p0) 0)) ((dMO (cutC p0))))))) then
  some ([.one ((.bool ((mvB ((aArS (cutC p0) 0)) ((aArD (cutC p0) 0)) ((dMO (cutC p0)))) == (mvB ((aArS (cutC p0) 0)) ((aArD (cutC p0) 0)) ((dMO (cutC p0)))))), false)], [])
  else
  some ([.one ((.bool false), false)], []))
  else
  none)
  else
  (bif (!((mvB ((aArS (cutC p0) 0)) ((aArD (cutC p0) 0)) ((dMO (cutC p0)))) == (mvB ((aArS (cutC p0) 0)) ((aArD (cutC p0) 0)) ((dMO (cutC p0)))))) then
  (bif decide (((mvS ((aArS (cutC p0) 0)) ((aArD (cutC p0) 0)) ((dMO (cutC p0))))).length < 9223372036854775808) && decide (((mvD ((aArS (cutC p0) 0)) ((aArD (cutC p0) 0)) ((dMO (cutC p0))))).length < 9223372036854775808) && decide (((mvS ((aArS (cutC p0) 0)) ((aArD (cutC p0) 0)) ((dMO (cutC p0))))).length < 9223372036854775808) && decide (((mvD ((aArS (cutC p0) 0)) ((aArD (cutC p0) 0)) ((dMO (cutC p0))))).length < 9223372036854775808) then
  (bif (decide (((mvS ((aArS (cutC p0) 0)) ((aArD (cutC p0) 0)) ((dMO (cutC p0))))) = ((mvS ((aArS (cutC p0) 0)) ((aArD (cutC p0) 0)) ((dMO (cutC p0)))))) && decide (((mvD ((aArS (cutC p0) 0)) ((aArD (cutC p0) 0)) ((dMO (cutC p0))))) = ((mvD ((aArS (cutC p0) 0)) ((aArD (cutC p0) 0)) ((dMO (cutC p0))))))) then
  some ([.one ((.bool ((mvB ((aArS (cutC p0) 0)) ((aArD (cutC p0) 0)) ((dMO (cutC p0)))) == (mvB ((aArS (cutC p0) 0)) ((aArD (cutC p0) 0)) ((dMO (cutC p0)))))), false)], [])
  else
  some ([.one ((.bool false), false)], []))
  else
  none)
  else
  (bif (!(mvB ((aArS (cutC p0) 0)) ((aArD (cutC p0) 0)) ((dMO (cutC p0))))) then
  (bif decide (((mvS ((aArS (cutC p0) 0)) ((aArD (cutC p0) 0)) ((dMO (cutC p0))))).length < 9223372036854775808) && decide (((mvD ((aArS (cutC p0) 0)) ((aArD (cutC p0) 0)) ((dMO (cutC p0))))).length < 9223372036854775808) && decide (((mvS ((aArS (cutC p0) 0)) ((aArD (cutC p0) 0)) ((dMO (cutC p0))))).length < 9223372036854775808) && decide (((mvD ((aArS (cutC p0) 0)) ((aArD (cutC p0) 0)) ((dMO (cutC p0))))).length < 9223372036854775808) then
  (bif (decide (((mvS ((aArS (cutC p0) 0)) ((aArD (cutC p0) 0)) ((dMO (cutC p0))))) = ((mvS ((aArS (cutC p0) 0)) ((aArD (cutC p0) 0)) ((dMO (cutC p0)))))) && decide (((mvD ((aArS (cutC p0) 0)) ((aArD (cutC p0) 0)) ((dMO (cutC p0))))) = ((mvD ((aArS (cutC p0) 0)) ((aArD (cutC p0) 0)) ((dMO (cutC p0))))))) then
  some ([.one ((.bool ((mvB ((aArS (cutC p0) 0)) ((aArD (cutC p0) 0)) ((dMO (cutC p0)))) == (mvB ((aArS (cutC p0) 0)) ((aArD (cutC p0) 0)) ((dMO (cutC p0)))))), false)], [])
  else
  some ([.one ((.bool false), false)], []))
  else
  none)
  else
  L0 fuel fuel (t0 p0 0) (k0  fuel))))
  else
  none)
  else
  none)
  else
  none)
  else
  none)) := by kernel_rfl
theorem s0 (fuel n0 : Nat) (p0 : List Int) (x0q1 : Int) : L0 fuel (n0 + 1) (t0 p0 x0q1) (k0  fuel) =
  (bif (decide ((x0q1 : Int) < (((mvD ((aArS (cutC p0) 0)) ((aArD (cutC p0) 0)) ((dMO (cutC p0)))).length : Nat) : Int))) then
  (bif decide (((mvS ((aArS (cutC p0) 0)) ((aArD (cutC p0) 0)) ((dMO (cutC p0))))).length < 9223372036854775808) then
  (bif decide (0 ≤ ((((plD ((mvS ((aArS (cutC p0) 0)) ((aArD (cutC p0) 0)) ((dMO (cutC p0))))) x0q1).length : Nat) : Int) : Int)) && decide (((((plD ((mvS ((aArS (cutC p0) 0)) ((aArD (cutC p0) 0)) ((dMO (cutC p0))))) x0q1).length : Nat) : Int) : Int) ≤ (((plD ((mvS ((aArS (cutC p0) 0)) ((aArD (cutC p0) 0)) ((dMO (cutC p0))))) x0q1).length : Nat) : Int)) && decide (((((plD ((mvS ((aArS (cutC p0) 0)) ((aArD (cutC p0) 0)) ((dMO (cutC p0))))) x0q1).length : Nat) : Int) : Int) ≤ 1152921504606846976) && decide (((8 : Nat) : Int) * (((plD ((mvS ((aArS (cutC p0) 0)) ((aArD (cutC p0) 0)) ((dMO (cutC p0))))) x0q1).length : Nat) : Int) ≤ 281474976710656) then
  L1 fuel fuel (t1 p0 x0q1 0 ((List.replicate ((((plD ((mvS ((aArS (cutC p0) 0)) ((aArD (cutC p0) 0)) ((dMO (cutC p0))))) x0q1).length : Nat) : Int)).toNat (0 : Int)))) (k1 n0 fuel)
  else
  none)
  else
  none)
  else
  some ([.one ((.bool true), false)], [])) := by kernel_rfl
theorem s1 (fuel n0 n1 : Nat) (p0 : List Int) (x0q1 : Int) (x1q3 : Int) (x1q7 : List Int) : L1 fuel (n1 + 1) (t1 p0 x0q1 x1q3 x1q7) (k1 n0 fuel) =
  (bif (decide ((x1q3 : Int) < (((plD ((mvS ((aArS (cutC p0) 0)) ((aArD (cutC p0) 0)) ((dMO (cutC p0))))) x0q1).length : Nat) : Int))) then
  (idx x1q3 (dMO (cutC p0)).length).bind fun j43 =>
  ((dMO (cutC p0))[j43]?).bind fun v44 =>
  (idx x1q3 (plD ((mvS ((aArS (cutC p0) 0)) ((aArD (cutC p0) 0)) ((dMO (cutC p0))))) x0q1).length).bind fun j45 =>
  ((plD ((mvS ((aArS (cutC p0) 0)) ((aArD (cutC p0) 0)) ((dMO (cutC p0))))) x0q1)[j45]?).bind fun v46 =>
  (idx v44 x1q7.length).bind fun j47 =>
  (bif decide (j47 < x1q7.length) then
  L1 fuel n1 (t1 p0 x0q1 ((IntKind.wrap .i64 (x1q3 + 1))) ((x1q7.set j47 v46))) (k1 n0 fuel)
  else
  none)
  else
  (bif decide (((aArS (cutC p0) 0)).length < 9223372036854775808) && decide (((aArD (cutC p0) 0)).length < 9223372036854775808) && decide (x1q7.length < 9223372036854775808) then
  (bif (!(plB ((mvS ((aArS (cutC p0) 0)) ((aArD (cutC p0) 0)) ((dMO (cutC p0))))) x0q1)) then
  some ([.one ((.bool false), false)], [])
  else
  (bif (!(itemB ((aArS (cutC p0) 0)) ((aArD (cutC p0) 0)) x1q7)) then
  some ([.one ((.bool false), false)], [])
  else
  (idx x0q1 (mvD ((aArS (cutC p0) 0)) ((aArD (cutC p0) 0)) ((dMO (cutC p0)))).length).bind fun j48 =>
  ((mvD ((aArS (cutC p0) 0)) ((aArD (cutC p0) 0)) ((dMO (cutC p0))))[j48]?).bind fun v49 =>
  (bif (((itemV ((aArS (cutC p0) 0)) ((aArD (cutC p0) 0)) x1q7) : Int) != v49) then
  some ([.one ((.bool false), false)], [])
  else
  L0 fuel n0 (t0 p0 ((IntKind.wrap .i64 (x0q1 + 1)))) (k0  fuel))))
  else
  none)) := by kernel_rfl
end laws_FnMoveAxesItem
theorem laws_FnMoveAxesItem.ok_of (hX : ∀ E ∈ laws_FnMoveAxesItem.X, CallSpec Try.prog E) (h : ∀ (bs : List Int), (bytesB bs) = true → ∃ fuel, runF Try.prog laws_FnMoveAxesItem.X laws_FnMoveAxesItem.I 0 fuel 6 Try.f6 [.d (.ints .u8 bs)] = some ([.one ((.bool true), false)], [])) : CallSpec Try.prog laws_FnMoveAxesItem.E :=
  callSpec_of (d := 0) hX (by kernel_rfl) laws_FnMoveAxesItem.I_ok (by kernel_rfl) (by kernel_rfl) (by kernel_rfl) (fun _ _ _ _ h => by dsimp only [laws_FnMoveAxesItem.E] at h; cases h) (fun xs hp => by
    dsimp only [laws_FnMoveAxesItem.E] at hp ⊢
    split at hp
    · exact h _ hp
    · cases hp)
theorem laws_FnMoveAxesItem.ok : CallSpec Try.prog laws_FnMoveAxesItem.E := laws_FnMoveAxesItem.ok_of (by simp [laws_FnMoveAxesItem.X, spec_DrawMoveAxes.ok, impl_MoveAxes.ok, spec_MoveAxes.ok, laws_equalArray.ok, impl_PlaceOf.ok, impl_ItemAt.ok]) fun bs h => by
  obtain ⟨F, hF⟩ : ∃ F : Nat, 4000 < F := ⟨4001, by omega⟩
  refine ⟨F, ?_⟩
  rw [laws_FnMoveAxesItem.e]
  by_cases hl : ((bs.length : Nat) : Int) > 1048576
  · rw [decide_eq_true hl]; rfl
  rw [decide_eq_false hl, cond_false, h, cond_true]
  have r0 := cut_ok h (p := 0) (by omega) (by omega)
  obtain ⟨a1, a2, _, _⟩ := aAr_bd r0 (by omega)
  have a3 := dMO_len r0
  obtain ⟨sh, hsh⟩ : ∃ x, aArS (cutC bs) 0 = x := ⟨_, rfl⟩
  obtain ⟨da, hda⟩ : ∃ x, aArD (cutC bs) 0 = x := ⟨_, rfl⟩
  obtain ⟨od, hod⟩ : ∃ x, dMO (cutC bs) = x := ⟨_, rfl⟩
  rw [hsh] at a1
  rw [hda] at a2
  rw [hod] at a3
  have g1 := lt_of (xs := sh) (by omega)
  have g2 := lt_of (xs := da) (by omega)
  have g3 := lt_of (xs := od) (by omega)
  have ml := mv_len sh da od
  have g4 := lt_of (xs := mvS sh da od) (by omega)
  have g5 := lt_of (xs := mvD sh da od) (by omega)
  simp only [hsh, hda, hod]
  cases hb : mvB sh da od with
  | false => simp only [Bool.and_self, Bool.and_true, Bool.true_and, cond_true, cond_false, Bool.not_true, Bool.not_false, bne_self_eq_false, beq_self_eq_true, decide_true, eq_self, g1, g2, g3, g4, g5, hb]
  | true =>
    obtain ⟨h1, h2, h3, h4⟩ := mvB_inv hb
    obtain ⟨b1, b2, b3⟩ := mv_back hb
    have mS : mvS sh da od = mvSh sh od := by simp only [mvS, hb, cond_true]
    have mD : mvD sh da od = mvN sh da od := by simp only [mvD, hb, cond_true]
    have hoS : obS od = obN od := by simp only [obS, h1, cond_true]
    have hN : (mvN sh da od).length = da.length := by simp only [mvN, tab_length]
    have hL := mvSh_length sh od
    have hbl := obN_length od
    have hl := validA_len h2
    have g6 := lt_of (xs := obN od) (by omega)
    have g7 := lt_of (xs := mvSh sh od) (by omega)
    have g8 := lt_of (xs := mvN sh da od) (by omega)
    simp only [Bool.and_self, Bool.and_true, Bool.true_and, cond_true, cond_false, Bool.not_true, Bool.not_false, bne_self_eq_false, beq_self_eq_true, decide_true, eq_self, g1, g2, g3, g4, g5, hb]
    have hg := ob_get h1
    have hdp := data_prod h2
    have hvol := volS h4.vs
    refine run_loop (N := da.length) (fun m n (_ : Unit) => laws_FnMoveAxesItem.L0 F m (laws_FnMoveAxesItem.t0 bs (n : Int)) (laws_FnMoveAxesItem.k0 F)) (fun _ _ => True) ?_ ?_ F 0 () (by omega) (by omega) trivial
    · intro m _ _
      rw [laws_FnMoveAxesItem.s0]
      simp only [hsh, hda, hod, mS, mD]
      rw [dge (by omega), cond_false]
    · intro m n _ hn _
      obtain ⟨m1, m2, m3, m4, m5⟩ := mv_from hb hn
      have hpb : plB (mvSh sh od) (n : Int) = true := by
        simp only [plB, h4.vs, hvol.1, Bool.true_and, Bool.and_eq_true, decide_eq_true_eq]
        rw [h4.pr]; omega
      have hpd : plD (mvSh sh od) (n : Int) = plN (mvSh sh od) n := by simp only [plD, hpb, cond_true, Int.toNat_natCast]
      have hpl : (plN (mvSh sh od) n).length = od.length := by rw [plN_length, hL]
      rw [laws_FnMoveAxesItem.s0]
      simp only [hsh, hda, hod, mS, mD, hpd, hpl, Int.toNat_natCast]
      rw [show decide ((n : Int) < (((mvN sh da od).length : Nat) : Int)) = true from decide_eq_true (by omega), cond_true, g7, cond_true, mkOk (by omega) (by omega), cond_true]
      refine ⟨(), trivial, ?_⟩
      refine run_loop (N := od.length) (fun q i old => laws_FnMoveAxesItem.L1 F q (laws_FnMoveAxesItem.t1 bs (n : Int) (i : Int) old) (laws_FnMoveAxesItem.k1 m F)) (fun i old => Filled od.length (fun k => od.idxOf (k : Int)) (fun k => (plN (mvSh sh od) n).getD (od.idxOf (k : Int)) 0) i old) ?_ ?_ F 0 (List.replicate od.length 0) (by omega) (by omega) (Filled.zero (by rw [List.length_replicate]))
      · intro q old hI
        have hold : old = oldP od (plN (mvSh sh od) n) := hI.all (ob_lt h1)
        have hol := hI.len
        clear hI
        subst hold
        have hib : itemB sh da (oldP od (plN (mvSh sh od) n)) = true := by simp only [itemB, h2, m2, Bool.and_self]
        have hiv : itemV sh da (oldP od (plN (mvSh sh od) n)) = (mvN sh da od).getD n 0 := by
          simp only [itemV, hib, cond_true, m3, mvN]
          rw [tab_getD hn]
        have nN : n < (mvN sh da od).length := by omega
        have g9 := lt_of (xs := oldP od (plN (mvSh sh od) n)) (by omega)
        rw [laws_FnMoveAxesItem.s1]
        simp only [hsh, hda, hod, mS, mD, hpd, hpl]
        rw [dge (by omega), cond_false]
        simp only [Bool.and_self, Bool.and_true, Bool.true_and, cond_true, cond_false, Bool.not_true, Bool.not_false, bne_self_eq_false, beq_self_eq_true, decide_true, eq_self, g1, g2, g9, hpb, hib, idx_nat nN, Option.bind_some, getD_get nN, hiv]
        rw [w1 (by omega)]
      · intro q i old hi hI
        have hol := hI.len
        obtain ⟨q1, q2, q3⟩ := hg i hi
        have ip : i < (plN (mvSh sh od) n).length := by omega
        have hix : idx (od.getD i 0) old.length = some (od.getD i 0).toNat := by
          simp only [idx]
          rw [if_pos (by omega)]
        have gc : ((((od.getD i 0).toNat : Nat) : Int)) = od.getD i 0 := Int.toNat_of_nonneg q1
        rw [laws_FnMoveAxesItem.s1]
        simp only [hsh, hda, hod, mS, mD, hpd]
        rw [show decide ((i : Int) < (((plN (mvSh sh od) n).length : Nat) : Int)) = true from decide_eq_true (by omega), cond_true, idx_nat hi, idx_nat ip, w1 (by omega)]
        simp only [Option.bind_some, getD_get hi, getD_get ip, hix]
        rw [decide_eq_true (by omega), cond_true]
        exact ⟨_, hI.set (fun p hp hr => ob_inj h1 p hp _ q2 hr) (by rw [gc, q3]) (by rw [gc, q3]), rfl⟩

namespace spec_DrawTranspose
noncomputable def E : Entry := ⟨26, false, false, fun | [.d (.ints .u8 bs)] => bytesB bs | _ => false, fun | [.d (.ints .u8 bs)] => ([.agg [((.ints .i64 (aArS (cutC bs) 0)), false), ((.ints .i64 (aArD (cutC bs) 0)), false)]], []) | _ => ([], []), fun _ => [], true, fun _ => none⟩
end spec_DrawTranspose
namespace spec_DrawTranspose
noncomputable def X : List Entry := [spec_newReader.E, spec_anyArray.E]
noncomputable def I : List Inl := [⟨26, Try.f26, ⟨[5], [], [], [], [], []⟩⟩]
theorem I_ok : ∀ i ∈ I, Try.prog.funcs[i.f]? = some i.fn ∧ (i.fn.name == "runtime.NumGoroutine") = false := by
  intro i hi
  simp only [I, List.mem_cons, List.not_mem_nil, or_false] at hi
  subst hi
  exact ⟨by kernel_rfl, by kernel_rfl⟩
theorem e (fuel : Nat) (p0 : List Int) : runF Try.prog X I 0 fuel 26 Try.f26 [.d (.ints .u8 p0)] =
  (bif rdOk ((cutC p0)) 0 && decide ((0 : Int) ≤ 1000000) then
  some ([.agg [((.ints .i64 (aArS ((cutC p0)) 0)), false), ((.ints .i64 (aArD ((cutC p0)) 0)), false)]], [])
  else
  none) := by kernel_rfl
end spec_DrawTranspose
theorem spec_DrawTranspose.ok_of (hX : ∀ E ∈ spec_DrawTranspose.X, CallSpec Try.prog E) (h : ∀ (bs : List Int), (bytesB bs) = true → ∃ fuel, runF Try.prog spec_DrawTranspose.X spec_DrawTranspose.I 0 fuel 26 Try.f26 [.d (.ints .u8 bs)] = some ([.agg [((.ints .i64 (aArS (cutC bs) 0)), false), ((.ints .i64 (aArD (cutC bs) 0)), false)]], [])) : CallSpec Try.prog spec_DrawTranspose.E :=
  callSpec_of (d := 0) hX (by kernel_rfl) spec_DrawTranspose.I_ok (by kernel_rfl) (by kernel_rfl) (by kernel_rfl) (fun _ _ _ _ h => by dsimp only [spec_DrawTranspose.E] at h; cases h) (fun xs hp => by
    dsimp only [spec_DrawTranspose.E] at hp ⊢
    split at hp
    · exact h _ hp
    · cases hp)
theorem spec_DrawTranspose.ok : CallSpec Try.prog spec_DrawTranspose.E := spec_DrawTranspose.ok_of (by simp [spec_DrawTranspose.X, spec_newReader.ok, spec_anyArray.ok]) fun bs h => ⟨0, by
  rw [spec_DrawTranspose.e, cut_ok h (by omega) (by omega)]
  rfl⟩

namespace impl_CountTo
noncomputable def E : Entry := ⟨39, false, false, fun | [.d (.int .i64 n)] => true | _ => false, fun | [.d (.int .i64 n)] => ([.agg [((.ints .i64 (cntS n)), true), ((.ints .i64 (cntD n)), true)]], []) | _ => ([], []), fun _ => [], true, fun _ => none⟩
end impl_CountTo
namespace impl_CountTo
noncomputable def X : List Entry := []
noncomputable def I : List Inl := [⟨39, Try.f39, ⟨[], [(1000005, [1, 4, 5, 6, 7, 8, 9, 10, 11, 12, 13, 14, 17, 18, 19, 20, 21, 22, 23, 24, 25, 26, 27])], [], [], [], []⟩⟩]
theorem I_ok : ∀ i ∈ I, Try.prog.funcs[i.f]? = some i.fn ∧ (i.fn.name == "runtime.NumGoroutine") = false := by
  intro i hi
  simp only [I, List.mem_cons, List.not_mem_nil, or_false] at hi
  subst hi
  exact ⟨by kernel_rfl, by kernel_rfl⟩
noncomputable abbrev L0 (fuel n : Nat) (s : St) (k : Kont) := lAt Try.prog X I fuel true 0 false 39 (bodyOf Try.f39) [1, 1, 1, 0, 1, 0] n s k
noncomputable abbrev k0  (fuel : Nat) : Kont := (kAt Try.prog X I fuel true 0 false 39 (bodyOf Try.f39) [1, 1, 1, 0, 1, 0] [] (endK Try.prog Try.f39))
noncomputable def t0 (p0 : Int) (x0q2 : Int) (x0q3 : List Int) : St := ⟨[(.imm (.int .i64 p0)), .dead, (.ptr 1000000000 0 0), (.all 1000000001 1), .dead, .dead, .dead, .dead, .dead, .dead, .dead, .dead, .dead, .dead, .dead, (.imm (.int .i64 (((List.replicate (p0).toNat (0 : Int)).length : Nat) : Int))), (.imm (.int .i64 x0q2)), .dead, .dead, .dead, .dead, .dead, .dead, .dead, .dead, .dead, .dead, .dead], hOf [(1000000000, (.box [(.imm .nils), (.imm .nils)])), (1000000001, (.ints .i64 x0q3))], [], []⟩
theorem e (fuel : Nat) (p0 : Int) : runF Try.prog X I 0 fuel 39 Try.f39 [.d (.int .i64 p0)] =
  (bif (decide ((p0 : Int) < 0)) then
  some ([.agg [((.ints .i64 []), true), ((.ints .i64 []), true)]], [])
  else
  (bif (decide ((p0 : Int) > 60)) then
  some ([.agg [((.ints .i64 []), true), ((.ints .i64 []), true)]], [])
  else
  (bif decide (0 ≤ (p0 : Int)) && decide ((p0 : Int) ≤ p0) && decide ((p0 : Int) ≤ 1152921504606846976) && decide (((8 : Nat) : Int) * p0 ≤ 281474976710656) then
  L0 fuel fuel (t0 p0 0 ((List.replicate (p0).toNat (0 : Int)))) (k0  fuel)
  else
  none))) := by kernel_rfl
theorem s0 (fuel n0 : Nat) (p0 : Int) (x0q2 : Int) (x0q3 : List Int) : L0 fuel (n0 + 1) (t0 p0 x0q2 x0q3) (k0  fuel) =
  (bif (decide ((x0q2 : Int) < (((List.replicate (p0).toNat (0 : Int)).length : Nat) : Int))) then
  (idx x0q2 x0q3.length).bind fun j3 =>
  (bif decide (j3 < x0q3.length) then
  L0 fuel n0 (t0 p0 ((IntKind.wrap .i64 (x0q2 + 1))) ((x0q3.set j3 x0q2))) (k0  fuel)
  else
  none)
  else
  some ([.agg [((.ints .i64 [p0]), true), ((.ints .i64 x0q3), true)]], [])) := by kernel_rfl
end impl_CountTo
theorem impl_CountTo.ok_of (hX : ∀ E ∈ impl_CountTo.X, CallSpec Try.prog E) (h : ∀ (n : Int), (true) = true → ∃ fuel, runF Try.prog impl_CountTo.X impl_CountTo.I 0 fuel 39 Try.f39 [.d (.int .i64 n)] = some ([.agg [((.ints .i64 (cntS n)), true), ((.ints .i64 (cntD n)), true)]], [])) : CallSpec Try.prog impl_CountTo.E :=
  callSpec_of (d := 0) hX (by kernel_rfl) impl_CountTo.I_ok (by kernel_rfl) (by kernel_rfl) (by kernel_rfl) (fun _ _ _ _ h => by dsimp only [impl_CountTo.E] at h; cases h) (fun xs hp => by
    dsimp only [impl_CountTo.E] at hp ⊢
    split at hp
    · exact h _ hp
    · cases hp)
theorem impl_CountTo.loop (fuel : Nat) (p : Int) (hp : cntOk p = true) : ∀ (m n j : Nat) (out : List Int), p.toNat - j = m → m < n → j ≤ p.toNat → out.length = p.toNat → out.take j = ((List.range p.toNat).map Int.ofNat).take j →
    impl_CountTo.L0 fuel n (impl_CountTo.t0 p (j : Int) out) (impl_CountTo.k0 fuel) = some ([.agg [(.ints .i64 (cntS p), true), (.ints .i64 (cntD p), true)]], []) := by
  have hb : 0 ≤ p ∧ p ≤ 60 := by simpa [cntOk] using hp
  intro m
  induction m with
  | zero =>
    intro n j out h1 h2 h3 h4 h5
    obtain ⟨n, rfl⟩ : ∃ n', n = n' + 1 := ⟨n - 1, by omega⟩
    have hj : ¬ j < p.toNat := by omega
    rw [List.take_of_length_le (by omega), List.take_of_length_le (by simp; omega)] at h5
    rw [impl_CountTo.s0, List.length_replicate, dge hj, h5]
    simp [cntS, cntD, hp]
  | succ m ih =>
    intro n j out h1 h2 h3 h4 h5
    obtain ⟨n, rfl⟩ : ∃ n', n = n' + 1 := ⟨n - 1, by omega⟩
    have hj : j < p.toNat := by omega
    have hj2 : j < out.length := by omega
    rw [impl_CountTo.s0, List.length_replicate, dlt hj, idx_nat hj2, w1 (by omega)]
    simp only [cond_true, Option.bind_some, hj2, decide_true]
    have hj3 : j < ((List.range p.toNat).map Int.ofNat).length := by simpa using hj
    have := take_set_succ hj3 hj2 h5
    have e1 : ((List.range p.toNat).map Int.ofNat)[j] = (j : Int) := by simp
    rw [e1] at this
    exact ih n (j + 1) _ (by omega) (by omega) (by omega) (by simpa using h4) this

theorem impl_CountTo.ok : CallSpec Try.prog impl_CountTo.E := impl_CountTo.ok_of (by simp [impl_CountTo.X]) fun p _ => by
  refine ⟨p.toNat + 1, ?_⟩
  rw [impl_CountTo.e]
  by_cases h1 : p < 0
  · have : cntOk p = false := by unfold cntOk; rw [decide_eq_false (by omega)]; rfl
    rw [decide_eq_true h1]
    simp [cntS, cntD, this]
  · by_cases h2 : p > 60
    · have : cntOk p = false := by unfold cntOk; rw [decide_eq_false (p := p ≤ 60) (by omega), Bool.and_false]
      rw [decide_eq_true h2]
      simp [cntS, cntD, this, h1]
    · have hp : cntOk p = true := by unfold cntOk; rw [decide_eq_true (p := 0 ≤ p) (by omega), decide_eq_true (p := p ≤ 60) (by omega)]; rfl
      rw [decide_eq_false h1, decide_eq_false h2, mkOk (by omega) (by omega)]
      exact impl_CountTo.loop (p.toNat + 1) p hp p.toNat (p.toNat + 1) 0 _ (by omega) (by omega) (by omega) (by simp) (by simp)

namespace slices_Reverse_int_int
noncomputable def E : Entry := ⟨40, false, true, fun | [.rows true [(.i64, xs)]] => decide ((xs : List Int).length ≤ 3) | _ => false, fun | [.rows true [(.i64, xs)]] => ([], [[(.ints .i64 (xs.reverse))]]) | _ => ([], []), fun _ => [], false, fun _ => none⟩
end slices_Reverse_int_int
namespace slices_Reverse_int_int
noncomputable def X : List Entry := []
noncomputable def I : List Inl := [⟨40, Try.f40, ⟨[], [(1000001, [1, 4, 5, 6, 7, 8, 9, 10, 11, 12, 13, 14, 15, 16, 17, 18, 19, 20, 21, 22, 23, 24, 25, 26, 27])], [], [(3, [0, 1, 2, 3, 4, 5, 8, 9, 6, 7, 10, 11, 12, 13, 14, 15])], [], []⟩⟩]
theorem I_ok : ∀ i ∈ I, Try.prog.funcs[i.f]? = some i.fn ∧ (i.fn.name == "runtime.NumGoroutine") = false := by
  intro i hi
  simp only [I, List.mem_cons, List.not_mem_nil, or_false] at hi
  subst hi
  exact ⟨by kernel_rfl, by kernel_rfl⟩
noncomputable abbrev L0 (fuel n : Nat) (s : St) (k : Kont) := lAt Try.prog X I fuel false 0 false 40 (bodyOf Try.f40) [1, 0] n s k
noncomputable abbrev k0  (fuel : Nat) : Kont := (kAt Try.prog X I fuel false 0 false 40 (bodyOf Try.f40) [1, 0] [] (endK Try.prog Try.f40))
noncomputable def t0 (x0q0 : Int) (x0q1 : Int) (x0q2 : List Int) : St := ⟨[(.all 1000000000 1), .dead, (.imm (.int .i64 x0q0)), (.imm (.int .i64 x0q1)), .dead, .dead, .dead, .dead, .dead, .dead, .dead, .dead, .dead, .dead, .dead, .dead, .dead, .dead, .dead, .dead, .dead, .dead, .dead, .dead, .dead, .dead, .dead, .dead], hOf [(1000000000, (.ints .i64 x0q2))], [(.all 1000000000 1)], []⟩
theorem e (fuel : Nat) (p0 : List Int) : runF Try.prog X I 0 fuel 40 Try.f40 [.rows true [(.i64, p0)]] =
  L0 fuel fuel (t0 0 ((IntKind.wrap .i64 (((p0.length : Nat) : Int) - 1))) p0) (k0  fuel) := by kernel_rfl
theorem s0 (fuel n0 : Nat) (x0q0 : Int) (x0q1 : Int) (x0q2 : List Int) : L0 fuel (n0 + 1) (t0 x0q0 x0q1 x0q2) (k0  fuel) =
  (bif (decide ((x0q0 : Int) < x0q1)) then
  (idx x0q1 x0q2.length).bind fun j13 =>
  (x0q2[j13]?).bind fun v14 =>
  (idx x0q0 x0q2.length).bind fun j15 =>
  (x0q2[j15]?).bind fun v16 =>
  (idx x0q0 x0q2.length).bind fun j17 =>
  (bif decide (j17 < x0q2.length) then
  (idx x0q1 (x0q2.set j17 v14).length).bind fun j18 =>
  (bif decide (j18 < (x0q2.set j17 v14).length) then
  L0 fuel n0 (t0 ((IntKind.wrap .i64 (x0q0 + 1))) ((IntKind.wrap .i64 (x0q1 - 1))) (((x0q2.set j17 v14).set j18 v16))) (k0  fuel)
  else
  none)
  else
  none)
  else
  some ([], [[(.ints .i64 x0q2)]])) := by kernel_rfl
end slices_Reverse_int_int
theorem slices_Reverse_int_int.ok_of (hX : ∀ E ∈ slices_Reverse_int_int.X, CallSpec Try.prog E) (h : ∀ (xs : List Int), (decide ((xs : List Int).length ≤ 3)) = true → ∃ fuel, runF Try.prog slices_Reverse_int_int.X slices_Reverse_int_int.I 0 fuel 40 Try.f40 [.rows true [(.i64, xs)]] = some ([], [[(.ints .i64 (xs.reverse))]])) : CallSpec Try.prog slices_Reverse_int_int.E :=
  callSpec_of (d := 0) hX (by kernel_rfl) slices_Reverse_int_int.I_ok (by kernel_rfl) (by kernel_rfl) (by kernel_rfl) (fun _ _ _ _ h => by dsimp only [slices_Reverse_int_int.E] at h; cases h) (fun xs hp => by
    dsimp only [slices_Reverse_int_int.E] at hp ⊢
    split at hp
    · exact h _ hp
    · cases hp)
theorem slices_Reverse_int_int.ok : CallSpec Try.prog slices_Reverse_int_int.E := slices_Reverse_int_int.ok_of (by simp [slices_Reverse_int_int.X]) fun xs h => by
  obtain ⟨F, hF⟩ : ∃ F : Nat, F = 5 := ⟨5, rfl⟩
  refine ⟨F + 2, ?_⟩
  have h3 := of_decide_eq_true h
  rw [slices_Reverse_int_int.e]
  match xs, h3 with
  | [], _ =>
    rw [slices_Reverse_int_int.s0]; rfl
  | [a], _ =>
    rw [slices_Reverse_int_int.s0]; rfl
  | [a, b], _ =>
    rw [slices_Reverse_int_int.s0]
    show slices_Reverse_int_int.L0 (F + 2) (F + 1) (slices_Reverse_int_int.t0 1 0 [b, a]) (slices_Reverse_int_int.k0 (F + 2)) = _
    rw [slices_Reverse_int_int.s0]; rfl
  | [a, b, c], _ =>
    rw [slices_Reverse_int_int.s0]
    show slices_Reverse_int_int.L0 (F + 2) (F + 1) (slices_Reverse_int_int.t0 1 1 [c, b, a]) (slices_Reverse_int_int.k0 (F + 2)) = _
    rw [slices_Reverse_int_int.s0]; rfl
  | _ :: _ :: _ :: _ :: _, h => simp at h

namespace impl_Transpose
noncomputable def E : Entry := ⟨20, false, false, fun | [.d (.agg [(.ints .i64 sh), (.ints .i64 da)])] => decide (sh.length < 9223372036854775808) && decide (da.length < 9223372036854775808) | _ => false, fun | [.d (.agg [(.ints .i64 sh), (.ints .i64 da)])] => ([.agg [((.ints .i64 (trS sh da)), true), ((.ints .i64 (trD sh da)), true)]], []) | _ => ([], []), fun _ => [], true, fun _ => none⟩
end impl_Transpose
namespace impl_Transpose
noncomputable def X : List Entry := [impl_ValidArray.E, impl_CountTo.E, slices_Reverse_int_int.E, impl_MoveAxes.E]
noncomputable def I : List Inl := [⟨20, Try.f20, ⟨[13, 20], [], [], [], [], []⟩⟩]
theorem I_ok : ∀ i ∈ I, Try.prog.funcs[i.f]? = some i.fn ∧ (i.fn.name == "runtime.NumGoroutine") = false := by
  intro i hi
  simp only [I, List.mem_cons, List.not_mem_nil, or_false] at hi
  subst hi
  exact ⟨by kernel_rfl, by kernel_rfl⟩
theorem e (fuel : Nat) (p0q0 : List Int) (p0q1 : List Int) : runF Try.prog X I 0 fuel 20 Try.f20 [.d (.agg [(.ints .i64 p0q0), (.ints .i64 p0q1)])] =
  (bif decide (p0q0.length < 9223372036854775808) && decide (p0q1.length < 9223372036854775808) then
  (bif (!(validA p0q0 p0q1)) then
  some ([.agg [((.ints .i64 []), true), ((.ints .i64 []), true)]], [])
  else
  (bif decide ((((cntD (((p0q0.length : Nat) : Int)))) : List Int).length ≤ 3) then
  (bif decide (p0q0.length < 9223372036854775808) && decide (p0q1.length < 9223372036854775808) && decide (((((cntD (((p0q0.length : Nat) : Int)))).reverse)).length < 9223372036854775808) then
  some ([.agg [((.ints .i64 (mvS p0q0 p0q1 ((((cntD (((p0q0.length : Nat) : Int)))).reverse)))), true), ((.ints .i64 (mvD p0q0 p0q1 ((((cntD (((p0q0.length : Nat) : Int)))).reverse)))), true)]], [])
  else
  none)
  else
  none))
  else
  none) := by kernel_rfl
end impl_Transpose
theorem impl_Transpose.ok_of (hX : ∀ E ∈ impl_Transpose.X, CallSpec Try.prog E) (h : ∀ (sh : List Int) (da : List Int), (decide (sh.length < 9223372036854775808) && decide (da.length < 9223372036854775808)) = true → ∃ fuel, runF Try.prog impl_Transpose.X impl_Transpose.I 0 fuel 20 Try.f20 [.d (.agg [(.ints .i64 sh), (.ints .i64 da)])] = some ([.agg [((.ints .i64 (trS sh da)), true), ((.ints .i64 (trD sh da)), true)]], [])) : CallSpec Try.prog impl_Transpose.E :=
  callSpec_of (d := 0) hX (by kernel_rfl) impl_Transpose.I_ok (by kernel_rfl) (by kernel_rfl) (by kernel_rfl) (fun _ _ _ _ h => by dsimp only [impl_Transpose.E] at h; cases h) (fun xs hp => by
    dsimp only [impl_Transpose.E] at hp ⊢
    split at hp
    · exact h _ _ hp
    · cases hp)
theorem tr_rev {r : Nat} (h : r ≤ 3) : (cntD (r : Int)).reverse = trO r := by
  match r, h with
  | 0, _ => rfl
  | 1, _ => rfl
  | 2, _ => rfl
  | 3, _ => rfl
theorem impl_Transpose.ok : CallSpec Try.prog impl_Transpose.E := impl_Transpose.ok_of (by simp [impl_Transpose.X, impl_ValidArray.ok, impl_CountTo.ok, slices_Reverse_int_int.ok, impl_MoveAxes.ok]) fun sh da h => ⟨0, by
  have h' := h
  simp only [Bool.and_eq_true] at h'
  rw [impl_Transpose.e, h]
  unfold trS trD
  cases hv : validA sh da with
  | false => rfl
  | true =>
    have hr := (validA_len hv).1
    have e := tr_rev hr
    have hl : (cntD ((sh.length : Nat) : Int)).length ≤ 3 := by
      have := congrArg List.length e
      rw [List.length_reverse] at this
      rw [this, trO, tab_length]; exact hr
    rw [decide_eq_true hl, e, lt_of (xs := trO sh.length) (by rw [trO, tab_length]; omega)]
    rfl⟩

namespace spec_Transpose
noncomputable def E : Entry := ⟨19, false, false, fun | [.d (.agg [(.ints .i64 sh), (.ints .i64 da)])] => decide (sh.length < 9223372036854775808) && decide (da.length < 9223372036854775808) | _ => false, fun | [.d (.agg [(.ints .i64 sh), (.ints .i64 da)])] => ([.agg [((.ints .i64 (trS sh da)), true), ((.ints .i64 (trD sh da)), true)]], []) | _ => ([], []), fun _ => [], true, fun _ => none⟩
end spec_Transpose
namespace spec_Transpose
noncomputable def X : List Entry := [spec_valid.E, spec_MoveAxes.E]
noncomputable def I : List Inl := [⟨19, Try.f19, ⟨[27], [(1000005, [0, 5, 6, 7, 8, 9, 10, 11, 12, 13, 14, 15, 16, 17, 18, 19, 20, 21, 22, 23, 24, 25, 26, 27, 28, 29, 30])], [], [], [], []⟩⟩]
theorem I_ok : ∀ i ∈ I, Try.prog.funcs[i.f]? = some i.fn ∧ (i.fn.name == "runtime.NumGoroutine") = false := by
  intro i hi
  simp only [I, List.mem_cons, List.not_mem_nil, or_false] at hi
  subst hi
  exact ⟨by kernel_rfl, by kernel_rfl⟩
noncomputable abbrev L0 (fuel n : Nat) (s : St) (k : Kont) := lAt Try.prog X I fuel true 0 false 19 (bodyOf Try.f19) [1, 1, 1, 0, 1, 0] n s k
noncomputable abbrev k0  (fuel : Nat) : Kont := (kAt Try.prog X I fuel true 0 false 19 (bodyOf Try.f19) [1, 1, 1, 0, 1, 0] [] (endK Try.prog Try.f19))
noncomputable def t0 (p0q0 : List Int) (p0q1 : List Int) (x0q0 : Int) (x0q3 : List Int) : St := ⟨[.dead, (.ptr 1000000000 0 0), (.ptr 1000000001 0 0), (.all 1000000002 1), (.imm (.int .i64 x0q0)), .dead, .dead, .dead, .dead, .dead, .dead, .dead, .dead, .dead, .dead, .dead, .dead, .dead, .dead, .dead, .dead, .dead, .dead, .dead, .dead, .dead, .dead, .dead, .dead, .dead, .dead], hOf [(1000000000, (.box [(.imm (.ints .i64 p0q0)), (.imm (.ints .i64 p0q1))])), (1000000001, (.box [(.imm .nils), (.imm .nils)])), (1000000002, (.ints .i64 x0q3))], [], []⟩
theorem e (fuel : Nat) (p0q0 : List Int) (p0q1 : List Int) : runF Try.prog X I 0 fuel 19 Try.f19 [.d (.agg [(.ints .i64 p0q0), (.ints .i64 p0q1)])] =
  (bif decide (p0q0.length < 9223372036854775808) && decide (p0q1.length < 9223372036854775808) then
  (bif (!(validA p0q0 p0q1)) then
  some ([.agg [((.ints .i64 []), true), ((.ints .i64 []), true)]], [])
  else
  L0 fuel fuel (t0 p0q0 p0q1 ((IntKind.wrap .i64 (((p0q0.length : Nat) : Int) - 1))) ([])) (k0  fuel))
  else
  none) := by kernel_rfl
theorem s0 (fuel n0 : Nat) (p0q0 : List Int) (p0q1 : List Int) (x0q0 : Int) (x0q3 : List Int) : L0 fuel (n0 + 1) (t0 p0q0 p0q1 x0q0 x0q3) (k0  fuel) =
  (bif (decide ((x0q0 : Int) ≥ 0)) then
  (bif fits (x0q3.length + ([x0q0] : List Int).length) 8 then
  L0 fuel n0 (t0 p0q0 p0q1 ((IntKind.wrap .i64 (x0q0 - 1))) ((x0q3 ++ [x0q0]))) (k0  fuel)
  else
  none)
  else
  (bif decide (p0q0.length < 9223372036854775808) && decide (p0q1.length < 9223372036854775808) && decide (x0q3.length < 9223372036854775808) then
  some ([.agg [((.ints .i64 (mvS p0q0 p0q1 x0q3)), true), ((.ints .i64 (mvD p0q0 p0q1 x0q3)), true)]], [])
  else
  none)) := by kernel_rfl
end spec_Transpose
theorem spec_Transpose.ok_of (hX : ∀ E ∈ spec_Transpose.X, CallSpec Try.prog E) (h : ∀ (sh : List Int) (da : List Int), (decide (sh.length < 9223372036854775808) && decide (da.length < 9223372036854775808)) = true → ∃ fuel, runF Try.prog spec_Transpose.X spec_Transpose.I 0 fuel 19 Try.f19 [.d (.agg [(.ints .i64 sh), (.ints .i64 da)])] = some ([.agg [((.ints .i64 (trS sh da)), true), ((.ints .i64 (trD sh da)), true)]], [])) : CallSpec Try.prog spec_Transpose.E :=
  callSpec_of (d := 0) hX (by kernel_rfl) spec_Transpose.I_ok (by kernel_rfl) (by kernel_rfl) (by kernel_rfl) (fun _ _ _ _ h => by dsimp only [spec_Transpose.E] at h; cases h) (fun xs hp => by
    dsimp only [spec_Transpose.E] at hp ⊢
    split at hp
    · exact h _ _ hp
    · cases hp)
theorem spec_Transpose.ok : CallSpec Try.prog spec_Transpose.E := spec_Transpose.ok_of (by simp [spec_Transpose.X, spec_valid.ok, spec_MoveAxes.ok]) fun sh da h => by
  obtain ⟨F, hF⟩ : ∃ F : Nat, 60 < F := ⟨61, by omega⟩
  refine ⟨F, ?_⟩
  have h' := h
  simp only [Bool.and_eq_true] at h'
  rw [spec_Transpose.e, h]
  unfold trS trD
  cases hv : validA sh da with
  | false => rfl
  | true =>
    have hr := (validA_len hv).1
    have hl : (trO sh.length).length = sh.length := tab_length _ _
    simp only [Bool.not_true, cond_true, cond_false]
    rw [wS (by omega) (by omega), show ((sh.length : Nat) : Int) - 1 = ((sh.length : Nat) : Int) - 1 - ((0 : Nat) : Int) by omega]
    refine run_loop (N := sh.length) (fun n j out => spec_Transpose.L0 F n (spec_Transpose.t0 sh da (((sh.length : Nat) : Int) - 1 - (j : Int)) out) (spec_Transpose.k0 F)) (fun j out => out = (trO sh.length).take j) ?_ ?_ F 0 [] (by omega) (by omega) (by simp)
    · intro n out hI
      have hI2 : out = trO sh.length := by rw [hI, List.take_of_length_le (by omega)]
      rw [spec_Transpose.s0, decide_eq_false (by omega), cond_false, h'.1, h'.2, hI2, lt_of (by omega)]
      rfl
    · intro n j out hj hI
      have hol : out.length = j := by rw [hI, take_len (by omega)]
      rw [spec_Transpose.s0, decide_eq_true (by omega), cond_true, fitsOk (by simp only [List.length_cons, List.length_nil]; omega), cond_true, wS (by omega) (by omega)]
      refine ⟨_, ?_, by rw [show ((sh.length : Nat) : Int) - 1 - ((j + 1 : Nat) : Int) = ((sh.length : Nat) : Int) - 1 - (j : Int) - 1 by omega]⟩
      rw [hI, take_push (by omega)]
      rw [trO, tab_getD hj]
      omega

namespace laws_FnTranspose
noncomputable def E : Entry := ⟨7, true, false, fun | [.d (.ints .u8 bs)] => bytesB bs | _ => false, fun | [.d (.ints .u8 bs)] => ([.one ((.bool true), false)], []) | _ => ([], []), fun _ => [], false, fun _ => none⟩
end laws_FnTranspose
namespace laws_FnTranspose
noncomputable def X : List Entry := [spec_DrawTranspose.E, impl_Transpose.E, spec_Transpose.E, laws_equalArray.E, impl_ValidArray.E]
noncomputable def I : List Inl := [⟨7, Try.f7, ⟨[9, 11, 14, 24, 27], [], [], [(7, [0, 2, 1, 3, 4, 5, 6, 7, 8, 9, 10, 11, 12, 13, 14, 15])], [], []⟩⟩]
theorem I_ok : ∀ i ∈ I, Try.prog.funcs[i.f]? = some i.fn ∧ (i.fn.name == "runtime.NumGoroutine") = false := by
  intro i hi
  simp only [I, List.mem_cons, List.not_mem_nil, or_false] at hi
  subst hi
  exact ⟨by kernel_rfl, by kernel_rfl⟩
theorem e (fuel : Nat) (p0 : List Int) : runF Try.prog X I 0 fuel 7 Try.f7 [.d (.ints .u8 p0)] =
  (bif (decide ((((p0.length : Nat) : Int) : Int) > 1048576)) then
  some ([.one ((.bool true), false)], [])
  else
  (bif bytesB p0 then
  (bif decide (((aArS (cutC p0) 0)).length < 9223372036854775808) && decide (((aArD (cutC p0) 0)).length < 9223372036854775808) then
  (bif decide (((aArS (cutC p0) 0)).length < 9223372036854775808) && decide (((aArD (cutC p0) 0)).length < 9223372036854775808) then
  (bif decide (((trS ((aArS (cutC p0) 0)) ((aArD (cutC p0) 0)))).length < 9223372036854775808) && decide (((trD ((aArS (cutC p0) 0)) ((aArD (cutC p0) 0)))).length < 9223372036854775808) && decide (((trS ((aArS (cutC p0) 0)) ((aArD (cutC p0) 0)))).length < 9223372036854775808) && decide (((trD ((aArS (cutC p0) 0)) ((aArD (cutC p0) 0)))).length < 9223372036854775808) then
  (bif (!(decide (((trS ((aArS (cutC p0) 0)) ((aArD (cutC p0) 0)))) = ((trS ((aArS (cutC p0) 0)) ((aArD (cutC p0) 0))))) && decide (((trD ((aArS (cutC p0) 0)) ((aArD (cutC p0) 0)))) = ((trD ((aArS (cutC p0) 0)) ((aArD (cutC p0) 0))))))) then
  (bif decide (((aArS (cutC p0) 0)).length < 9223372036854775808) && decide (((aArD (cutC p0) 0)).length < 9223372036854775808) then
  (bif decide (((trS ((aArS (cutC p0) 0)) ((aArD (cutC p0) 0)))).length < 9223372036854775808) && decide (((trD ((aArS (cutC p0) 0)) ((aArD (cutC p0) 0)))).length < 9223372036854775808) && decide (((trS ((aArS (cutC p0) 0)) ((aArD (cutC p0) 0)))).length < 9223372036854775808) && decide (((trD ((aArS (cutC p0) 0)) ((aArD (cutC p0) 0)))).length < 9223372036854775808) then
  some ([.one ((.bool (decide (((trS ((aArS (cutC p0) 0)) ((aArD (cutC p0) 0)))) = ((trS ((aArS (cutC p0) 0)) ((aArD (cutC p0) 0))))) && decide (((trD ((aArS (cutC p0) 0)) ((aArD (cutC p0) 0)))) = ((trD ((aArS (cutC p0) 0)) ((aArD (cutC p0) 0))))))), false)], [])
  else
  none)
  else
  none)
  else
  (bif decide (((aArS (cutC p0) 0)).length < 9223372036854775808) && decide (((aArD (cutC p0) 0)).length < 9223372036854775808) then
  (bif (!(validA ((aArS (cutC p0) 0)) ((aArD (cutC p0) 0)))) then
  (bif decide (((aArS (cutC p0) 0)).length < 9223372036854775808) && decide (((aArD (cutC p0) 0)).length < 9223372036854775808) then
  (bif decide (((trS ((aArS (cutC p0) 0)) ((aArD (cutC p0) 0)))).length < 9223372036854775808) && decide (((trD ((aArS (cutC p0) 0)) ((aArD (cutC p0) 0)))).length < 9223372036854775808) && decide (((trS ((aArS (cutC p0) 0)) ((aArD (cutC p0) 0)))).length < 9223372036854775808) && decide (((trD ((aArS (cutC p0) 0)) ((aArD (cutC p0) 0)))).length < 9223372036854775808) then
  some ([.one ((.bool (decide (((trS ((aArS (cutC p0) 0)) ((aArD (cutC p0) 0)))) = ((trS ((aArS (cutC p0) 0)) ((aArD (cutC p0) 0))))) && decide (((trD ((aArS (cutC p0) 0)) ((aArD (cutC p0) 0)))) = ((trD ((aArS (cutC p0) 0)) ((aArD (cutC p0) 0))))))), false)], [])
  else
  none)
  else
  none)
  else
  (bif decide (((trS ((aArS (cutC p0) 0)) ((aArD (cutC p0) 0)))).length < 9223372036854775808) && decide (((trD ((aArS (cutC p0) 0)) ((aArD (cutC p0) 0)))).length < 9223372036854775808) then
  (bif decide (((trS ((trS ((aArS (cutC p0) 0)) ((aArD (cutC p0) 0)))) ((trD ((aArS (cutC p0) 0)) ((aArD (cutC p0) 0)))))).length < 9223372036854775808) && decide (((trD ((trS ((aArS (cutC p0) 0)) ((aArD (cutC p0) 0)))) ((trD ((aArS (cutC p0) 0)) ((aArD (cutC p0) 0)))))).length < 9223372036854775808) && decide (((aArS (cutC p0) 0)).length < 9223372036854775808) && decide (((aArD (cutC p0) 0)).length < 9223372036854775808) then
  (bif (decide (((trS ((trS ((aArS (cutC p0) 0)) ((aArD (cutC p0) 0)))) ((trD ((aArS (cutC p0) 0)) ((aArD (cutC p0) 0)))))) = ((aArS (cutC p0) 0))) && decide (((trD ((trS ((aArS (cutC p0) 0)) ((aArD (cutC p0) 0)))) ((trD ((aArS (cutC p0) 0)) ((aArD (cutC p0) 0)))))) = ((aArD (cutC p0) 0)))) then
  (bif (decide (((((aArS (cutC p0) 0).length : Nat) : Int) : Int) > 1)) then
  some ([.one ((.bool true), false)], [])
  else
  (bif decide (((trS ((aArS (cutC p0) 0)) ((aArD (cutC p0) 0)))).length < 9223372036854775808) && decide (((trD ((aArS (cutC p0) 0)) ((aArD (cutC p0) 0)))).length < 9223372036854775808) && decide (((aArS (cutC p0) 0)).length < 9223372036854775808) && decide (((aArD (cutC p0) 0)).length < 9223372036854775808) then
  some ([.one ((.bool (decide (((trS ((aArS (cutC p0) 0)) ((aArD (cutC p0) 0)))) = ((aArS (cutC p0) 0))) && decide (((trD ((aArS (cutC p0) 0)) ((aArD (cutC p0) 0)))) = ((aArD (cutC p0) 0))))), false)], [])
  else
  none))
  else
  some ([.one ((.bool false), false)], []))
  else
  none)
  else
  none))
  else
  none))
  else
  none)
  else
  none)
  else
  none)
  else
  none)) := by kernel_rfl
end laws_FnTranspose
theorem laws_FnTranspose.ok_of (hX : ∀ E ∈ laws_FnTranspose.X, CallSpec Try.prog E) (h : ∀ (bs : List Int), (bytesB bs) = true → ∃ fuel, runF Try.prog laws_FnTranspose.X laws_FnTranspose.I 0 fuel 7 Try.f7 [.d (.ints .u8 bs)] = some ([.one ((.bool true), false)], [])) : CallSpec Try.prog laws_FnTranspose.E :=
  callSpec_of (d := 0) hX (by kernel_rfl) laws_FnTranspose.I_ok (by kernel_rfl) (by kernel_rfl) (by kernel_rfl) (fun _ _ _ _ h => by dsimp only [laws_FnTranspose.E] at h; cases h) (fun xs hp => by
    dsimp only [laws_FnTranspose.E] at hp ⊢
    split at hp
    · exact h _ hp
    · cases hp)
theorem laws_FnTranspose.ok : CallSpec Try.prog laws_FnTranspose.E := laws_FnTranspose.ok_of (by simp [laws_FnTranspose.X, spec_DrawTranspose.ok, impl_Transpose.ok, spec_Transpose.ok, laws_equalArray.ok, impl_ValidArray.ok]) fun bs h => by
  obtain ⟨F, hF⟩ : ∃ F : Nat, 4000 < F := ⟨4001, by omega⟩
  refine ⟨F, ?_⟩
  rw [laws_FnTranspose.e]
  by_cases hl : ((bs.length : Nat) : Int) > 1048576
  · rw [decide_eq_true hl]; rfl
  rw [decide_eq_false hl, cond_false, h, cond_true]
  have r0 := cut_ok h (p := 0) (by omega) (by omega)
  obtain ⟨a1, a2, _, _⟩ := aAr_bd r0 (by omega)
  generalize aArS (cutC bs) 0 = sh at *
  generalize aArD (cutC bs) 0 = da at *
  have g1 := lt_of (xs := sh) (by omega)
  have g2 := lt_of (xs := da) (by omega)
  have tl := tr_len sh da
  have g3 := lt_of (xs := trS sh da) (by omega)
  have g4 := lt_of (xs := trD sh da) (by omega)
  cases hv : validA sh da with
  | false => simp only [Bool.and_self, Bool.and_true, Bool.true_and, cond_true, cond_false, Bool.not_true, Bool.not_false, bne_self_eq_false, beq_self_eq_true, decide_true, eq_self, g1, g2, g3, g4, hv]
  | true =>
    obtain ⟨t1, t2⟩ := tr_tr hv
    by_cases h1 : ((sh.length : Nat) : Int) > 1
    · have d1 := decide_eq_true h1
      simp only [Bool.and_self, Bool.and_true, Bool.true_and, cond_true, cond_false, Bool.not_true, Bool.not_false, bne_self_eq_false, beq_self_eq_true, decide_true, eq_self, g1, g2, g3, g4, hv, t1, t2, d1]
    · have d1 := decide_eq_false h1
      obtain ⟨o1, o2⟩ := tr_one hv (by omega)
      simp only [Bool.and_self, Bool.and_true, Bool.true_and, cond_true, cond_false, Bool.not_true, Bool.not_false, bne_self_eq_false, beq_self_eq_true, decide_true, eq_self, g1, g2, hv, d1, o1, o2]

namespace impl_functionOfOne_1
noncomputable def E : Entry := ⟨65, true, false, fun | [.d (.int .i64 n)] => true | _ => false, fun | [.d (.int .i64 n)] => ([.one ((.int .i64 (IntKind.wrap .i64 (0 - n))), false)], []) | _ => ([], []), fun _ => [], false, fun _ => none⟩
end impl_functionOfOne_1
namespace impl_functionOfOne_1
noncomputable def X : List Entry := []
noncomputable def I : List Inl := [⟨65, Try.f65, ⟨[], [], [], [], [], []⟩⟩]
theorem I_ok : ∀ i ∈ I, Try.prog.funcs[i.f]? = some i.fn ∧ (i.fn.name == "runtime.NumGoroutine") = false := by
  intro i hi
  simp only [I, List.mem_cons, List.not_mem_nil, or_false] at hi
  subst hi
  exact ⟨by kernel_rfl, by kernel_rfl⟩
theorem e (fuel : Nat) (p0 : Int) : runF Try.prog X I 0 fuel 65 Try.f65 [.d (.int .i64 p0)] =
  some ([.one ((.int .i64 (IntKind.wrap .i64 (0 - p0))), false)], []) := by kernel_rfl
end impl_functionOfOne_1
theorem impl_functionOfOne_1.ok_of (hX : ∀ E ∈ impl_functionOfOne_1.X, CallSpec Try.prog E) (h : ∀ (n : Int), (true) = true → ∃ fuel, runF Try.prog impl_functionOfOne_1.X impl_functionOfOne_1.I 0 fuel 65 Try.f65 [.d (.int .i64 n)] = some ([.one ((.int .i64 (IntKind.wrap .i64 (0 - n))), false)], [])) : CallSpec Try.prog impl_functionOfOne_1.E :=
  callSpec_of (d := 0) hX (by kernel_rfl) impl_functionOfOne_1.I_ok (by kernel_rfl) (by kernel_rfl) (by kernel_rfl) (fun _ _ _ _ h => by dsimp only [impl_functionOfOne_1.E] at h; cases h) (fun xs hp => by
    dsimp only [impl_functionOfOne_1.E] at hp ⊢
    split at hp
    · exact h _ hp
    · cases hp)
theorem impl_functionOfOne_1.ok : CallSpec Try.prog impl_functionOfOne_1.E := impl_functionOfOne_1.ok_of (by simp [impl_functionOfOne_1.X]) fun n _ => ⟨0, by rw [impl_functionOfOne_1.e]⟩

namespace impl_absolute
noncomputable def E : Entry := ⟨66, true, false, fun | [.d (.int .i64 n)] => true | _ => false, fun | [.d (.int .i64 n)] => ([.one ((.int .i64 (absV n)), false)], []) | _ => ([], []), fun _ => [], false, fun _ => none⟩
end impl_absolute
namespace impl_absolute
noncomputable def X : List Entry := []
noncomputable def I : List Inl := [⟨66, Try.f66, ⟨[], [], [], [], [], []⟩⟩]
theorem I_ok : ∀ i ∈ I, Try.prog.funcs[i.f]? = some i.fn ∧ (i.fn.name == "runtime.NumGoroutine") = false := by
  intro i hi
  simp only [I, List.mem_cons, List.not_mem_nil, or_false] at hi
  subst hi
  exact ⟨by kernel_rfl, by kernel_rfl⟩
theorem e (fuel : Nat) (p0 : Int) : runF Try.prog X I 0 fuel 66 Try.f66 [.d (.int .i64 p0)] =
  some ([.one ((.int .i64 (maxI p0 (IntKind.wrap .i64 (0 - p0)))), false)], []) := by kernel_rfl
end impl_absolute
theorem impl_absolute.ok_of (hX : ∀ E ∈ impl_absolute.X, CallSpec Try.prog E) (h : ∀ (n : Int), (true) = true → ∃ fuel, runF Try.prog impl_absolute.X impl_absolute.I 0 fuel 66 Try.f66 [.d (.int .i64 n)] = some ([.one ((.int .i64 (absV n)), false)], [])) : CallSpec Try.prog impl_absolute.E :=
  callSpec_of (d := 0) hX (by kernel_rfl) impl_absolute.I_ok (by kernel_rfl) (by kernel_rfl) (by kernel_rfl) (fun _ _ _ _ h => by dsimp only [impl_absolute.E] at h; cases h) (fun xs hp => by
    dsimp only [impl_absolute.E] at hp ⊢
    split at hp
    · exact h _ hp
    · cases hp)
theorem impl_absolute.ok : CallSpec Try.prog impl_absolute.E := impl_absolute.ok_of (by simp [impl_absolute.X]) fun n _ => ⟨0, by rw [impl_absolute.e]; rfl⟩

namespace cmp_isNaN_int
noncomputable def E : Entry := ⟨74, true, false, fun | [.d (.int .i64 x)] => true | _ => false, fun | [.d (.int .i64 x)] => ([.one ((.bool false), false)], []) | _ => ([], []), fun _ => [], false, fun _ => none⟩
end cmp_isNaN_int
namespace cmp_isNaN_int
noncomputable def X : List Entry := []
noncomputable def I : List Inl := [⟨74, Try.f74, ⟨[], [], [], [], [], []⟩⟩]
theorem I_ok : ∀ i ∈ I, Try.prog.funcs[i.f]? = some i.fn ∧ (i.fn.name == "runtime.NumGoroutine") = false := by
  intro i hi
  simp only [I, List.mem_cons, List.not_mem_nil, or_false] at hi
  subst hi
  exact ⟨by kernel_rfl, by kernel_rfl⟩
theorem e (fuel : Nat) (p0 : Int) : runF Try.prog X I 0 fuel 74 Try.f74 [.d (.int .i64 p0)] =
  some ([.one ((.bool ((p0 : Int) != p0)), false)], []) := by kernel_rfl
end cmp_isNaN_int
theorem cmp_isNaN_int.ok_of (hX : ∀ E ∈ cmp_isNaN_int.X, CallSpec Try.prog E) (h : ∀ (x : Int), (true) = true → ∃ fuel, runF Try.prog cmp_isNaN_int.X cmp_isNaN_int.I 0 fuel 74 Try.f74 [.d (.int .i64 x)] = some ([.one ((.bool false), false)], [])) : CallSpec Try.prog cmp_isNaN_int.E :=
  callSpec_of (d := 0) hX (by kernel_rfl) cmp_isNaN_int.I_ok (by kernel_rfl) (by kernel_rfl) (by kernel_rfl) (fun _ _ _ _ h => by dsimp only [cmp_isNaN_int.E] at h; cases h) (fun xs hp => by
    dsimp only [cmp_isNaN_int.E] at hp ⊢
    split at hp
    · exact h _ hp
    · cases hp)
theorem cmp_isNaN_int.ok : CallSpec Try.prog cmp_isNaN_int.E := cmp_isNaN_int.ok_of (by simp [cmp_isNaN_int.X]) fun x _ => ⟨0, by rw [cmp_isNaN_int.e, bne_self_eq_false]⟩

namespace cmp_Compare_int
noncomputable def E : Entry := ⟨68, true, false, fun | [.d (.int .i64 x), .d (.int .i64 y)] => true | _ => false, fun | [.d (.int .i64 x), .d (.int .i64 y)] => ([.one ((.int .i64 (cmpV x y)), false)], []) | _ => ([], []), fun _ => [], false, fun _ => none⟩
end cmp_Compare_int
namespace cmp_Compare_int
noncomputable def X : List Entry := [cmp_isNaN_int.E]
noncomputable def I : List Inl := [⟨68, Try.f68, ⟨[], [], [], [], [], []⟩⟩]
theorem I_ok : ∀ i ∈ I, Try.prog.funcs[i.f]? = some i.fn ∧ (i.fn.name == "runtime.NumGoroutine") = false := by
  intro i hi
  simp only [I, List.mem_cons, List.not_mem_nil, or_false] at hi
  subst hi
  exact ⟨by kernel_rfl, by kernel_rfl⟩
theorem e (fuel : Nat) (p0 : Int) (p1 : Int) : runF Try.prog X I 0 fuel 68 Try.f68 [.d (.int .i64 p0), .d (.int .i64 p1)] =
  (bif (decide ((p0 : Int) < p1)) then
  some ([.one ((.int .i64 (-1)), false)], [])
  else
  (bif (decide ((p0 : Int) > p1)) then
  some ([.one ((.int .i64 1), false)], [])
  else
  some ([.one ((.int .i64 0), false)], []))) := by kernel_rfl
end cmp_Compare_int
theorem cmp_Compare_int.ok_of (hX : ∀ E ∈ cmp_Compare_int.X, CallSpec Try.prog E) (h : ∀ (x : Int) (y : Int), (true) = true → ∃ fuel, runF Try.prog cmp_Compare_int.X cmp_Compare_int.I 0 fuel 68 Try.f68 [.d (.int .i64 x), .d (.int .i64 y)] = some ([.one ((.int .i64 (cmpV x y)), false)], [])) : CallSpec Try.prog cmp_Compare_int.E :=
  callSpec_of (d := 0) hX (by kernel_rfl) cmp_Compare_int.I_ok (by kernel_rfl) (by kernel_rfl) (by kernel_rfl) (fun _ _ _ _ h => by dsimp only [cmp_Compare_int.E] at h; cases h) (fun xs hp => by
    dsimp only [cmp_Compare_int.E] at hp ⊢
    split at hp
    · exact h _ _ hp
    · cases hp)
theorem cmp_Compare_int.ok : CallSpec Try.prog cmp_Compare_int.E := cmp_Compare_int.ok_of (by simp [cmp_Compare_int.X, cmp_isNaN_int.ok]) fun x y _ => ⟨0, by
  rw [cmp_Compare_int.e]
  unfold cmpV
  cases decide (x < y) <;> cases decide (x > y) <;> rfl⟩

namespace impl_functionOfOne_2
noncomputable def E : Entry := ⟨67, true, false, fun | [.d (.int .i64 n)] => true | _ => false, fun | [.d (.int .i64 n)] => ([.one ((.int .i64 (sgnV n)), false)], []) | _ => ([], []), fun _ => [], false, fun _ => none⟩
end impl_functionOfOne_2
namespace impl_functionOfOne_2
noncomputable def X : List Entry := [cmp_Compare_int.E]
noncomputable def I : List Inl := [⟨67, Try.f67, ⟨[], [], [], [], [], []⟩⟩]
theorem I_ok : ∀ i ∈ I, Try.prog.funcs[i.f]? = some i.fn ∧ (i.fn.name == "runtime.NumGoroutine") = false := by
  intro i hi
  simp only [I, List.mem_cons, List.not_mem_nil, or_false] at hi
  subst hi
  exact ⟨by kernel_rfl, by kernel_rfl⟩
theorem e (fuel : Nat) (p0 : Int) : runF Try.prog X I 0 fuel 67 Try.f67 [.d (.int .i64 p0)] =
  some ([.one ((.int .i64 (cmpV p0 0)), false)], []) := by kernel_rfl
end impl_functionOfOne_2
theorem impl_functionOfOne_2.ok_of (hX : ∀ E ∈ impl_functionOfOne_2.X, CallSpec Try.prog E) (h : ∀ (n : Int), (true) = true → ∃ fuel, runF Try.prog impl_functionOfOne_2.X impl_functionOfOne_2.I 0 fuel 67 Try.f67 [.d (.int .i64 n)] = some ([.one ((.int .i64 (sgnV n)), false)], [])) : CallSpec Try.prog impl_functionOfOne_2.E :=
  callSpec_of (d := 0) hX (by kernel_rfl) impl_functionOfOne_2.I_ok (by kernel_rfl) (by kernel_rfl) (by kernel_rfl) (fun _ _ _ _ h => by dsimp only [impl_functionOfOne_2.E] at h; cases h) (fun xs hp => by
    dsimp only [impl_functionOfOne_2.E] at hp ⊢
    split at hp
    · exact h _ hp
    · cases hp)
theorem impl_functionOfOne_2.ok : CallSpec Try.prog impl_functionOfOne_2.E := impl_functionOfOne_2.ok_of (by simp [impl_functionOfOne_2.X, cmp_Compare_int.ok]) fun n _ => ⟨0, by rw [impl_functionOfOne_2.e, sgn_cmp]⟩

namespace impl_truth
noncomputable def E : Entry := ⟨70, true, false, fun | [.d (.bool b)] => true | _ => false, fun | [.d (.bool b)] => ([.one ((.int .i64 (tInt b)), false)], []) | _ => ([], []), fun _ => [], false, fun _ => none⟩
end impl_truth
namespace impl_truth
noncomputable def X : List Entry := []
noncomputable def I : List Inl := [⟨70, Try.f70, ⟨[], [], [], [], [], []⟩⟩]
theorem I_ok : ∀ i ∈ I, Try.prog.funcs[i.f]? = some i.fn ∧ (i.fn.name == "runtime.NumGoroutine") = false := by
  intro i hi
  simp only [I, List.mem_cons, List.not_mem_nil, or_false] at hi
  subst hi
  exact ⟨by kernel_rfl, by kernel_rfl⟩
theorem e (fuel : Nat) (p0 : Bool) : runF Try.prog X I 0 fuel 70 Try.f70 [.d (.bool p0)] =
  (bif p0 then
  some ([.one ((.int .i64 1), false)], [])
  else
  some ([.one ((.int .i64 0), false)], [])) := by kernel_rfl
end impl_truth
theorem impl_truth.ok_of (hX : ∀ E ∈ impl_truth.X, CallSpec Try.prog E) (h : ∀ (b : Bool), (true) = true → ∃ fuel, runF Try.prog impl_truth.X impl_truth.I 0 fuel 70 Try.f70 [.d (.bool b)] = some ([.one ((.int .i64 (tInt b)), false)], [])) : CallSpec Try.prog impl_truth.E :=
  callSpec_of (d := 0) hX (by kernel_rfl) impl_truth.I_ok (by kernel_rfl) (by kernel_rfl) (by kernel_rfl) (fun _ _ _ _ h => by dsimp only [impl_truth.E] at h; cases h) (fun xs hp => by
    dsimp only [impl_truth.E] at hp ⊢
    split at hp
    · exact h _ hp
    · cases hp)
theorem impl_truth.ok : CallSpec Try.prog impl_truth.E := impl_truth.ok_of (by simp [impl_truth.X]) fun b _ => ⟨0, by rw [impl_truth.e]; cases b <;> rfl⟩

namespace impl_functionOfOne_3
noncomputable def E : Entry := ⟨69, true, false, fun | [.d (.int .i64 n)] => true | _ => false, fun | [.d (.int .i64 n)] => ([.one ((.int .i64 (tInt (n == 0))), false)], []) | _ => ([], []), fun _ => [], false, fun _ => none⟩
end impl_functionOfOne_3
namespace impl_functionOfOne_3
noncomputable def X : List Entry := [impl_truth.E]
noncomputable def I : List Inl := [⟨69, Try.f69, ⟨[], [], [], [], [], []⟩⟩]
theorem I_ok : ∀ i ∈ I, Try.prog.funcs[i.f]? = some i.fn ∧ (i.fn.name == "runtime.NumGoroutine") = false := by
  intro i hi
  simp only [I, List.mem_cons, List.not_mem_nil, or_false] at hi
  subst hi
  exact ⟨by kernel_rfl, by kernel_rfl⟩
theorem e (fuel : Nat) (p0 : Int) : runF Try.prog X I 0 fuel 69 Try.f69 [.d (.int .i64 p0)] =
  some ([.one ((.int .i64 (tInt (((p0 : Int) == 0)))), false)], []) := by kernel_rfl
end impl_functionOfOne_3
theorem impl_functionOfOne_3.ok_of (hX : ∀ E ∈ impl_functionOfOne_3.X, CallSpec Try.prog E) (h : ∀ (n : Int), (true) = true → ∃ fuel, runF Try.prog impl_functionOfOne_3.X impl_functionOfOne_3.I 0 fuel 69 Try.f69 [.d (.int .i64 n)] = some ([.one ((.int .i64 (tInt (n == 0))), false)], [])) : CallSpec Try.prog impl_functionOfOne_3.E :=
  callSpec_of (d := 0) hX (by kernel_rfl) impl_functionOfOne_3.I_ok (by kernel_rfl) (by kernel_rfl) (by kernel_rfl) (fun _ _ _ _ h => by dsimp only [impl_functionOfOne_3.E] at h; cases h) (fun xs hp => by
    dsimp only [impl_functionOfOne_3.E] at hp ⊢
    split at hp
    · exact h _ hp
    · cases hp)
theorem impl_functionOfOne_3.ok : CallSpec Try.prog impl_functionOfOne_3.E := impl_functionOfOne_3.ok_of (by simp [impl_functionOfOne_3.X, impl_truth.ok]) fun n _ => ⟨0, by rw [impl_functionOfOne_3.e]⟩

namespace impl_functionOfOne
noncomputable def E : Entry := ⟨51, true, false, fun | [.d (.int .i64 fn)] => true | _ => false, fun | [.d (.int .i64 fn)] => ([.one (.nilf, false)], []) | _ => ([], []), fun | [.d (.int .i64 fn)] => [(decide (fn = 1), ([.one ((.clo 65 []), false)], [])), (decide (fn = 2), ([.one ((.clo 66 []), false)], [])), (decide (fn = 3), ([.one ((.clo 67 []), false)], [])), (decide (fn = 4), ([.one ((.clo 69 []), false)], []))] | _ => [], false, fun _ => none⟩
end impl_functionOfOne
namespace impl_functionOfOne
noncomputable def X : List Entry := []
noncomputable def I : List Inl := [⟨51, Try.f51, ⟨[], [], [], [], [], []⟩⟩]
theorem I_ok : ∀ i ∈ I, Try.prog.funcs[i.f]? = some i.fn ∧ (i.fn.name == "runtime.NumGoroutine") = false := by
  intro i hi
  simp only [I, List.mem_cons, List.not_mem_nil, or_false] at hi
  subst hi
  exact ⟨by kernel_rfl, by kernel_rfl⟩
theorem e (fuel : Nat) (p0 : Int) : runF Try.prog X I 0 fuel 51 Try.f51 [.d (.int .i64 p0)] =
  (bif (decide ((p0 : Int) < 0)) then
  some ([.one (.nilf, false)], [])
  else
  (bif (decide ((p0 : Int) ≥ 5)) then
  some ([.one (.nilf, false)], [])
  else
  (bif decide (p0 = ((0 : Nat) : Int)) then
  some ([.one (.nilf, false)], [])
  else
  (bif decide (p0 = ((1 : Nat) : Int)) then
  some ([.one ((.clo 65 []), false)], [])
  else
  (bif decide (p0 = ((2 : Nat) : Int)) then
  some ([.one ((.clo 66 []), false)], [])
  else
  (bif decide (p0 = ((3 : Nat) : Int)) then
  some ([.one ((.clo 67 []), false)], [])
  else
  (bif decide (p0 = ((4 : Nat) : Int)) then
  some ([.one ((.clo 69 []), false)], [])
  else
  none))))))) := by kernel_rfl
end impl_functionOfOne
theorem impl_functionOfOne.ok_of (hX : ∀ E ∈ impl_functionOfOne.X, CallSpec Try.prog E) (h : ∀ (fn : Int), (true) = true → ∃ fuel, runF Try.prog impl_functionOfOne.X impl_functionOfOne.I 0 fuel 51 Try.f51 [.d (.int .i64 fn)] = some (bif decide (fn = 1) then ([.one ((.clo 65 []), false)], []) else (bif decide (fn = 2) then ([.one ((.clo 66 []), false)], []) else (bif decide (fn = 3) then ([.one ((.clo 67 []), false)], []) else (bif decide (fn = 4) then ([.one ((.clo 69 []), false)], []) else ([.one (.nilf, false)], [])))))) : CallSpec Try.prog impl_functionOfOne.E :=
  callSpec_of (d := 0) hX (by kernel_rfl) impl_functionOfOne.I_ok (by kernel_rfl) (by kernel_rfl) (by kernel_rfl) (fun _ _ _ _ h => by dsimp only [impl_functionOfOne.E] at h; cases h) (fun xs hp => by
    dsimp only [impl_functionOfOne.E] at hp ⊢
    split at hp
    · exact h _ hp
    · cases hp)
theorem impl_functionOfOne.ok : CallSpec Try.prog impl_functionOfOne.E := impl_functionOfOne.ok_of (by simp [impl_functionOfOne.X]) fun fn _ => ⟨0, by
  rw [impl_functionOfOne.e]
  cases ho : fnOk fn with
  | true => rcases fnOk_cases ho with rfl | rfl | rfl | rfl <;> rfl
  | false =>
    have h := fnOk_no ho
    rw [decide_eq_false (p := fn = 1) (by omega), decide_eq_false (p := fn = 2) (by omega), decide_eq_false (p := fn = 3) (by omega), decide_eq_false (p := fn = 4) (by omega)]
    by_cases h1 : fn < 0
    · rw [decide_eq_true h1]; rfl
    · by_cases h2 : fn ≥ 5
      · rw [decide_eq_false h1, decide_eq_true h2]; rfl
      · have : fn = 0 := by omega
        subst this
        rfl⟩

namespace impl_copyList
noncomputable def E : Entry := ⟨52, false, false, fun | [.d (.ints .i64 xs)] => szB xs | _ => false, fun | [.d (.ints .i64 xs)] => ([.one ((.ints .i64 xs), true)], []) | _ => ([], []), fun _ => [], true, fun _ => none⟩
end impl_copyList
namespace impl_copyList
noncomputable def X : List Entry := []
noncomputable def I : List Inl := [⟨52, Try.f52, ⟨[], [], [], [], [], []⟩⟩]
theorem I_ok : ∀ i ∈ I, Try.prog.funcs[i.f]? = some i.fn ∧ (i.fn.name == "runtime.NumGoroutine") = false := by
  intro i hi
  simp only [I, List.mem_cons, List.not_mem_nil, or_false] at hi
  subst hi
  exact ⟨by kernel_rfl, by kernel_rfl⟩
theorem e (fuel : Nat) (p0 : List Int) : runF Try.prog X I 0 fuel 52 Try.f52 [.d (.ints .i64 p0)] =
  (bif decide (0 ≤ (((p0.length : Nat) : Int) : Int)) && decide ((((p0.length : Nat) : Int) : Int) ≤ ((p0.length : Nat) : Int)) && decide ((((p0.length : Nat) : Int) : Int) ≤ 1152921504606846976) && decide (((8 : Nat) : Int) * ((p0.length : Nat) : Int) ≤ 281474976710656) then
  some ([.one ((.ints .i64 (copyL (List.replicate (((p0.length : Nat) : Int)).toNat (0 : Int)) 0 (List.replicate (((p0.length : Nat) : Int)).toNat (0 : Int)).length p0)), true)], [])
  else
  none) := by kernel_rfl
end impl_copyList
theorem impl_copyList.ok_of (hX : ∀ E ∈ impl_copyList.X, CallSpec Try.prog E) (h : ∀ (xs : List Int), (szB xs) = true → ∃ fuel, runF Try.prog impl_copyList.X impl_copyList.I 0 fuel 52 Try.f52 [.d (.ints .i64 xs)] = some ([.one ((.ints .i64 xs), true)], [])) : CallSpec Try.prog impl_copyList.E :=
  callSpec_of (d := 0) hX (by kernel_rfl) impl_copyList.I_ok (by kernel_rfl) (by kernel_rfl) (by kernel_rfl) (fun _ _ _ _ h => by dsimp only [impl_copyList.E] at h; cases h) (fun xs hp => by
    dsimp only [impl_copyList.E] at hp ⊢
    split at hp
    · exact h _ hp
    · cases hp)
theorem impl_copyList.ok : CallSpec Try.prog impl_copyList.E := impl_copyList.ok_of (by simp [impl_copyList.X]) fun xs h => ⟨0, by
  have hx := szB_le h
  rw [impl_copyList.e, mkOk (by omega) (by omega)]
  simp only [cond_true, Int.toNat_natCast, copyL_all]⟩

namespace impl_MapArray
noncomputable def E : Entry := ⟨28, false, false, fun | [.d (.int .i64 fn), .d (.agg [(.ints .i64 sh), (.ints .i64 da)])] => decide (sh.length < 9223372036854775808) && decide (da.length < 9223372036854775808) | _ => false, fun | [.d (.int .i64 fn), .d (.agg [(.ints .i64 sh), (.ints .i64 da)])] => ([.agg [((.ints .i64 (mapS fn sh da)), true), ((.ints .i64 (mapD fn sh da)), true)]], []) | _ => ([], []), fun _ => [], true, fun _ => none⟩
end impl_MapArray
namespace impl_MapArray
noncomputable def X : List Entry := [impl_functionOfOne.E, impl_ValidArray.E, impl_functionOfOne_3.E, impl_copyList.E, impl_functionOfOne_2.E, impl_absolute.E, impl_functionOfOne_1.E]
noncomputable def I : List Inl := [⟨28, Try.f28, ⟨[40], [(1000006, [0, 1, 2, 7, 8, 9, 10, 11, 12, 13, 14, 15, 16, 17, 18, 19, 20, 21, 22, 23, 27, 28, 29, 30, 31, 32, 33, 34, 35, 36, 37, 38, 39, 40, 41, 42])], [], [], [], []⟩⟩]
theorem I_ok : ∀ i ∈ I, Try.prog.funcs[i.f]? = some i.fn ∧ (i.fn.name == "runtime.NumGoroutine") = false := by
  intro i hi
  simp only [I, List.mem_cons, List.not_mem_nil, or_false] at hi
  subst hi
  exact ⟨by kernel_rfl, by kernel_rfl⟩
noncomputable abbrev L0 (fuel n : Nat) (s : St) (k : Kont) := lAt Try.prog X I fuel true 0 false 28 (bodyOf Try.f28) [1, 1, 1, 1, 0, 1, 0] n s k
noncomputable abbrev k0  (fuel : Nat) : Kont := (kAt Try.prog X I fuel true 0 false 28 (bodyOf Try.f28) [1, 1, 1, 1, 0, 1, 0] [] (endK Try.prog Try.f28))
noncomputable def t0 (p1q1 : List Int) (p1q0 : List Int) (x0q2 : Int) (x0q5 : List Int) : St := ⟨[.dead, .dead, .dead, (.ptr 1000000000 0 0), (.ptr 1000000001 0 0), (.imm (.clo 69 [])), (.all 1000000002 1), .dead, .dead, .dead, .dead, .dead, .dead, .dead, .dead, .dead, .dead, .dead, .dead, .dead, .dead, .dead, .dead, .dead, (.imm (.ints .i64 p1q1)), (.imm (.int .i64 ((p1q1.length : Nat) : Int))), (.imm (.int .i64 x0q2)), .dead, .dead, .dead, .dead, .dead, .dead, .dead, .dead, .dead, .dead, .dead, .dead, .dead, .dead, .dead, .dead], hOf [(1000000000, (.box [(.imm (.ints .i64 p1q0)), (.imm (.ints .i64 p1q1))])), (1000000001, (.box [(.imm .nils), (.imm .nils)])), (1000000002, (.ints .i64 x0q5))], [], []⟩
noncomputable abbrev L1 (fuel n : Nat) (s : St) (k : Kont) := lAt Try.prog X I fuel true 0 false 28 (bodyOf Try.f28) [1, 1, 1, 1, 0, 1, 0] n s k
noncomputable abbrev k1  (fuel : Nat) : Kont := (kAt Try.prog X I fuel true 0 false 28 (bodyOf Try.f28) [1, 1, 1, 1, 0, 1, 0] [] (endK Try.prog Try.f28))
noncomputable def t1 (p1q1 : List Int) (p1q0 : List Int) (x1q2 : Int) (x1q5 : List Int) : St := ⟨[.dead, .dead, .dead, (.ptr 1000000000 0 0), (.ptr 1000000001 0 0), (.imm (.clo 67 [])), (.all 1000000002 1), .dead, .dead, .dead, .dead, .dead, .dead, .dead, .dead, .dead, .dead, .dead, .dead, .dead, .dead, .dead, .dead, .dead, (.imm (.ints .i64 p1q1)), (.imm (.int .i64 ((p1q1.length : Nat) : Int))), (.imm (.int .i64 x1q2)), .dead, .dead, .dead, .dead, .dead, .dead, .dead, .dead, .dead, .dead, .dead, .dead, .dead, .dead, .dead, .dead], hOf [(1000000000, (.box [(.imm (.ints .i64 p1q0)), (.imm (.ints .i64 p1q1))])), (1000000001, (.box [(.imm .nils), (.imm .nils)])), (1000000002, (.ints .i64 x1q5))], [], []⟩
noncomputable abbrev L2 (fuel n : Nat) (s : St) (k : Kont) := lAt Try.prog X I fuel true 0 false 28 (bodyOf Try.f28) [1, 1, 1, 1, 0, 1, 0] n s k
noncomputable abbrev k2  (fuel : Nat) : Kont := (kAt Try.prog X I fuel true 0 false 28 (bodyOf Try.f28) [1, 1, 1, 1, 0, 1, 0] [] (endK Try.prog Try.f28))
noncomputable def t2 (p1q1 : List Int) (p1q0 : List Int) (x2q2 : Int) (x2q5 : List Int) : St := ⟨[.dead, .dead, .dead, (.ptr 1000000000 0 0), (.ptr 1000000001 0 0), (.imm (.clo 66 [])), (.all 1000000002 1), .dead, .dead, .dead, .dead, .dead, .dead, .dead, .dead, .dead, .dead, .dead, .dead, .dead, .dead, .dead, .dead, .dead, (.imm (.ints .i64 p1q1)), (.imm (.int .i64 ((p1q1.length : Nat) : Int))), (.imm (.int .i64 x2q2)), .dead, .dead, .dead, .dead, .dead, .dead, .dead, .dead, .dead, .dead, .dead, .dead, .dead, .dead, .dead, .dead], hOf [(1000000000, (.box [(.imm (.ints .i64 p1q0)), (.imm (.ints .i64 p1q1))])), (1000000001, (.box [(.imm .nils), (.imm .nils)])), (1000000002, (.ints .i64 x2q5))], [], []⟩
noncomputable abbrev L3 (fuel n : Nat) (s : St) (k : Kont) := lAt Try.prog X I fuel true 0 false 28 (bodyOf Try.f28) [1, 1, 1, 1, 0, 1, 0] n s k
noncomputable abbrev k3  (fuel : Nat) : Kont := (kAt Try.prog X I fuel true 0 false 28 (bodyOf Try.f28) [1, 1, 1, 1, 0, 1, 0] [] (endK Try.prog Try.f28))
noncomputable def t3 (p1q1 : List Int) (p1q0 : List Int) (x3q2 : Int) (x3q5 : List Int) : St := ⟨[.dead, .dead, .dead, (.ptr 1000000000 0 0), (.ptr 1000000001 0 0), (.imm (.clo 65 [])), (.all 1000000002 1), .dead, .dead, .dead, .dead, .dead, .dead, .dead, .dead, .dead, .dead, .dead, .dead, .dead, .dead, .dead, .dead, .dead, (.imm (.ints .i64 p1q1)), (.imm (.int .i64 ((p1q1.length : Nat) : Int))), (.imm (.int .i64 x3q2)), .dead, .dead, .dead, .dead, .dead, .dead, .dead, .dead, .dead, .dead, .dead, .dead, .dead, .dead, .dead, .dead], hOf [(1000000000, (.box [(.imm (.ints .i64 p1q0)), (.imm (.ints .i64 p1q1))])), (1000000001, (.box [(.imm .nils), (.imm .nils)])), (1000000002, (.ints .i64 x3q5))], [], []⟩
theorem e (fuel : Nat) (p0 : Int) (p1q0 : List Int) (p1q1 : List Int) : runF Try.prog X I 0 fuel 28 Try.f28 [.d (.int .i64 p0), .d (.agg [(.ints .i64 p1q0), (.ints .i64 p1q1)])] =
  (bif decide (p0 = 1) then
  (bif decide (p1q0.length < 9223372036854775808) && decide (p1q1.length < 9223372036854775808) then
  (bif (!(validA p1q0 p1q1)) then
  some ([.agg [((.ints .i64 []), true), ((.ints .i64 []), true)]], [])
  else
  (bif decide (0 ≤ (((p1q1.length : Nat) : Int) : Int)) && decide ((((p1q1.length : Nat) : Int) : Int) ≤ ((p1q1.length : Nat) : Int)) && decide ((((p1q1.length : Nat) : Int) : Int) ≤ 1152921504606846976) && decide (((8 : Nat) : Int) * ((p1q1.length : Nat) : Int) ≤ 281474976710656) then
  L3 fuel fuel (t3 p1q1 p1q0 0 ((List.replicate (((p1q1.length : Nat) : Int)).toNat (0 : Int)))) (k3  fuel)
  else
  none))
  else
  none)
  else
  (bif decide (p0 = 2) then
  (bif decide (p1q0.length < 9223372036854775808) && decide (p1q1.length < 9223372036854775808) then
  (bif (!(validA p1q0 p1q1)) then
  some ([.agg [((.ints .i64 []), true), ((.ints .i64 []), true)]], [])
  else
  (bif decide (0 ≤ (((p1q1.length : Nat) : Int) : Int)) && decide ((((p1q1.length : Nat) : Int) : Int) ≤ ((p1q1.length : Nat) : Int)) && decide ((((p1q1.length : Nat) : Int) : Int) ≤ 1152921504606846976) && decide (((8 : Nat) : Int) * ((p1q1.length : Nat) : Int) ≤ 281474976710656) then
  L2 fuel fuel (t2 p1q1 p1q0 0 ((List.replicate (((p1q1.length : Nat) : Int)).toNat (0 : Int)))) (k2  fuel)
  else
  none))
  else
  none)
  else
  (bif decide (p0 = 3) then
  (bif decide (p1q0.length < 9223372036854775808) && decide (p1q1.length < 9223372036854775808) then
  (bif (!(validA p1q0 p1q1)) then
  some ([.agg [((.ints .i64 []), true), ((.ints .i64 []), true)]], [])
  else
  (bif decide (0 ≤ (((p1q1.length : Nat) : Int) : Int)) && decide ((((p1q1.length : Nat) : Int) : Int) ≤ ((p1q1.length : Nat) : Int)) && decide ((((p1q1.length : Nat) : Int) : Int) ≤ 1152921504606846976) && decide (((8 : Nat) : Int) * ((p1q1.length : Nat) : Int) ≤ 281474976710656) then
  L1 fuel fuel (t1 p1q1 p1q0 0 ((List.replicate (((p1q1.length : Nat) : Int)).toNat (0 : Int)))) (k1  fuel)
  else
  none))
  else
  none)
  else
  (bif decide (p0 = 4) then
  (bif decide (p1q0.length < 9223372036854775808) && decide (p1q1.length < 9223372036854775808) then
  (bif (!(validA p1q0 p1q1)) then
  some ([.agg [((.ints .i64 []), true), ((.ints .i64 []), true)]], [])
  else
  (bif decide (0 ≤ (((p1q1.length : Nat) : Int) : Int)) && decide ((((p1q1.length : Nat) : Int) : Int) ≤ ((p1q1.length : Nat) : Int)) && decide ((((p1q1.length : Nat) : Int) : Int) ≤ 1152921504606846976) && decide (((8 : Nat) : Int) * ((p1q1.length : Nat) : Int) ≤ 281474976710656) then
  L0 fuel fuel (t0 p1q1 p1q0 0 ((List.replicate (((p1q1.length : Nat) : Int)).toNat (0 : Int)))) (k0  fuel)
  else
  none))
  else
  none)
  else
  some ([.agg [((.ints .i64 []), true), ((.ints .i64 []), true)]], []))))) := by kernel_rfl
theorem s0 (fuel n0 : Nat) (p1q1 : List Int) (p1q0 : List Int) (x0q2 : Int) (x0q5 : List Int) : L0 fuel (n0 + 1) (t0 p1q1 p1q0 x0q2 x0q5) (k0  fuel) =
  (bif (decide ((x0q2 : Int) < ((p1q1.length : Nat) : Int))) then
  (idx x0q2 p1q1.length).bind fun j7 =>
  (p1q1[j7]?).bind fun v8 =>
  (idx x0q2 x0q5.length).bind fun j9 =>
  (bif decide (j9 < x0q5.length) then
  L0 fuel n0 (t0 p1q1 p1q0 ((IntKind.wrap .i64 (x0q2 + 1))) ((x0q5.set j9 (tInt (v8 == 0))))) (k0  fuel)
  else
  none)
  else
  (bif szB p1q0 then
  some ([.agg [((.ints .i64 p1q0), true), ((.ints .i64 x0q5), true)]], [])
  else
  none)) := by kernel_rfl
theorem s1 (fuel n1 : Nat) (p1q1 : List Int) (p1q0 : List Int) (x1q2 : Int) (x1q5 : List Int) : L1 fuel (n1 + 1) (t1 p1q1 p1q0 x1q2 x1q5) (k1  fuel) =
  (bif (decide ((x1q2 : Int) < ((p1q1.length : Nat) : Int))) then
  (idx x1q2 p1q1.length).bind fun j16 =>
  (p1q1[j16]?).bind fun v17 =>
  (idx x1q2 x1q5.length).bind fun j18 =>
  (bif decide (j18 < x1q5.length) then
  L1 fuel n1 (t1 p1q1 p1q0 ((IntKind.wrap .i64 (x1q2 + 1))) ((x1q5.set j18 (sgnV v17)))) (k1  fuel)
  else
  none)
  else
  (bif szB p1q0 then
  some ([.agg [((.ints .i64 p1q0), true), ((.ints .i64 x1q5), true)]], [])
  else
  none)) := by kernel_rfl
theorem s2 (fuel n2 : Nat) (p1q1 : List Int) (p1q0 : List Int) (x2q2 : Int) (x2q5 : List Int) : L2 fuel (n2 + 1) (t2 p1q1 p1q0 x2q2 x2q5) (k2  fuel) =
  (bif (decide ((x2q2 : Int) < ((p1q1.length : Nat) : Int))) then
  (idx x2q2 p1q1.length).bind fun j25 =>
  (p1q1[j25]?).bind fun v26 =>
  (idx x2q2 x2q5.length).bind fun j27 =>
  (bif decide (j27 < x2q5.length) then
  L2 fuel n2 (t2 p1q1 p1q0 ((IntKind.wrap .i64 (x2q2 + 1))) ((x2q5.set j27 (absV v26)))) (k2  fuel)
  else
  none)
  else
  (bif szB p1q0 then
  some ([.agg [((.ints .i64 p1q0), true), ((.ints .i64 x2q5), true)]], [])
  else
  none)) := by kernel_rfl
theorem s3 (fuel n3 : Nat) (p1q1 : List Int) (p1q0 : List Int) (x3q2 : Int) (x3q5 : List Int) : L3 fuel (n3 + 1) (t3 p1q1 p1q0 x3q2 x3q5) (k3  fuel) =
  (bif (decide ((x3q2 : Int) < ((p1q1.length : Nat) : Int))) then
  (idx x3q2 p1q1.length).bind fun j34 =>
  (p1q1[j34]?).bind fun v35 =>
  (idx x3q2 x3q5.length).bind fun j36 =>
  (bif decide (j36 < x3q5.length) then
  L3 fuel n3 (t3 p1q1 p1q0 ((IntKind.wrap .i64 (x3q2 + 1))) ((x3q5.set j36 (IntKind.wrap .i64 (0 - v35))))) (k3  fuel)
  else
  none)
  else
  (bif szB p1q0 then
  some ([.agg [((.ints .i64 p1q0), true), ((.ints .i64 x3q5), true)]], [])
  else
  none)) := by kernel_rfl
end impl_MapArray
theorem impl_MapArray.ok_of (hX : ∀ E ∈ impl_MapArray.X, CallSpec Try.prog E) (h : ∀ (fn : Int) (sh : List Int) (da : List Int), (decide (sh.length < 9223372036854775808) && decide (da.length < 9223372036854775808)) = true → ∃ fuel, runF Try.prog impl_MapArray.X impl_MapArray.I 0 fuel 28 Try.f28 [.d (.int .i64 fn), .d (.agg [(.ints .i64 sh), (.ints .i64 da)])] = some ([.agg [((.ints .i64 (mapS fn sh da)), true), ((.ints .i64 (mapD fn sh da)), true)]], [])) : CallSpec Try.prog impl_MapArray.E :=
  callSpec_of (d := 0) hX (by kernel_rfl) impl_MapArray.I_ok (by kernel_rfl) (by kernel_rfl) (by kernel_rfl) (fun _ _ _ _ h => by dsimp only [impl_MapArray.E] at h; cases h) (fun xs hp => by
    dsimp only [impl_MapArray.E] at hp ⊢
    split at hp
    · exact h _ _ _ hp
    · cases hp)
theorem impl_MapArray.loop3 (fuel : Nat) (sh da : List Int) (hv : validA sh da = true) : ∀ (m n j : Nat) (out : List Int), da.length - j = m → m < n → j ≤ da.length → out.length = da.length → out.take j = tab j (fun i => mapF 1 (da.getD i 0)) →
    impl_MapArray.L3 fuel n (impl_MapArray.t3 da sh (j : Int) out) (impl_MapArray.k3 fuel) = some ([.agg [(.ints .i64 (mapS 1 sh da), true), (.ints .i64 (mapD 1 sh da), true)]], []) := by
  have hl := validA_len hv
  intro m
  induction m with
  | zero =>
    intro n j out h1 h2 h3 h4 h5
    obtain ⟨n, rfl⟩ : ∃ n', n = n' + 1 := ⟨n - 1, by omega⟩
    have e1 := fill_end (n := da.length) h4 (by rw [show j = da.length by omega] at h5; exact h5)
    rw [impl_MapArray.s3, dge (by omega), szB_of (xs := sh) (by omega), e1]
    simp [mapS, mapD, mapB, fnOk, hv]
  | succ m ih =>
    intro n j out h1 h2 h3 h4 h5
    obtain ⟨n, rfl⟩ : ∃ n', n = n' + 1 := ⟨n - 1, by omega⟩
    have hj : j < da.length := by omega
    have hj2 : j < out.length := by omega
    rw [impl_MapArray.s3, dlt hj, idx_nat hj, idx_nat hj2, w1 (by omega)]
    simp only [cond_true, Option.bind_some, getS hj, hj2, decide_true]
    have e2 := fill_step (f := fun i => mapF 1 (da.getD i 0)) hj h4 h5
    have e3 : mapF 1 (da.getD j 0) = (fun n => IntKind.wrap .i64 (0 - n)) da[j] := by
      have : da.getD j 0 = da[j] := by simp [hj]
      rw [this]
      rfl
    rw [e3] at e2
    exact ih n (j + 1) _ (by omega) (by omega) (by omega) (by simpa using h4) e2
theorem impl_MapArray.loop2 (fuel : Nat) (sh da : List Int) (hv : validA sh da = true) : ∀ (m n j : Nat) (out : List Int), da.length - j = m → m < n → j ≤ da.length → out.length = da.length → out.take j = tab j (fun i => mapF 2 (da.getD i 0)) →
    impl_MapArray.L2 fuel n (impl_MapArray.t2 da sh (j : Int) out) (impl_MapArray.k2 fuel) = some ([.agg [(.ints .i64 (mapS 2 sh da), true), (.ints .i64 (mapD 2 sh da), true)]], []) := by
  have hl := validA_len hv
  intro m
  induction m with
  | zero =>
    intro n j out h1 h2 h3 h4 h5
    obtain ⟨n, rfl⟩ : ∃ n', n = n' + 1 := ⟨n - 1, by omega⟩
    have e1 := fill_end (n := da.length) h4 (by rw [show j = da.length by omega] at h5; exact h5)
    rw [impl_MapArray.s2, dge (by omega), szB_of (xs := sh) (by omega), e1]
    simp [mapS, mapD, mapB, fnOk, hv]
  | succ m ih =>
    intro n j out h1 h2 h3 h4 h5
    obtain ⟨n, rfl⟩ : ∃ n', n = n' + 1 := ⟨n - 1, by omega⟩
    have hj : j < da.length := by omega
    have hj2 : j < out.length := by omega
    rw [impl_MapArray.s2, dlt hj, idx_nat hj, idx_nat hj2, w1 (by omega)]
    simp only [cond_true, Option.bind_some, getS hj, hj2, decide_true]
    have e2 := fill_step (f := fun i => mapF 2 (da.getD i 0)) hj h4 h5
    have e3 : mapF 2 (da.getD j 0) = (absV) da[j] := by
      have : da.getD j 0 = da[j] := by simp [hj]
      rw [this]
      rfl
    rw [e3] at e2
    exact ih n (j + 1) _ (by omega) (by omega) (by omega) (by simpa using h4) e2
theorem impl_MapArray.loop1 (fuel : Nat) (sh da : List Int) (hv : validA sh da = true) : ∀ (m n j : Nat) (out : List Int), da.length - j = m → m < n → j ≤ da.length → out.length = da.length → out.take j = tab j (fun i => mapF 3 (da.getD i 0)) →
    impl_MapArray.L1 fuel n (impl_MapArray.t1 da sh (j : Int) out) (impl_MapArray.k1 fuel) = some ([.agg [(.ints .i64 (mapS 3 sh da), true), (.ints .i64 (mapD 3 sh da), true)]], []) := by
  have hl := validA_len hv
  intro m
  induction m with
  | zero =>
    intro n j out h1 h2 h3 h4 h5
    obtain ⟨n, rfl⟩ : ∃ n', n = n' + 1 := ⟨n - 1, by omega⟩
    have e1 := fill_end (n := da.length) h4 (by rw [show j = da.length by omega] at h5; exact h5)
    rw [impl_MapArray.s1, dge (by omega), szB_of (xs := sh) (by omega), e1]
    simp [mapS, mapD, mapB, fnOk, hv]
  | succ m ih =>
    intro n j out h1 h2 h3 h4 h5
    obtain ⟨n, rfl⟩ : ∃ n', n = n' + 1 := ⟨n - 1, by omega⟩
    have hj : j < da.length := by omega
    have hj2 : j < out.length := by omega
    rw [impl_MapArray.s1, dlt hj, idx_nat hj, idx_nat hj2, w1 (by omega)]
    simp only [cond_true, Option.bind_some, getS hj, hj2, decide_true]
    have e2 := fill_step (f := fun i => mapF 3 (da.getD i 0)) hj h4 h5
    have e3 : mapF 3 (da.getD j 0) = (sgnV) da[j] := by
      have : da.getD j 0 = da[j] := by simp [hj]
      rw [this]
      rfl
    rw [e3] at e2
    exact ih n (j + 1) _ (by omega) (by omega) (by omega) (by simpa using h4) e2
theorem impl_MapArray.loop0 (fuel : Nat) (sh da : List Int) (hv : validA sh da = true) : ∀ (m n j : Nat) (out : List Int), da.length - j = m → m < n → j ≤ da.length → out.length = da.length → out.take j = tab j (fun i => mapF 4 (da.getD i 0)) →
    impl_MapArray.L0 fuel n (impl_MapArray.t0 da sh (j : Int) out) (impl_MapArray.k0 fuel) = some ([.agg [(.ints .i64 (mapS 4 sh da), true), (.ints .i64 (mapD 4 sh da), true)]], []) := by
  have hl := validA_len hv
  intro m
  induction m with
  | zero =>
    intro n j out h1 h2 h3 h4 h5
    obtain ⟨n, rfl⟩ : ∃ n', n = n' + 1 := ⟨n - 1, by omega⟩
    have e1 := fill_end (n := da.length) h4 (by rw [show j = da.length by omega] at h5; exact h5)
    rw [impl_MapArray.s0, dge (by omega), szB_of (xs := sh) (by omega), e1]
    simp [mapS, mapD, mapB, fnOk, hv]
  | succ m ih =>
    intro n j out h1 h2 h3 h4 h5
    obtain ⟨n, rfl⟩ : ∃ n', n = n' + 1 := ⟨n - 1, by omega⟩
    have hj : j < da.length := by omega
    have hj2 : j < out.length := by omega
    rw [impl_MapArray.s0, dlt hj, idx_nat hj, idx_nat hj2, w1 (by omega)]
    simp only [cond_true, Option.bind_some, getS hj, hj2, decide_true]
    have e2 := fill_step (f := fun i => mapF 4 (da.getD i 0)) hj h4 h5
    have e3 : mapF 4 (da.getD j 0) = (fun n => tInt (n == 0)) da[j] := by
      have : da.getD j 0 = da[j] := by simp [hj]
      rw [this]
      rfl
    rw [e3] at e2
    exact ih n (j + 1) _ (by omega) (by omega) (by omega) (by simpa using h4) e2
theorem impl_MapArray.ok : CallSpec Try.prog impl_MapArray.E := impl_MapArray.ok_of (by simp [impl_MapArray.X, impl_functionOfOne.ok, impl_ValidArray.ok, impl_functionOfOne_1.ok, impl_functionOfOne_2.ok, impl_functionOfOne_3.ok, impl_absolute.ok, impl_copyList.ok]) fun fn sh da h => by
  refine ⟨da.length + 1, ?_⟩
  rw [impl_MapArray.e, h]
  cases hf : fnOk fn with
  | false =>
    have hn := fnOk_no hf
    rw [decide_eq_false (p := fn = 1) (by omega), decide_eq_false (p := fn = 2) (by omega), decide_eq_false (p := fn = 3) (by omega), decide_eq_false (p := fn = 4) (by omega)]
    simp [mapS, mapD, mapB, hf]
  | true =>
    cases hv : validA sh da with
    | false => rcases fnOk_cases hf with rfl | rfl | rfl | rfl <;> simp [mapS, mapD, mapB, hv]
    | true =>
      have hl := validA_len hv
      have hm := mkOk (n := ((da.length : Nat) : Int)) (by omega) (by omega)
      rcases fnOk_cases hf with rfl | rfl | rfl | rfl
      · rw [hm]
        exact impl_MapArray.loop3 (da.length + 1) sh da hv da.length (da.length + 1) 0 _ (by omega) (by omega) (by omega) (by simp) (by simp [tab])
      · rw [hm]
        exact impl_MapArray.loop2 (da.length + 1) sh da hv da.length (da.length + 1) 0 _ (by omega) (by omega) (by omega) (by simp) (by simp [tab])
      · rw [hm]
        exact impl_MapArray.loop1 (da.length + 1) sh da hv da.length (da.length + 1) 0 _ (by omega) (by omega) (by omega) (by simp) (by simp [tab])
      · rw [hm]
        exact impl_MapArray.loop0 (da.length + 1) sh da hv da.length (da.length + 1) 0 _ (by omega) (by omega) (by omega) (by simp) (by simp [tab])

namespace laws_FnTransposeMap
noncomputable def E : Entry := ⟨8, true, false, fun | [.d (.ints .u8 bs)] => bytesB bs | _ => false, fun | [.d (.ints .u8 bs)] => ([.one ((.bool true), false)], []) | _ => ([], []), fun _ => [], false, fun _ => none⟩
end laws_FnTransposeMap
namespace laws_FnTransposeMap
noncomputable def X : List Entry := [spec_DrawTranspose.E, impl_Transpose.E, spec_Transpose.E, laws_equalArray.E, impl_MapArray.E]
noncomputable def I : List Inl := [⟨8, Try.f8, ⟨[9, 11, 14, 18, 20, 21], [], [], [(7, [0, 2, 1, 3, 4, 5, 6])], [], []⟩⟩]
theorem I_ok : ∀ i ∈ I, Try.prog.funcs[i.f]? = some i.fn ∧ (i.fn.name == "runtime.NumGoroutine") = false := by
  intro i hi
  simp only [I, List.mem_cons, List.not_mem_nil, or_false] at hi
  subst hi
  exact ⟨by kernel_rfl, by kernel_rfl⟩
theorem e (fuel : Nat) (p0 : List Int) : runF Try.prog X I 0 fuel 8 Try.f8 [.d (.ints .u8 p0)] =
  (bif (decide ((((p0.length : Nat) : Int) : Int) > 1048576)) then
  some ([.one ((.bool true), false)], [])
  else
  (bif bytesB p0 then
  (bif decide (((aArS (cutC p0) 0)).length < 9223372036854775808) && decide (((aArD (cutC p0) 0)).length < 9223372036854775808) then
  (bif decide (((aArS (cutC p0) 0)).length < 9223372036854775808) && decide (((aArD (cutC p0) 0)).length < 9223372036854775808) then
  (bif decide (((trS ((aArS (cutC p0) 0)) ((aArD (cutC p0) 0)))).length < 9223372036854775808) && decide (((trD ((aArS (cutC p0) 0)) ((aArD (cutC p0) 0)))).length < 9223372036854775808) && decide (((trS ((aArS (cutC p0) 0)) ((aArD (cutC p0) 0)))).length < 9223372036854775808) && decide (((trD ((aArS (cutC p0) 0)) ((aArD (cutC p0) 0)))).length < 9223372036854775808) then
  (bif (!(decide (((trS ((aArS (cutC p0) 0)) ((aArD (cutC p0) 0)))) = ((trS ((aArS (cutC p0) 0)) ((aArD (cutC p0) 0))))) && decide (((trD ((aArS (cutC p0) 0)) ((aArD (cutC p0) 0)))) = ((trD ((aArS (cutC p0) 0)) ((aArD (cutC p0) 0))))))) then
  some ([.one ((.bool false), false)], [])
  else
  (bif decide (((trS ((aArS (cutC p0) 0)) ((aArD (cutC p0) 0)))).length < 9223372036854775808) && decide (((trD ((aArS (cutC p0) 0)) ((aArD (cutC p0) 0)))).length < 9223372036854775808) then
  (bif decide (((aArS (cutC p0) 0)).length < 9223372036854775808) && decide (((aArD (cutC p0) 0)).length < 9223372036854775808) then
  (bif decide (((mapS 1 ((aArS (cutC p0) 0)) ((aArD (cutC p0) 0)))).length < 9223372036854775808) && decide (((mapD 1 ((aArS (cutC p0) 0)) ((aArD (cutC p0) 0)))).length < 9223372036854775808) then
  (bif decide (((mapS 1 ((trS ((aArS (cutC p0) 0)) ((aArD (cutC p0) 0)))) ((trD ((aArS (cutC p0) 0)) ((aArD (cutC p0) 0)))))).length < 9223372036854775808) && decide (((mapD 1 ((trS ((aArS (cutC p0) 0)) ((aArD (cutC p0) 0)))) ((trD ((aArS (cutC p0) 0)) ((aArD (cutC p0) 0)))))).length < 9223372036854775808) && decide (((trS ((mapS 1 ((aArS (cutC p0) 0)) ((aArD (cutC p0) 0)))) ((mapD 1 ((aArS (cutC p0) 0)) ((aArD (cutC p0) 0)))))).length < 9223372036854775808) && decide (((trD ((mapS 1 ((aArS (cutC p0) 0)) ((aArD (cutC p0) 0)))) ((mapD 1 ((aArS (cutC p0) 0)) ((aArD (cutC p0) 0)))))).length < 9223372036854775808) then
  some ([.one ((.bool (decide (((mapS 1 ((trS ((aArS (cutC p0) 0)) ((aArD (cutC p0) 0)))) ((trD ((aArS (cutC p0) 0)) ((aArD (cutC p0) 0)))))) = ((trS ((mapS 1 ((aArS (cutC p0) 0)) ((aArD (cutC p0) 0)))) ((mapD 1 ((aArS (cutC p0) 0)) ((aArD (cutC p0) 0))))))) && decide (((mapD 1 ((trS ((aArS (cutC p0) 0)) ((aArD (cutC p0) 0)))) ((trD ((aArS (cutC p0) 0)) ((aArD (cutC p0) 0)))))) = ((trD ((mapS 1 ((aArS (cutC p0) 0)) ((aArD (cutC p0) 0)))) ((mapD 1 ((aArS (cutC p0) 0)) ((aArD (cutC p0) 0))))))))), false)], [])
  else
  none)
  else
  none)
  else
  none)
  else
  none))
  else
  none)
  else
  none)
  else
  none)
  else
  none)) := by kernel_rfl
end laws_FnTransposeMap
theorem laws_FnTransposeMap.ok_of (hX : ∀ E ∈ laws_FnTransposeMap.X, CallSpec Try.prog E) (h : ∀ (bs : List Int), (bytesB bs) = true → ∃ fuel, runF Try.prog laws_FnTransposeMap.X laws_FnTransposeMap.I 0 fuel 8 Try.f8 [.d (.ints .u8 bs)] = some ([.one ((.bool true), false)], [])) : CallSpec Try.prog laws_FnTransposeMap.E :=
  callSpec_of (d := 0) hX (by kernel_rfl) laws_FnTransposeMap.I_ok (by kernel_rfl) (by kernel_rfl) (by kernel_rfl) (fun _ _ _ _ h => by dsimp only [laws_FnTransposeMap.E] at h; cases h) (fun xs hp => by
    dsimp only [laws_FnTransposeMap.E] at hp ⊢
    split at hp
    · exact h _ hp
    · cases hp)
theorem laws_FnTransposeMap.ok : CallSpec Try.prog laws_FnTransposeMap.E := laws_FnTransposeMap.ok_of (by simp [laws_FnTransposeMap.X, spec_DrawTranspose.ok, impl_Transpose.ok, spec_Transpose.ok, laws_equalArray.ok, impl_MapArray.ok]) fun bs h => by
  obtain ⟨F, hF⟩ : ∃ F : Nat, 4000 < F := ⟨4001, by omega⟩
  refine ⟨F, ?_⟩
  rw [laws_FnTransposeMap.e]
  by_cases hl : ((bs.length : Nat) : Int) > 1048576
  · rw [decide_eq_true hl]; rfl
  rw [decide_eq_false hl, cond_false, h, cond_true]
  have r0 := cut_ok h (p := 0) (by omega) (by omega)
  obtain ⟨a1, a2, _, _⟩ := aAr_bd r0 (by omega)
  generalize aArS (cutC bs) 0 = sh at *
  generalize aArD (cutC bs) 0 = da at *
  have g1 := lt_of (xs := sh) (by omega)
  have g2 := lt_of (xs := da) (by omega)
  cases hv : validA sh da with
  | false =>
    simp only [trS, trD, mapS, mapD, mapB, hv, g1, g2, Bool.and_false, Bool.and_self, cond_true, cond_false]
    rfl
  | true =>
    obtain ⟨e1, e2, e3, e4, e5⟩ := tr_eq hv
    have hl := validA_len hv
    obtain ⟨m1, m2⟩ := mapS_eq (fn := 1) rfl hv
    have hvm := map_valid 1 hv
    obtain ⟨f1, f2, f3, f4, f5⟩ := tr_eq hvm
    obtain ⟨n1, n2⟩ := mapS_eq (fn := 1) rfl e3
    have hS : trS sh (mapX 1 da) = trS sh da := by rw [f1, e1]
    have hD : trD sh (mapX 1 da) = mapX 1 (trD sh da) := by rw [f2, e2, map_mv 1 (tr_mv hv)]
    have hx := mapX_length 1 da
    have hy := mapX_length 1 (trD sh da)
    have g3 := lt_of (xs := trS sh da) (by omega)
    have g4 := lt_of (xs := trD sh da) (by omega)
    have g5 := lt_of (xs := mapX 1 da) (by omega)
    have g6 := lt_of (xs := mapX 1 (trD sh da)) (by omega)
    simp only [Bool.and_self, Bool.and_true, Bool.true_and, cond_true, cond_false, Bool.not_true, Bool.not_false, bne_self_eq_false, beq_self_eq_true, decide_true, eq_self, g1, g2, g3, g4, g5, g6, hv, m1, m2, n1, n2, hS, hD]

end Go.Ab
