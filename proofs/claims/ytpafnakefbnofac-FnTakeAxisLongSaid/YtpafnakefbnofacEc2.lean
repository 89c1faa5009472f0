import Derived.Test.YtpafnakefbnofacEc1
import Derived.Test.YtpafnakefbnofacProg
import Derived.Test.YtpafnakefbnofacChecked
open Go Go.Ab Go.Proofs
set_option maxRecDepth 100000
set_option linter.unusedVariables false
set_option linter.unusedSimpArgs false
namespace Go.Ab
namespace laws_FnDropAxis
noncomputable def E : Entry := ⟨5, true, false, fun | [.d (.ints .u8 bs)] => bytesB bs | _ => false, fun | [.d (.ints .u8 bs)] => ([.one ((.bool true), false)], []) | _ => ([], []), fun _ => [], false, fun _ => none⟩
end laws_FnDropAxis
namespace laws_FnDropAxis
noncomputable def X : List Entry := [spec_DrawDropAxis.E, impl_DropAxis.E, spec_DropAxis.E, laws_equalArray.E, impl_RankOf.E]
noncomputable def I : List Inl := [⟨5, Try.f5, ⟨[14, 21, 26, 38, 42, 44, 47, 49], [], [], [(5, [2, 3, 0, 1, 4, 5, 6, 7, 8, 9, 10, 11]), (6, [2, 3, 0, 1, 4, 5, 6]), (9, [0, 2, 5, 7, 10, 11, 12, 13, 1, 3, 4, 6, 8, 9, 14, 15, 16, 17, 18, 19, 20, 21, 22])], [], []⟩⟩]
theorem I_ok : ∀ i ∈ I, Try.prog.funcs[i.f]? = some i.fn ∧ (i.fn.name == "runtime.NumGoroutine") = false := by
  intro i hi
  simp only [I, List.mem_cons, List.not_mem_nil, or_false] at hi
  subst hi
  exact ⟨by kernel_rfl, by kernel_rfl⟩
theorem e (fuel : Nat) (p0 : List Int) : runF Try.prog X I 0 fuel 5 Try.f5 [.d (.ints .u8 p0)] =
  (bif (decide ((((p0.length : Nat) : Int) : Int) > 1048576)) then
  some ([.one ((.bool true), false)], [])
  else
  (bif bytesB p0 then
  (bif decide (((aArS (cutC p0) 0)).length < 9223372036854775808) && decide (((aArD (cutC p0) 0)).length < 9223372036854775808) then
  (bif decide (((aArS (cutC p0) 0)).length < 9223372036854775808) && decide (((aArD (cutC p0) 0)).length < 9223372036854775808) then
  (bif decide (((drS ((aArS (cutC p0) 0)) ((aArD (cutC p0) 0)) ((dAx (cutC p0))) ((oneV (cutC p0) (dAxP (cutC p0)) takL)))).length < 9223372036854775808) && decide (((drD ((aArS (cutC p0) 0)) ((aArD (cutC p0) 0)) ((dAx (cutC p0))) ((oneV (cutC p0) (dAxP (cutC p0)) takL)))).length < 9223372036854775808) && decide (((drS ((aArS (cutC p0) 0)) ((aArD (cutC p0) 0)) ((dAx (cutC p0))) ((oneV (cutC p0) (dAxP (cutC p0)) takL)))).length < 9223372036854775808) && decide (((drD ((aArS (cutC p0) 0)) ((aArD (cutC p0) 0)) ((dAx (cutC p0))) ((oneV (cutC p0) (dAxP (cutC p0)) takL)))).length < 9223372036854775808) then
  (bif (!(decide (((drS ((aArS (cutC p0) 0)) ((aArD (cutC p0) 0)) ((dAx (cutC p0))) ((oneV (cutC p0) (dAxP (cutC p0)) takL)))) = ((drS ((aArS (cutC p0) 0)) ((aArD (cutC p0) 0)) ((dAx (cutC p0))) ((oneV (cutC p0) (dAxP (cutC p0)) takL))))) && decide (((drD ((aArS (cutC p0) 0)) ((aArD (cutC p0) 0)) ((dAx (cutC p0))) ((oneV (cutC p0) (dAxP (cutC p0)) takL)))) = ((drD ((aArS (cutC p0) 0)) ((aArD (cutC p0) 0)) ((dAx (cutC p0))) ((oneV (cutC p0) (dAxP (cutC p0)) takL))))))) then
  (bif decide (((aArS (cutC p0) 0)).length < 9223372036854775808) && decide (((aArD (cutC p0) 0)).length < 9223372036854775808) then
  (bif decide (((drS ((aArS (cutC p0) 0)) ((aArD (cutC p0) 0)) ((dAx (cutC p0))) ((oneV (cutC p0) (dAxP (cutC p0)) takL)))).length < 9223372036854775808) && decide (((drD ((aArS (cutC p0) 0)) ((aArD (cutC p0) 0)) ((dAx (cutC p0))) ((oneV (cutC p0) (dAxP (cutC p0)) takL)))).length < 9223372036854775808) && decide (((drS ((aArS (cutC p0) 0)) ((aArD (cutC p0) 0)) ((dAx (cutC p0))) ((oneV (cutC p0) (dAxP (cutC p0)) takL)))).length < 9223372036854775808) && decide (((drD ((aArS (cutC p0) 0)) ((aArD (cutC p0) 0)) ((dAx (cutC p0))) ((oneV (cutC p0) (dAxP (cutC p0)) takL)))).length < 9223372036854775808) then
  some ([.one ((.bool (decide (((drS ((aArS (cutC p0) 0)) ((aArD (cutC p0) 0)) ((dAx (cutC p0))) ((oneV (cutC p0) (dAxP (cutC p0)) takL)))) = ((drS ((aArS (cutC p0) 0)) ((aArD (cutC p0) 0)) ((dAx (cutC p0))) ((oneV (cutC p0) (dAxP (cutC p0)) takL))))) && decide (((drD ((aArS (cutC p0) 0)) ((aArD (cutC p0) 0)) ((dAx (cutC p0))) ((oneV (cutC p0) (dAxP (cutC p0)) takL)))) = ((drD ((aArS (cutC p0) 0)) ((aArD (cutC p0) 0)) ((dAx (cutC p0))) ((oneV (cutC p0) (dAxP (cutC p0)) takL))))))), false)], [])
  else
  none)
  else
  none)
  else
  (bif decide (((drS ((aArS (cutC p0) 0)) ((aArD (cutC p0) 0)) ((dAx (cutC p0))) ((oneV (cutC p0) (dAxP (cutC p0)) takL)))).length < 9223372036854775808) && decide (((drD ((aArS (cutC p0) 0)) ((aArD (cutC p0) 0)) ((dAx (cutC p0))) ((oneV (cutC p0) (dAxP (cutC p0)) takL)))).length < 9223372036854775808) then
  (bif (decide (((rankV ((drS ((aArS (cutC p0) 0)) ((aArD (cutC p0) 0)) ((dAx (cutC p0))) ((oneV (cutC p0) (dAxP (cutC p0)) takL)))) ((drD ((aArS (cutC p0) 0)) ((aArD (cutC p0) 0)) ((dAx (cutC p0))) ((oneV (cutC p0) (dAxP (cutC p0)) takL))))) : Int) < 1)) then
  (bif decide (((aArS (cutC p0) 0)).length < 9223372036854775808) && decide (((aArD (cutC p0) 0)).length < 9223372036854775808) then
  (bif decide (((drS ((aArS (cutC p0) 0)) ((aArD (cutC p0) 0)) ((dAx (cutC p0))) ((oneV (cutC p0) (dAxP (cutC p0)) takL)))).length < 9223372036854775808) && decide (((drD ((aArS (cutC p0) 0)) ((aArD (cutC p0) 0)) ((dAx (cutC p0))) ((oneV (cutC p0) (dAxP (cutC p0)) takL)))).length < 9223372036854775808) && decide (((drS ((aArS (cutC p0) 0)) ((aArD (cutC p0) 0)) ((dAx (cutC p0))) ((oneV (cutC p0) (dAxP (cutC p0)) takL)))).length < 9223372036854775808) && decide (((drD ((aArS (cutC p0) 0)) ((aArD (cutC p0) 0)) ((dAx (cutC p0))) ((oneV (cutC p0) (dAxP (cutC p0)) takL)))).length < 9223372036854775808) then
  some ([.one ((.bool (decide (((drS ((aArS (cutC p0) 0)) ((aArD (cutC p0) 0)) ((dAx (cutC p0))) ((oneV (cutC p0) (dAxP (cutC p0)) takL)))) = ((drS ((aArS (cutC p0) 0)) ((aArD (cutC p0) 0)) ((dAx (cutC p0))) ((oneV (cutC p0) (dAxP (cutC p0)) takL))))) && decide (((drD ((aArS (cutC p0) 0)) ((aArD (cutC p0) 0)) ((dAx (cutC p0))) ((oneV (cutC p0) (dAxP (cutC p0)) takL)))) = ((drD ((aArS (cutC p0) 0)) ((aArD (cutC p0) 0)) ((dAx (cutC p0))) ((oneV (cutC p0) (dAxP (cutC p0)) takL))))))), false)], [])
  else
  none)
  else
  none)
  else
  (bif decide (((aArS (cutC p0) 0)).length < 9223372036854775808) && decide (((aArD (cutC p0) 0)).length < 9223372036854775808) then
  (bif decide (((drS ((aArS (cutC p0) 0)) ((aArD (cutC p0) 0)) ((dAx (cutC p0))) 1)).length < 9223372036854775808) && decide (((drD ((aArS (cutC p0) 0)) ((aArD (cutC p0) 0)) ((dAx (cutC p0))) 1)).length < 9223372036854775808) then
  (bif decide (((aArS (cutC p0) 0)).length < 9223372036854775808) && decide (((aArD (cutC p0) 0)).length < 9223372036854775808) then
  (bif decide (((drS ((aArS (cutC p0) 0)) ((aArD (cutC p0) 0)) ((dAx (cutC p0))) ((-1)))).length < 9223372036854775808) && decide (((drD ((aArS (cutC p0) 0)) ((aArD (cutC p0) 0)) ((dAx (cutC p0))) ((-1)))).length < 9223372036854775808) then
  (idx (dAx (cutC p0)) (drS ((aArS (cutC p0) 0)) ((aArD (cutC p0) 0)) ((dAx (cutC p0))) ((oneV (cutC p0) (dAxP (cutC p0)) takL))).length).bind fun j1 =>
  ((drS ((aArS (cutC p0) 0)) ((aArD (cutC p0) 0)) ((dAx (cutC p0))) ((oneV (cutC p0) (dAxP (cutC p0)) takL)))[j1]?).bind fun v2 =>
  (idx (dAx (cutC p0)) (aArS (cutC p0) 0).length).bind fun j3 =>
  ((aArS (cutC p0) 0)[j3]?).bind fun v4 =>
  (bif ((v2 : Int) == (maxI 0 (IntKind.wrap .i64 (v4 - (maxI (oneV (cutC p0) (dAxP (cutC p0)) takL) (IntKind.wrap .i64 (0 - (oneV (cutC p0) (dAxP (cutC p0)) takL)))))))) then
  (bif decide (((drS ((drS ((aArS (cutC p0) 0)) ((aArD (cutC p0) 0)) ((dAx (cutC p0))) 1)) ((drD ((aArS (cutC p0) 0)) ((aArD (cutC p0) 0)) ((dAx (cutC p0))) 1)) ((dAx (cutC p0))) ((-1)))).length < 9223372036854775808) && decide (((drD ((drS ((aArS (cutC p0) 0)) ((aArD (cutC p0) 0)) ((dAx (cutC p0))) 1)) ((drD ((aArS (cutC p0) 0)) ((aArD (cutC p0) 0)) ((dAx (cutC p0))) 1)) ((dAx (cutC p0))) ((-1)))).length < 9223372036854775808) && decide (((drS ((drS ((aArS (cutC p0) 0)) ((aArD (cutC p0) 0)) ((dAx (cutC p0))) ((-1)))) ((drD ((aArS (cutC p0) 0)) ((aArD (cutC p0) 0)) ((dAx (cutC p0))) ((-1)))) ((dAx (cutC p0))) 1)).length < 9223372036854775808) && decide (((drD ((drS ((aArS (cutC p0) 0)) ((aArD (cutC p0) 0)) ((dAx (cutC p0))) ((-1)))) ((drD ((aArS (cutC p0) 0)) ((aArD (cutC p0) 0)) ((dAx (cutC p0))) ((-1)))) ((dAx (cutC p0))) 1)).length < 9223372036854775808) then
  some ([.one ((.bool (decide (((drS ((drS ((aArS (cutC p0) 0)) ((aArD (cutC p0) 0)) ((dAx (cutC p0))) 1)) ((drD ((aArS (cutC p0) 0)) ((aArD (cutC p0) 0)) ((dAx (cutC p0))) 1)) ((dAx (cutC p0))) ((-1)))) = ((drS ((drS ((aArS (cutC p0) 0)) ((aArD (cutC p0) 0)) ((dAx (cutC p0))) ((-1)))) ((drD ((aArS (cutC p0) 0)) ((aArD (cutC p0) 0)) ((dAx (cutC p0))) ((-1)))) ((dAx (cutC p0))) 1))) && decide (((drD ((drS ((aArS (cutC p0) 0)) ((aArD (cutC p0) 0)) ((dAx (cutC p0))) 1)) ((drD ((aArS (cutC p0) 0)) ((aArD (cutC p0) 0)) ((dAx (cutC p0))) 1)) ((dAx (cutC p0))) ((-1)))) = ((drD ((drS ((aArS (cutC p0) 0)) ((aArD (cutC p0) 0)) ((dAx (cutC p0))) ((-1)))) ((drD ((aArS (cutC p0) 0)) ((aArD (cutC p0) 0)) ((dAx (cutC p0))) ((-1)))) ((dAx (cutC p0))) 1))))), false)], [])
  else
  none)
  else
  some ([.one ((.bool false), false)], []))
  else
  none)
  else
  none)
  else
  none)
  else
  none))
  else
  none))
  else
  none)
  else
  none)
  else
  none)
  else
  none)) := by kernel_rfl
end laws_FnDropAxis
theorem laws_FnDropAxis.ok_of (hX : ∀ E ∈ laws_FnDropAxis.X, CallSpec Try.prog E) (h : ∀ (bs : List Int), (bytesB bs) = true → ∃ fuel, runF Try.prog laws_FnDropAxis.X laws_FnDropAxis.I 0 fuel 5 Try.f5 [.d (.ints .u8 bs)] = some ([.one ((.bool true), false)], [])) : CallSpec Try.prog laws_FnDropAxis.E :=
  callSpec_of (d := 0) hX (by kernel_rfl) laws_FnDropAxis.I_ok (by kernel_rfl) (by kernel_rfl) (by kernel_rfl) (fun _ _ _ _ h => by dsimp only [laws_FnDropAxis.E] at h; cases h) (fun xs hp => by
    dsimp only [laws_FnDropAxis.E] at hp ⊢
    split at hp
    · exact h _ hp
    · cases hp)
theorem laws_FnDropAxis.ok : CallSpec Try.prog laws_FnDropAxis.E := laws_FnDropAxis.ok_of (by simp [laws_FnDropAxis.X, spec_DrawDropAxis.ok, impl_DropAxis.ok, spec_DropAxis.ok, laws_equalArray.ok, impl_RankOf.ok]) fun bs h => by
  obtain ⟨F, hF⟩ : ∃ F : Nat, 4000 < F := ⟨4001, by omega⟩
  refine ⟨F, ?_⟩
  rw [laws_FnDropAxis.e]
  by_cases hl : ((bs.length : Nat) : Int) > 1048576
  · rw [decide_eq_true hl]; rfl
  rw [decide_eq_false hl, cond_false, h, cond_true]
  have r0 := cut_ok h (p := 0) (by omega) (by omega)
  obtain ⟨a1, a2, _, _⟩ := aAr_bd r0 (by omega)
  obtain ⟨sh, hsh⟩ : ∃ x, aArS (cutC bs) 0 = x := ⟨_, rfl⟩
  obtain ⟨da, hda⟩ : ∃ x, aArD (cutC bs) 0 = x := ⟨_, rfl⟩
  obtain ⟨k, hk⟩ : ∃ x, dAx (cutC bs) = x := ⟨_, rfl⟩
  rw [hsh] at a1
  rw [hda] at a2
  have g1 := lt_of (xs := sh) (by omega)
  have g2 := lt_of (xs := da) (by omega)
  obtain ⟨n, hn⟩ : ∃ x, oneV (cutC bs) (dAxP (cutC bs)) takL = x := ⟨_, rfl⟩
  simp only [hsh, hda, hk, hn]
  cases hb : drB sh da k n with
  | false =>
    simp only [drS, drD, hb, g1, g2, Bool.and_self, cond_true, cond_false]
    rfl
  | true =>
    have hb' := hb
    simp only [drB, Bool.and_eq_true] at hb'
    have hc := cntB_inv hb'.2
    obtain ⟨j, rfl, hj, hv, ax, hd, hl⟩ := axB_inv hb'.1
    have hvs := (validA_inv hv).1
    have hr := ax.rank
    have hL := ax.len_le
    have hvd : ∀ m, validS (alS sh j (drL (lenN sh j) m)) = true := fun m => dr_valid m hvs hj
    have hv2 : ∀ m, validA (alS sh j (drL (lenN sh j) m)) (alA sh da j (drL (lenN sh j) m)) = true := fun m => al_valid hv hj (hvd m)
    have g3 : ∀ m, decide ((alS sh j (drL (lenN sh j) m)).length < 9223372036854775808) = true := fun m => lt_of (by have := validA_len (hv2 m); omega)
    have g4 : ∀ m, decide ((alA sh da j (drL (lenN sh j) m)).length < 9223372036854775808) = true := fun m => lt_of (by have := validA_len (hv2 m); omega)
    have hb2 : ∀ m, cntB m = true → drB sh da j m = true := fun m hm => by simp only [drB, hb'.1, hm, Bool.and_self]
    have hrk : ∀ m, decide ((((alS sh j (drL (lenN sh j) m)).length : Nat) : Int) < 1) = false := fun m => decide_eq_false (by rw [alS_len]; omega)
    have hj2 : ∀ m, j < (alS sh j (drL (lenN sh j) m)).length := fun m => by rw [alS_len]; exact hj
    have hgd : ∀ m, (alS sh j (drL (lenN sh j) m))[j]? = some ((lenN sh j - m.natAbs : Nat) : Int) := fun m => by
      have e := getD_get (hj2 m)
      rw [(ax_of (hvd m) (hj2 m)).len, lenK_set hj, drL_length] at e
      exact e
    have i1 := fun m => idx_nat (hj2 m)
    have i3 := idx_nat hj
    have i4 := getD_get hj
    rw [ax.len] at i4
    have hm : maxI 0 (IntKind.wrap .i64 (((lenN sh j : Nat) : Int) - maxI n (IntKind.wrap .i64 (0 - n)))) = ((lenN sh j - n.natAbs : Nat) : Int) := by
      have e : IntKind.wrap .i64 (0 - n) = -n := by rw [wS (by omega) (by omega)]; omega
      have e2 : maxI n (-n) = ((n.natAbs : Nat) : Int) := by unfold maxI; split <;> omega
      rw [e, e2, wS (by omega) (by omega)]
      unfold maxI
      split <;> omega
    have b1 := hb2 1 rfl
    have b2 := hb2 (-1) rfl
    have d1 : ∀ m m' : Int, cntB m' = true → drB (alS sh j (drL (lenN sh j) m)) (alA sh da j (drL (lenN sh j) m)) j m' = true := fun m m' hm' => by simp only [drB, axB_of (hv2 m) (hj2 m), hm', Bool.and_self]
    have d2 := d1 1 (-1) rfl
    have d3 := d1 (-1) 1 rfl
    have hln : ∀ m, lenN (alS sh j (drL (lenN sh j) m)) j = (drL (lenN sh j) m).length := fun m => lenK_set hj
    have x1 := al_al (sh := sh) (da := da) (k := j) (ls := drL (lenN sh j) 1) (js := drL (drL (lenN sh j) 1).length (-1)) hj drL_lt
    have x2 := al_al (sh := sh) (da := da) (k := j) (ls := drL (lenN sh j) (-1)) (js := drL (drL (lenN sh j) (-1)).length 1) hj drL_lt
    rw [dr_dr, ← x2] at x1
    have hSS : alS (alS sh j (drL (lenN sh j) 1)) j (drL (drL (lenN sh j) 1).length (-1)) = alS (alS sh j (drL (lenN sh j) (-1))) j (drL (drL (lenN sh j) (-1)).length 1) := by
      simp only [alS, drL_length, List.set_set]
      rfl
    have hv4 := al_valid (ls := drL (drL (lenN sh j) (-1)).length 1) (hv2 (-1)) (hj2 (-1)) (by have := dr_valid 1 (hvd (-1)) (hj2 (-1)); rwa [hln] at this)
    have hl4 := validA_len hv4
    have g5 := lt_of (xs := alS (alS sh j (drL (lenN sh j) (-1))) j (drL (drL (lenN sh j) (-1)).length 1)) (by omega)
    have g6 := lt_of (xs := alA (alS sh j (drL (lenN sh j) (-1))) (alA sh da j (drL (lenN sh j) (-1))) j (drL (drL (lenN sh j) (-1)).length 1)) (by omega)
    simp only [Bool.and_self, Bool.and_true, Bool.true_and, cond_true, cond_false, Bool.not_true, Bool.not_false, bne_self_eq_false, beq_self_eq_true, decide_true, eq_self, drS, drD, hb, b1, b2, d2, d3, g1, g2, g3, g4, g5, g6, lenK, Int.toNat_natCast, rankV, hv2, hrk, i1, i3, i4, hgd, Option.bind_some, hm, hln, hSS, x1]

namespace impl_SizeOf
noncomputable def E : Entry := ⟨18, true, false, fun | [.d (.agg [(.ints .i64 sh), (.ints .i64 da)])] => decide (sh.length < 9223372036854775808) && decide (da.length < 9223372036854775808) | _ => false, fun | [.d (.agg [(.ints .i64 sh), (.ints .i64 da)])] => ([.one ((.int .i64 (sizeV sh da)), false)], []) | _ => ([], []), fun _ => [], false, fun _ => none⟩
end impl_SizeOf
namespace impl_SizeOf
noncomputable def X : List Entry := [impl_ValidArray.E]
noncomputable def I : List Inl := [⟨18, Try.f18, ⟨[], [], [], [], [], []⟩⟩]
theorem I_ok : ∀ i ∈ I, Try.prog.funcs[i.f]? = some i.fn ∧ (i.fn.name == "runtime.NumGoroutine") = false := by
  intro i hi
  simp only [I, List.mem_cons, List.not_mem_nil, or_false] at hi
  subst hi
  exact ⟨by kernel_rfl, by kernel_rfl⟩
theorem e (fuel : Nat) (p0q0 : List Int) (p0q1 : List Int) : runF Try.prog X I 0 fuel 18 Try.f18 [.d (.agg [(.ints .i64 p0q0), (.ints .i64 p0q1)])] =
  (bif decide (p0q0.length < 9223372036854775808) && decide (p0q1.length < 9223372036854775808) then
  (bif (!(validA p0q0 p0q1)) then
  some ([.one ((.int .i64 (-1)), false)], [])
  else
  some ([.one ((.int .i64 ((p0q1.length : Nat) : Int)), false)], []))
  else
  none) := by kernel_rfl
end impl_SizeOf
theorem impl_SizeOf.ok_of (hX : ∀ E ∈ impl_SizeOf.X, CallSpec Try.prog E) (h : ∀ (sh : List Int) (da : List Int), (decide (sh.length < 9223372036854775808) && decide (da.length < 9223372036854775808)) = true → ∃ fuel, runF Try.prog impl_SizeOf.X impl_SizeOf.I 0 fuel 18 Try.f18 [.d (.agg [(.ints .i64 sh), (.ints .i64 da)])] = some ([.one ((.int .i64 (sizeV sh da)), false)], [])) : CallSpec Try.prog impl_SizeOf.E :=
  callSpec_of (d := 0) hX (by kernel_rfl) impl_SizeOf.I_ok (by kernel_rfl) (by kernel_rfl) (by kernel_rfl) (fun _ _ _ _ h => by dsimp only [impl_SizeOf.E] at h; cases h) (fun xs hp => by
    dsimp only [impl_SizeOf.E] at hp ⊢
    split at hp
    · exact h _ _ hp
    · cases hp)
theorem impl_SizeOf.ok : CallSpec Try.prog impl_SizeOf.E := impl_SizeOf.ok_of (by simp [impl_SizeOf.X, impl_ValidArray.ok]) fun sh da h => ⟨0, by
  rw [impl_SizeOf.e, h]
  unfold sizeV
  cases validA sh da <;> rfl⟩

namespace laws_FnDropAxisAll
noncomputable def E : Entry := ⟨6, true, false, fun | [.d (.ints .u8 bs)] => bytesB bs | _ => false, fun | [.d (.ints .u8 bs)] => ([.one ((.bool true), false)], []) | _ => ([], []), fun _ => [], false, fun _ => none⟩
end laws_FnDropAxisAll
namespace laws_FnDropAxisAll
noncomputable def X : List Entry := [spec_DrawDropAxis.E, impl_DropAxis.E, spec_DropAxis.E, laws_equalArray.E, impl_RankOf.E, impl_SizeOf.E]
noncomputable def I : List Inl := [⟨6, Try.f6, ⟨[13, 20, 25, 37, 46, 61], [], [], [(5, [2, 3, 0, 1, 4, 5, 6, 7, 8, 9, 10, 11]), (6, [2, 3, 0, 1, 4, 5, 6]), (7, [1, 2, 4, 0, 3, 5, 6, 7, 8, 9]), (8, [0, 1, 2, 3, 4, 6, 5, 7, 8, 9, 10, 11, 13, 12, 15, 14, 16, 17, 18])], [], []⟩⟩]
theorem I_ok : ∀ i ∈ I, Try.prog.funcs[i.f]? = some i.fn ∧ (i.fn.name == "runtime.NumGoroutine") = false := by
  intro i hi
  simp only [I, List.mem_cons, List.not_mem_nil, or_false] at hi
  subst hi
  exact ⟨by kernel_rfl, by kernel_rfl⟩
theorem e (fuel : Nat) (p0 : List Int) : runF Try.prog X I 0 fuel 6 Try.f6 [.d (.ints .u8 p0)] =
  (bif (decide ((((p0.length : Nat) : Int) : Int) > 1048576)) then
  some ([.one ((.bool true), false)], [])
  else
  (bif bytesB p0 then
  (bif decide (((aArS (cutC p0) 0)).length < 9223372036854775808) && decide (((aArD (cutC p0) 0)).length < 9223372036854775808) then
  (bif decide (((aArS (cutC p0) 0)).length < 9223372036854775808) && decide (((aArD (cutC p0) 0)).length < 9223372036854775808) then
  (bif decide (((drS ((aArS (cutC p0) 0)) ((aArD (cutC p0) 0)) ((dAx (cutC p0))) ((oneV (cutC p0) (dAxP (cutC p0)) takL)))).length < 9223372036854775808) && decide (((drD ((aArS (cutC p0) 0)) ((aArD (cutC p0) 0)) ((dAx (cutC p0))) ((oneV (cutC p0) (dAxP (cutC p0)) takL)))).length < 9223372036854775808) && decide (((drS ((aArS (cutC p0) 0)) ((aArD (cutC p0) 0)) ((dAx (cutC p0))) ((oneV (cutC p0) (dAxP (cutC p0)) takL)))).length < 9223372036854775808) && decide (((drD ((aArS (cutC p0) 0)) ((aArD (cutC p0) 0)) ((dAx (cutC p0))) ((oneV (cutC p0) (dAxP (cutC p0)) takL)))).length < 9223372036854775808) then
  (bif (!(decide (((drS ((aArS (cutC p0) 0)) ((aArD (cutC p0) 0)) ((dAx (cutC p0))) ((oneV (cutC p0) (dAxP (cutC p0)) takL)))) = ((drS ((aArS (cutC p0) 0)) ((aArD (cutC p0) 0)) ((dAx (cutC p0))) ((oneV (cutC p0) (dAxP (cutC p0)) takL))))) && decide (((drD ((aArS (cutC p0) 0)) ((aArD (cutC p0) 0)) ((dAx (cutC p0))) ((oneV (cutC p0) (dAxP (cutC p0)) takL)))) = ((drD ((aArS (cutC p0) 0)) ((aArD (cutC p0) 0)) ((dAx (cutC p0))) ((oneV (cutC p0) (dAxP (cutC p0)) takL))))))) then
  (bif decide (((aArS (cutC p0) 0)).length < 9223372036854775808) && decide (((aArD (cutC p0) 0)).length < 9223372036854775808) then
  (bif decide (((drS ((aArS (cutC p0) 0)) ((aArD (cutC p0) 0)) ((dAx (cutC p0))) ((oneV (cutC p0) (dAxP (cutC p0)) takL)))).length < 9223372036854775808) && decide (((drD ((aArS (cutC p0) 0)) ((aArD (cutC p0) 0)) ((dAx (cutC p0))) ((oneV (cutC p0) (dAxP (cutC p0)) takL)))).length < 9223372036854775808) && decide (((drS ((aArS (cutC p0) 0)) ((aArD (cutC p0) 0)) ((dAx (cutC p0))) ((oneV (cutC p0) (dAxP (cutC p0)) takL)))).length < 9223372036854775808) && decide (((drD ((aArS (cutC p0) 0)) ((aArD (cutC p0) 0)) ((dAx (cutC p0))) ((oneV (cutC p0) (dAxP (cutC p0)) takL)))).length < 9223372036854775808) then
  some ([.one ((.bool (decide (((drS ((aArS (cutC p0) 0)) ((aArD (cutC p0) 0)) ((dAx (cutC p0))) ((oneV (cutC p0) (dAxP (cutC p0)) takL)))) = ((drS ((aArS (cutC p0) 0)) ((aArD (cutC p0) 0)) ((dAx (cutC p0))) ((oneV (cutC p0) (dAxP (cutC p0)) takL))))) && decide (((drD ((aArS (cutC p0) 0)) ((aArD (cutC p0) 0)) ((dAx (cutC p0))) ((oneV (cutC p0) (dAxP (cutC p0)) takL)))) = ((drD ((aArS (cutC p0) 0)) ((aArD (cutC p0) 0)) ((dAx (cutC p0))) ((oneV (cutC p0) (dAxP (cutC p0)) takL))))))), false)], [])
  else
  none)
  else
  none)
  else
  (bif decide (((drS ((aArS (cutC p0) 0)) ((aArD (cutC p0) 0)) ((dAx (cutC p0))) ((oneV (cutC p0) (dAxP (cutC p0)) takL)))).length < 9223372036854775808) && decide (((drD ((aArS (cutC p0) 0)) ((aArD (cutC p0) 0)) ((dAx (cutC p0))) ((oneV (cutC p0) (dAxP (cutC p0)) takL)))).length < 9223372036854775808) then
  (bif (decide (((rankV ((drS ((aArS (cutC p0) 0)) ((aArD (cutC p0) 0)) ((dAx (cutC p0))) ((oneV (cutC p0) (dAxP (cutC p0)) takL)))) ((drD ((aArS (cutC p0) 0)) ((aArD (cutC p0) 0)) ((dAx (cutC p0))) ((oneV (cutC p0) (dAxP (cutC p0)) takL))))) : Int) < 1)) then
  (bif decide (((aArS (cutC p0) 0)).length < 9223372036854775808) && decide (((aArD (cutC p0) 0)).length < 9223372036854775808) then
  (bif decide (((drS ((aArS (cutC p0) 0)) ((aArD (cutC p0) 0)) ((dAx (cutC p0))) ((oneV (cutC p0) (dAxP (cutC p0)) takL)))).length < 9223372036854775808) && decide (((drD ((aArS (cutC p0) 0)) ((aArD (cutC p0) 0)) ((dAx (cutC p0))) ((oneV (cutC p0) (dAxP (cutC p0)) takL)))).length < 9223372036854775808) && decide (((drS ((aArS (cutC p0) 0)) ((aArD (cutC p0) 0)) ((dAx (cutC p0))) ((oneV (cutC p0) (dAxP (cutC p0)) takL)))).length < 9223372036854775808) && decide (((drD ((aArS (cutC p0) 0)) ((aArD (cutC p0) 0)) ((dAx (cutC p0))) ((oneV (cutC p0) (dAxP (cutC p0)) takL)))).length < 9223372036854775808) then
  some ([.one ((.bool (decide (((drS ((aArS (cutC p0) 0)) ((aArD (cutC p0) 0)) ((dAx (cutC p0))) ((oneV (cutC p0) (dAxP (cutC p0)) takL)))) = ((drS ((aArS (cutC p0) 0)) ((aArD (cutC p0) 0)) ((dAx (cutC p0))) ((oneV (cutC p0) (dAxP (cutC p0)) takL))))) && decide (((drD ((aArS (cutC p0) 0)) ((aArD (cutC p0) 0)) ((dAx (cutC p0))) ((oneV (cutC p0) (dAxP (cutC p0)) takL)))) = ((drD ((aArS (cutC p0) 0)) ((aArD (cutC p0) 0)) ((dAx (cutC p0))) ((oneV (cutC p0) (dAxP (cutC p0)) takL))))))), false)], [])
  else
  none)
  else
  none)
  else
  (idx (dAx (cutC p0)) (aArS (cutC p0) 0).length).bind fun j1 =>
  ((aArS (cutC p0) 0)[j1]?).bind fun v2 =>
  (bif decide (((aArS (cutC p0) 0)).length < 9223372036854775808) && decide (((aArD (cutC p0) 0)).length < 9223372036854775808) then
  (bif decide (((drS ((aArS (cutC p0) 0)) ((aArD (cutC p0) 0)) ((dAx (cutC p0))) v2)).length < 9223372036854775808) && decide (((drD ((aArS (cutC p0) 0)) ((aArD (cutC p0) 0)) ((dAx (cutC p0))) v2)).length < 9223372036854775808) then
  (bif (((sizeV ((drS ((aArS (cutC p0) 0)) ((aArD (cutC p0) 0)) ((dAx (cutC p0))) v2)) ((drD ((aArS (cutC p0) 0)) ((aArD (cutC p0) 0)) ((dAx (cutC p0))) v2))) : Int) == 0) then
  (idx (dAx (cutC p0)) (drS ((aArS (cutC p0) 0)) ((aArD (cutC p0) 0)) ((dAx (cutC p0))) v2).length).bind fun j3 =>
  ((drS ((aArS (cutC p0) 0)) ((aArD (cutC p0) 0)) ((dAx (cutC p0))) v2)[j3]?).bind fun v4 =>
  (bif ((v4 : Int) == 0) then
  (bif decide (((aArS (cutC p0) 0)).length < 9223372036854775808) && decide (((aArD (cutC p0) 0)).length < 9223372036854775808) then
  (bif decide (((drS ((aArS (cutC p0) 0)) ((aArD (cutC p0) 0)) ((dAx (cutC p0))) 0)).length < 9223372036854775808) && decide (((drD ((aArS (cutC p0) 0)) ((aArD (cutC p0) 0)) ((dAx (cutC p0))) 0)).length < 9223372036854775808) && decide (((aArS (cutC p0) 0)).length < 9223372036854775808) && decide (((aArD (cutC p0) 0)).length < 9223372036854775808) then
  some ([.one ((.bool (decide (((drS ((aArS (cutC p0) 0)) ((aArD (cutC p0) 0)) ((dAx (cutC p0))) 0)) = ((aArS (cutC p0) 0))) && decide (((drD ((aArS (cutC p0) 0)) ((aArD (cutC p0) 0)) ((dAx (cutC p0))) 0)) = ((aArD (cutC p0) 0))))), false)], [])
  else
  none)
  else
  none)
  else
  some ([.one ((.bool false), false)], []))
  else
  some ([.one ((.bool false), false)], []))
  else
  none)
  else
  none))
  else
  none))
  else
  none)
  else
  none)
  else
  none)
  else
  none)) := by kernel_rfl
end laws_FnDropAxisAll
theorem laws_FnDropAxisAll.ok_of (hX : ∀ E ∈ laws_FnDropAxisAll.X, CallSpec Try.prog E) (h : ∀ (bs : List Int), (bytesB bs) = true → ∃ fuel, runF Try.prog laws_FnDropAxisAll.X laws_FnDropAxisAll.I 0 fuel 6 Try.f6 [.d (.ints .u8 bs)] = some ([.one ((.bool true), false)], [])) : CallSpec Try.prog laws_FnDropAxisAll.E :=
  callSpec_of (d := 0) hX (by kernel_rfl) laws_FnDropAxisAll.I_ok (by kernel_rfl) (by kernel_rfl) (by kernel_rfl) (fun _ _ _ _ h => by dsimp only [laws_FnDropAxisAll.E] at h; cases h) (fun xs hp => by
    dsimp only [laws_FnDropAxisAll.E] at hp ⊢
    split at hp
    · exact h _ hp
    · cases hp)
theorem laws_FnDropAxisAll.ok : CallSpec Try.prog laws_FnDropAxisAll.E := laws_FnDropAxisAll.ok_of (by simp [laws_FnDropAxisAll.X, spec_DrawDropAxis.ok, impl_DropAxis.ok, spec_DropAxis.ok, laws_equalArray.ok, impl_RankOf.ok, impl_SizeOf.ok]) fun bs h => by
  obtain ⟨F, hF⟩ : ∃ F : Nat, 4000 < F := ⟨4001, by omega⟩
  refine ⟨F, ?_⟩
  rw [laws_FnDropAxisAll.e]
  by_cases hl : ((bs.length : Nat) : Int) > 1048576
  · rw [decide_eq_true hl]; rfl
  rw [decide_eq_false hl, cond_false, h, cond_true]
  have r0 := cut_ok h (p := 0) (by omega) (by omega)
  obtain ⟨a1, a2, _, _⟩ := aAr_bd r0 (by omega)
  obtain ⟨sh, hsh⟩ : ∃ x, aArS (cutC bs) 0 = x := ⟨_, rfl⟩
  obtain ⟨da, hda⟩ : ∃ x, aArD (cutC bs) 0 = x := ⟨_, rfl⟩
  obtain ⟨k, hk⟩ : ∃ x, dAx (cutC bs) = x := ⟨_, rfl⟩
  rw [hsh] at a1
  rw [hda] at a2
  have g1 := lt_of (xs := sh) (by omega)
  have g2 := lt_of (xs := da) (by omega)
  obtain ⟨n, hn⟩ : ∃ x, oneV (cutC bs) (dAxP (cutC bs)) takL = x := ⟨_, rfl⟩
  simp only [hsh, hda, hk, hn]
  cases hb : drB sh da k n with
  | false =>
    simp only [drS, drD, hb, g1, g2, Bool.and_self, cond_true, cond_false]
    rfl
  | true =>
    have hb' := hb
    simp only [drB, Bool.and_eq_true] at hb'
    have hc := cntB_inv hb'.2
    obtain ⟨j, rfl, hj, hv, ax, hd, hl⟩ := axB_inv hb'.1
    have hvs := (validA_inv hv).1
    have hr := ax.rank
    have hL := ax.len_le
    have hvd : ∀ m, validS (alS sh j (drL (lenN sh j) m)) = true := fun m => dr_valid m hvs hj
    have hv2 : ∀ m, validA (alS sh j (drL (lenN sh j) m)) (alA sh da j (drL (lenN sh j) m)) = true := fun m => al_valid hv hj (hvd m)
    have g3 : ∀ m, decide ((alS sh j (drL (lenN sh j) m)).length < 9223372036854775808) = true := fun m => lt_of (by have := validA_len (hv2 m); omega)
    have g4 : ∀ m, decide ((alA sh da j (drL (lenN sh j) m)).length < 9223372036854775808) = true := fun m => lt_of (by have := validA_len (hv2 m); omega)
    have hb2 : ∀ m, cntB m = true → drB sh da j m = true := fun m hm => by simp only [drB, hb'.1, hm, Bool.and_self]
    have hrk : ∀ m, decide ((((alS sh j (drL (lenN sh j) m)).length : Nat) : Int) < 1) = false := fun m => decide_eq_false (by rw [alS_len]; omega)
    have hj2 : ∀ m, j < (alS sh j (drL (lenN sh j) m)).length := fun m => by rw [alS_len]; exact hj
    have hgd : ∀ m, (alS sh j (drL (lenN sh j) m))[j]? = some ((lenN sh j - m.natAbs : Nat) : Int) := fun m => by
      have e := getD_get (hj2 m)
      rw [(ax_of (hvd m) (hj2 m)).len, lenK_set hj, drL_length] at e
      exact e
    have i1 := fun m => idx_nat (hj2 m)
    have i3 := idx_nat hj
    have i4 := getD_get hj
    rw [ax.len] at i4
    have bL := hb2 ((lenN sh j : Nat) : Int) (by simp only [cntB, Bool.and_eq_true, decide_eq_true_eq]; omega)
    have b0 := hb2 0 rfl
    have hS0 : alS sh j (drL (lenN sh j) 0) = sh := alS_same hvs hj (drL_length _ _)
    have hD0 : alA sh da j (drL (lenN sh j) 0) = da := al_id hv hj (drL_length _ _) fun i hi => by
      rw [dr_get (by simp; omega)]; simp
    have hz : (((alA sh da j (drL (lenN sh j) ((lenN sh j : Nat) : Int))).length : Nat) : Int) = 0 := by
      rw [alA_length, drL_length]
      simp
    have hz2 : ((lenN sh j - (((lenN sh j : Nat) : Int)).natAbs : Nat) : Int) = 0 := by simp
    simp only [Bool.and_self, Bool.and_true, Bool.true_and, cond_true, cond_false, Bool.not_true, Bool.not_false, bne_self_eq_false, beq_self_eq_true, decide_true, eq_self, drS, drD, hb, bL, b0, g1, g2, g3, g4, lenK, Int.toNat_natCast, rankV, sizeV, hv2, hrk, i1, i3, i4, hgd, Option.bind_some, hS0, hD0, hz, hz2]

end Go.Ab
