import Derived.Test.YtpbfhhpfbfjnmaaEj1
import Derived.Test.YtpbfhhpfbfjnmaaProg
import Derived.Test.YtpbfhhpfbfjnmaaChecked
open Go Go.Ab Go.Proofs
set_option maxRecDepth 100000
set_option linter.unusedVariables false
set_option linter.unusedSimpArgs false
namespace Go.Ab
namespace laws_FnJoinAxisReverse
noncomputable def E : Entry := ⟨4, true, false, fun | [.d (.ints .u8 bs)] => bytesB bs | _ => false, fun | [.d (.ints .u8 bs)] => ([.one ((.bool true), false)], []) | _ => ([], []), fun _ => [], false, fun _ => none⟩
end laws_FnJoinAxisReverse
namespace laws_FnJoinAxisReverse
noncomputable def X : List Entry := [spec_DrawJoinAxis.E, impl_JoinAxis.E, spec_JoinAxis.E, laws_equalArray.E, impl_ReverseAxis.E]
noncomputable def I : List Inl := [⟨4, Try.f4, ⟨[17, 25, 32, 59, 62, 64, 71], [], [], [(8, [1, 4, 6, 0, 3, 2, 5, 7, 8, 9, 10, 11, 12, 13]), (9, [0, 1, 3, 2, 5, 4, 6, 7, 8])], [], []⟩⟩]
theorem I_ok : ∀ i ∈ I, Try.prog.funcs[i.f]? = some i.fn ∧ (i.fn.name == "runtime.NumGoroutine") = false := by
  intro i hi
  simp only [I, List.mem_cons, List.not_mem_nil, or_false] at hi
  subst hi
  exact ⟨by kernel_rfl, by kernel_rfl⟩
theorem e (fuel : Nat) (p0 : List Int) : runF Try.prog X I 0 fuel 4 Try.f4 [.d (.ints .u8 p0)] =
  (bif (decide ((((p0.length : Nat) : Int) : Int) > 1048576)) then
  some ([.one ((.bool true), false)], [])
  else
  (bif bytesB p0 then
  (bif decide (((aArS (cutC p0) 0)).length < 9223372036854775808) && decide (((aArD (cutC p0) 0)).length < 9223372036854775808) && decide (((djS (cutC p0))).length < 9223372036854775808) && decide (((djD (cutC p0))).length < 9223372036854775808) then
  (bif decide (((aArS (cutC p0) 0)).length < 9223372036854775808) && decide (((aArD (cutC p0) 0)).length < 9223372036854775808) && decide (((djS (cutC p0))).length < 9223372036854775808) && decide (((djD (cutC p0))).length < 9223372036854775808) then
  (bif decide (((joS ((aArS (cutC p0) 0)) ((aArD (cutC p0) 0)) ((djS (cutC p0))) ((djD (cutC p0))) ((djK (cutC p0))))).length < 9223372036854775808) && decide (((joD ((aArS (cutC p0) 0)) ((aArD (cutC p0) 0)) ((djS (cutC p0))) ((djD (cutC p0))) ((djK (cutC p0))))).length < 9223372036854775808) && decide (((joS ((aArS (cutC p0) 0)) ((aArD (cutC p0) 0)) ((djS (cutC p0))) ((djD (cutC p0))) ((djK (cutC p0))))).length < 9223372036854775808) && decide (((joD ((aArS (cutC p0) 0)) ((aArD (cutC p0) 0)) ((djS (cutC p0))) ((djD (cutC p0))) ((djK (cutC p0))))).length < 9223372036854775808) then
  (bif (!(decide (((joS ((aArS (cutC p0) 0)) ((aArD (cutC p0) 0)) ((djS (cutC p0))) ((djD (cutC p0))) ((djK (cutC p0))))) = ((joS ((aArS (cutC p0) 0)) ((aArD (cutC p0) 0)) ((djS (cutC p0))) ((djD (cutC p0))) ((djK (cutC p0)))))) && decide (((joD ((aArS (cutC p0) 0)) ((aArD (cutC p0) 0)) ((djS (cutC p0))) ((djD (cutC p0))) ((djK (cutC p0))))) = ((joD ((aArS (cutC p0) 0)) ((aArD (cutC p0) 0)) ((djS (cutC p0))) ((djD (cutC p0))) ((djK (cutC p0)))))))) then
  (bif decide (((joS ((aArS (cutC p0) 0)) ((aArD (cutC p0) 0)) ((djS (cutC p0))) ((djD (cutC p0))) ((djK (cutC p0))))).length < 9223372036854775808) && decide (((joD ((aArS (cutC p0) 0)) ((aArD (cutC p0) 0)) ((djS (cutC p0))) ((djD (cutC p0))) ((djK (cutC p0))))).length < 9223372036854775808) && decide (((joS ((aArS (cutC p0) 0)) ((aArD (cutC p0) 0)) ((djS (cutC p0))) ((djD (cutC p0))) ((djK (cutC p0))))).length < 9223372036854775808) && decide (((joD ((aArS (cutC p0) 0)) ((aArD (cutC p0) 0)) ((djS (cutC p0))) ((djD (cutC p0))) ((djK (cutC p0))))).length < 9223372036854775808) then
  (bif (decide (((joS ((aArS (cutC p0) 0)) ((aArD (cutC p0) 0)) ((djS (cutC p0))) ((djD (cutC p0))) ((djK (cutC p0))))) = ((joS ((aArS (cutC p0) 0)) ((aArD (cutC p0) 0)) ((djS (cutC p0))) ((djD (cutC p0))) ((djK (cutC p0)))))) && decide (((joD ((aArS (cutC p0) 0)) ((aArD (cutC p0) 0)) ((djS (cutC p0))) ((djD (cutC p0))) ((djK (cutC p0))))) = ((joD ((aArS (cutC p0) 0)) ((aArD (cutC p0) 0)) ((djS (cutC p0))) ((djD (cutC p0))) ((djK (cutC p0))))))) then
  some ([.one ((.bool ((joB ((aArS (cutC p0) 0)) ((aArD (cutC p0) 0)) ((djS (cutC p0))) ((djD (cutC p0))) ((djK (cutC p0)))) == (joB ((aArS (cutC p0) 0)) ((aArD (cutC p0) 0)) ((djS (cutC p0))) ((djD (cutC p0))) ((djK (cutC p0)))))), false)], [])
  else
  some ([.one ((.bool false), false)], []))
  else
  none)
  else
  (bif (!((joB ((aArS (cutC p0) 0)) ((aArD (cutC p0) 0)) ((djS (cutC p0))) ((djD (cutC p0))) ((djK (cutC p0)))) == (joB ((aArS (cutC p0) 0)) ((aArD (cutC p0) 0)) ((djS (cutC p0))) ((djD (cutC p0))) ((djK (cutC p0)))))) then
  (bif decide (((joS ((aArS (cutC p0) 0)) ((aArD (cutC p0) 0)) ((djS (cutC p0))) ((djD (cutC p0))) ((djK (cutC p0))))).length < 9223372036854775808) && decide (((joD ((aArS (cutC p0) 0)) ((aArD (cutC p0) 0)) ((djS (cutC p0))) ((djD (cutC p0))) ((djK (cutC p0))))).length < 9223372036854775808) && decide (((joS ((aArS (cutC p0) 0)) ((aArD (cutC p0) 0)) ((djS (cutC p0))) ((djD (cutC p0))) ((djK (cutC p0))))).length < 9223372036854775808) && decide (((joD ((aArS (cutC p0) 0)) ((aArD (cutC p0) 0)) ((djS (cutC p0))) ((djD (cutC p0))) ((djK (cutC p0))))).length < 9223372036854775808) then
  (bif (decide (((joS ((aArS (cutC p0) 0)) ((aArD (cutC p0) 0)) ((djS (cutC p0))) ((djD (cutC p0))) ((djK (cutC p0))))) = ((joS ((aArS (cutC p0) 0)) ((aArD (cutC p0) 0)) ((djS (cutC p0))) ((djD (cutC p0))) ((djK (cutC p0)))))) && decide (((joD ((aArS (cutC p0) 0)) ((aArD (cutC p0) 0)) ((djS (cutC p0))) ((djD (cutC p0))) ((djK (cutC p0))))) = ((joD ((aArS (cutC p0) 0)) ((aArD (cutC p0) 0)) ((djS (cutC p0))) ((djD (cutC p0))) ((djK (cutC p0))))))) then
  some ([.one ((.bool ((joB ((aArS (cutC p0) 0)) ((aArD (cutC p0) 0)) ((djS (cutC p0))) ((djD (cutC p0))) ((djK (cutC p0)))) == (joB ((aArS (cutC p0) 0)) ((aArD (cutC p0) 0)) ((djS (cutC p0))) ((djD (cutC p0))) ((djK (cutC p0)))))), false)], [])
  else
  some ([.one ((.bool false), false)], []))
  else
  none)
  else
  (bif (!(joB ((aArS (cutC p0) 0)) ((aArD (cutC p0) 0)) ((djS (cutC p0))) ((djD (cutC p0))) ((djK (cutC p0))))) then
  (bif decide (((joS ((aArS (cutC p0) 0)) ((aArD (cutC p0) 0)) ((djS (cutC p0))) ((djD (cutC p0))) ((djK (cutC p0))))).length < 9223372036854775808) && decide (((joD ((aArS (cutC p0) 0)) ((aArD (cutC p0) 0)) ((djS (cutC p0))) ((djD (cutC p0))) ((djK (cutC p0))))).length < 9223372036854775808) && decide (((joS ((aArS (cutC p0) 0)) ((aArD (cutC p0) 0)) ((djS (cutC p0))) ((djD (cutC p0))) ((djK (cutC p0))))).length < 9223372036854775808) && decide (((joD ((aArS (cutC p0) 0)) ((aArD (cutC p0) 0)) ((djS (cutC p0))) ((djD (cutC p0))) ((djK (cutC p0))))).length < 9223372036854775808) then
  (bif (decide (((joS ((aArS (cutC p0) 0)) ((aArD (cutC p0) 0)) ((djS (cutC p0))) ((djD (cutC p0))) ((djK (cutC p0))))) = ((joS ((aArS (cutC p0) 0)) ((aArD (cutC p0) 0)) ((djS (cutC p0))) ((djD (cutC p0))) ((djK (cutC p0)))))) && decide (((joD ((aArS (cutC p0) 0)) ((aArD (cutC p0) 0)) ((djS (cutC p0))) ((djD (cutC p0))) ((djK (cutC p0))))) = ((joD ((aArS (cutC p0) 0)) ((aArD (cutC p0) 0)) ((djS (cutC p0))) ((djD (cutC p0))) ((djK (cutC p0))))))) then
  some ([.one ((.bool ((joB ((aArS (cutC p0) 0)) ((aArD (cutC p0) 0)) ((djS (cutC p0))) ((djD (cutC p0))) ((djK (cutC p0)))) == (joB ((aArS (cutC p0) 0)) ((aArD (cutC p0) 0)) ((djS (cutC p0))) ((djD (cutC p0))) ((djK (cutC p0)))))), false)], [])
  else
  some ([.one ((.bool false), false)], []))
  else
  none)
  else
  (bif decide (((djS (cutC p0))).length < 9223372036854775808) && decide (((djD (cutC p0))).length < 9223372036854775808) then
  (bif decide (((aArS (cutC p0) 0)).length < 9223372036854775808) && decide (((aArD (cutC p0) 0)).length < 9223372036854775808) then
  (bif decide (((revS ((djS (cutC p0))) ((djD (cutC p0))) ((djK (cutC p0))))).length < 9223372036854775808) && decide (((revD ((djS (cutC p0))) ((djD (cutC p0))) ((djK (cutC p0))))).length < 9223372036854775808) && decide (((revS ((aArS (cutC p0) 0)) ((aArD (cutC p0) 0)) ((djK (cutC p0))))).length < 9223372036854775808) && decide (((revD ((aArS (cutC p0) 0)) ((aArD (cutC p0) 0)) ((djK (cutC p0))))).length < 9223372036854775808) then
  (bif (joB ((revS ((djS (cutC p0))) ((djD (cutC p0))) ((djK (cutC p0))))) ((revD ((djS (cutC p0))) ((djD (cutC p0))) ((djK (cutC p0))))) ((revS ((aArS (cutC p0) 0)) ((aArD (cutC p0) 0)) ((djK (cutC p0))))) ((revD ((aArS (cutC p0) 0)) ((aArD (cutC p0) 0)) ((djK (cutC p0))))) ((djK (cutC p0)))) then
  (bif decide (((joS ((aArS (cutC p0) 0)) ((aArD (cutC p0) 0)) ((djS (cutC p0))) ((djD (cutC p0))) ((djK (cutC p0))))).length < 9223372036854775808) && decide (((joD ((aArS (cutC p0) 0)) ((aArD (cutC p0) 0)) ((djS (cutC p0))) ((djD (cutC p0))) ((djK (cutC p0))))).length < 9223372036854775808) then
  (bif decide (((revS ((joS ((aArS (cutC p0) 0)) ((aArD (cutC p0) 0)) ((djS (cutC p0))) ((djD (cutC p0))) ((djK (cutC p0))))) ((joD ((aArS (cutC p0) 0)) ((aArD (cutC p0) 0)) ((djS (cutC p0))) ((djD (cutC p0))) ((djK (cutC p0))))) ((djK (cutC p0))))).length < 9223372036854775808) && decide (((revD ((joS ((aArS (cutC p0) 0)) ((aArD (cutC p0) 0)) ((djS (cutC p0))) ((djD (cutC p0))) ((djK (cutC p0))))) ((joD ((aArS (cutC p0) 0)) ((aArD (cutC p0) 0)) ((djS (cutC p0))) ((djD (cutC p0))) ((djK (cutC p0))))) ((djK (cutC p0))))).length < 9223372036854775808) && decide (((joS ((revS ((djS (cutC p0))) ((djD (cutC p0))) ((djK (cutC p0))))) ((revD ((djS (cutC p0))) ((djD (cutC p0))) ((djK (cutC p0))))) ((revS ((aArS (cutC p0) 0)) ((aArD (cutC p0) 0)) ((djK (cutC p0))))) ((revD ((aArS (cutC p0) 0)) ((aArD (cutC p0) 0)) ((djK (cutC p0))))) ((djK (cutC p0))))).length < 9223372036854775808) && decide (((joD ((revS ((djS (cutC p0))) ((djD (cutC p0))) ((djK (cutC p0))))) ((revD ((djS (cutC p0))) ((djD (cutC p0))) ((djK (cutC p0))))) ((revS ((aArS (cutC p0) 0)) ((aArD (cutC p0) 0)) ((djK (cutC p0))))) ((revD ((aArS (cutC p0) 0)) ((aArD (cutC p0) 0)) ((djK (cutC p0))))) ((djK (cutC p0))))).length < 9223372036854775808) then
  some ([.one ((.bool (decide (((revS ((joS ((aArS (cutC p0) 0)) ((aArD (cutC p0) 0)) ((djS (cutC p0))) ((djD (cutC p0))) ((djK (cutC p0))))) ((joD ((aArS (cutC p0) 0)) ((aArD (cutC p0) 0)) ((djS (cutC p0))) ((djD (cutC p0))) ((djK (cutC p0))))) ((djK (cutC p0))))) = ((joS ((revS ((djS (cutC p0))) ((djD (cutC p0))) ((djK (cutC p0))))) ((revD ((djS (cutC p0))) ((djD (cutC p0))) ((djK (cutC p0))))) ((revS ((aArS (cutC p0) 0)) ((aArD (cutC p0) 0)) ((djK (cutC p0))))) ((revD ((aArS (cutC p0) 0)) ((aArD (cutC p0) 0)) ((djK (cutC p0))))) ((djK (cutC p0)))))) && decide (((revD ((joS ((aArS (cutC p0) 0)) ((aArD (cutC p0) 0)) ((djS (cutC p0))) ((djD (cutC p0))) ((djK (cutC p0))))) ((joD ((aArS (cutC p0) 0)) ((aArD (cutC p0) 0)) ((djS (cutC p0))) ((djD (cutC p0))) ((djK (cutC p0))))) ((djK (cutC p0))))) = ((joD ((revS ((djS (cutC p0))) ((djD (cutC p0))) ((djK (cutC p0))))) ((revD ((djS (cutC p0))) ((djD (cutC p0))) ((djK (cutC p0))))) ((revS ((aArS (cutC p0) 0)) ((aArD (cutC p0) 0)) ((djK (cutC p0))))) ((revD ((aArS (cutC p0) 0)) ((aArD (cutC p0) 0)) ((djK (cutC p0))))) ((djK (cutC p0)))))))), false)], [])
  else
  none)
  else
  none)
  else
  some ([.one ((.bool false), false)], []))
  else
  none)
  else
  none)
  else
  none))))
  else
  none)
  else
  none)
  else
  none)
  else
  none)) := by kernel_rfl
end laws_FnJoinAxisReverse
theorem laws_FnJoinAxisReverse.ok_of (hX : ∀ E ∈ laws_FnJoinAxisReverse.X, CallSpec Try.prog E) (h : ∀ (bs : List Int), (bytesB bs) = true → ∃ fuel, runF Try.prog laws_FnJoinAxisReverse.X laws_FnJoinAxisReverse.I 0 fuel 4 Try.f4 [.d (.ints .u8 bs)] = some ([.one ((.bool true), false)], [])) : CallSpec Try.prog laws_FnJoinAxisReverse.E :=
  callSpec_of (d := 0) hX (by kernel_rfl) laws_FnJoinAxisReverse.I_ok (by kernel_rfl) (by kernel_rfl) (by kernel_rfl) (fun _ _ _ _ h => by dsimp only [laws_FnJoinAxisReverse.E] at h; cases h) (fun xs hp => by
    dsimp only [laws_FnJoinAxisReverse.E] at hp ⊢
    split at hp
    · exact h _ hp
    · cases hp)
theorem laws_FnJoinAxisReverse.ok : CallSpec Try.prog laws_FnJoinAxisReverse.E := laws_FnJoinAxisReverse.ok_of (by simp [laws_FnJoinAxisReverse.X, spec_DrawJoinAxis.ok, impl_JoinAxis.ok, spec_JoinAxis.ok, laws_equalArray.ok, impl_ReverseAxis.ok]) fun bs h => by
  obtain ⟨F, hF⟩ : ∃ F : Nat, 4000 < F := ⟨4001, by omega⟩
  refine ⟨F, ?_⟩
  rw [laws_FnJoinAxisReverse.e]
  by_cases hl : ((bs.length : Nat) : Int) > 1048576
  · rw [decide_eq_true hl]; rfl
  rw [decide_eq_false hl, cond_false, h, cond_true]
  have r0 := cut_ok h (p := 0) (by omega) (by omega)
  obtain ⟨b1, b2, a1, a2, _, _⟩ := dj_bd r0
  obtain ⟨sa, hsa⟩ : ∃ x, aArS (cutC bs) 0 = x := ⟨_, rfl⟩
  obtain ⟨da, hda⟩ : ∃ x, aArD (cutC bs) 0 = x := ⟨_, rfl⟩
  obtain ⟨sb, hsb⟩ : ∃ x, djS (cutC bs) = x := ⟨_, rfl⟩
  obtain ⟨db, hdb⟩ : ∃ x, djD (cutC bs) = x := ⟨_, rfl⟩
  obtain ⟨k, hk⟩ : ∃ x, djK (cutC bs) = x := ⟨_, rfl⟩
  rw [hsa] at a1
  rw [hda] at a2
  rw [hsb] at b1
  rw [hdb] at b2
  have g1 := lt_of (xs := sa) (by omega)
  have g2 := lt_of (xs := da) (by omega)
  have g3 := lt_of (xs := sb) (by omega)
  have g4 := lt_of (xs := db) (by omega)
  simp only [hsa, hda, hsb, hdb, hk]
  cases hb : joB sa da sb db k with
  | false =>
    have e0 : joS sa da sb db k = [] := by simp only [joS, hb, cond_false]
    have e1 : joD sa da sb db k = [] := by simp only [joD, hb, cond_false]
    have g0 : decide (([] : List Int).length < 9223372036854775808) = true := rfl
    simp only [Bool.and_self, Bool.and_true, Bool.true_and, cond_true, cond_false, Bool.not_true, Bool.not_false, bne_self_eq_false, beq_self_eq_true, decide_true, eq_self, g1, g2, g3, g4, e0, e1, g0]
  | true =>
    obtain ⟨j, rfl, o⟩ := joB_inv hb
    have f := jo_f o
    have e0 : joS sa da sb db (j : Int) = joSh sa sb j := by simp only [joS, hb, cond_true, Int.toNat_natCast]
    have e1 : joD sa da sb db (j : Int) = joN sa da sb db j := by simp only [joD, hb, cond_true, Int.toNat_natCast]
    have jl := validA_len f.val
    have g5 := lt_of (xs := joSh sa sb j) (by omega)
    have g6 := lt_of (xs := joN sa da sb db j) (by omega)
    have hxS : axB (joSh sa sb j) (joN sa da sb db j) (j : Int) = true := axB_of f.val (by rw [f.len]; exact o.la)
    have hLs := (ax_of o.vs (k := j) (by rw [f.len]; exact o.la)).len_le
    rw [f.ln] at hLs
    have hva := (validA_inv o.va).1
    have hvb := (validA_inv o.vb).1
    have xa := axB_of o.va o.la
    have xb := axB_of o.vb o.lb
    have r1 : revS sa da (j : Int) = sa := by simp only [revS, xa, cond_true]
    have r2 : revS sb db (j : Int) = sb := by simp only [revS, xb, cond_true]
    have r3 : revD sa da (j : Int) = alA sa da j (rvL (lenN sa j)) := by simp only [revD, xa, cond_true, lenK, Int.toNat_natCast]
    have r4 : revD sb db (j : Int) = alA sb db j (rvL (lenN sb j)) := by simp only [revD, xb, cond_true, lenK, Int.toNat_natCast]
    have sA := alS_same (ls := rvL (lenN sa j)) hva o.la (rvL_length _)
    have sB := alS_same (ls := rvL (lenN sb j)) hvb o.lb (rvL_length _)
    have vA := al_valid (ls := rvL (lenN sa j)) o.va o.la (by rw [sA]; exact hva)
    have vB := al_valid (ls := rvL (lenN sb j)) o.vb o.lb (by rw [sB]; exact hvb)
    rw [sA] at vA
    rw [sB] at vB
    have hset : sb.set j (sa.getD j 0) = sa := by
      rw [o.xa.len, o.sets, set_len o.xa]
    have hsh : joSh sb sa j = joSh sa sb j := by
      rw [o.sh]
      unfold joSh
      rw [o.xa.len, o.xb.len, o.sets, Int.natCast_add, Int.add_comm]
    have hjb := joB_of (axB_of vB o.lb) (axB_of vA o.la) hset (by rw [hsh]; exact o.vs)
    obtain ⟨j2, hj2, o2⟩ := joB_inv hjb
    obtain rfl : j = j2 := by omega
    have f2 := jo_f o2
    have z0 : joS sb (alA sb db j (rvL (lenN sb j))) sa (alA sa da j (rvL (lenN sa j))) (j : Int) = joSh sa sb j := by simp only [joS, hjb, cond_true, Int.toNat_natCast, hsh]
    have z1 : joD sb (alA sb db j (rvL (lenN sb j))) sa (alA sa da j (rvL (lenN sa j))) (j : Int) = joN sb (alA sb db j (rvL (lenN sb j))) sa (alA sa da j (rvL (lenN sa j))) j := by simp only [joD, hjb, cond_true, Int.toNat_natCast]
    have s1 : revS (joSh sa sb j) (joN sa da sb db j) (j : Int) = joSh sa sb j := by simp only [revS, hxS, cond_true]
    have s2 : revD (joSh sa sb j) (joN sa da sb db j) (j : Int) = alA (joSh sa sb j) (joN sa da sb db j) j (rvL (lenN sa j + lenN sb j)) := by simp only [revD, hxS, cond_true, lenK, Int.toNat_natCast, f.ln]
    have key : alA (joSh sa sb j) (joN sa da sb db j) j (rvL (lenN sa j + lenN sb j)) = joN sb (alA sb db j (rvL (lenN sb j))) sa (alA sa da j (rvL (lenN sa j))) j := by
      have hal : ∀ b i m, b < befN sa j → i < lenN sa j + lenN sb j → m < behN sa j → (alA (joSh sa sb j) (joN sa da sb db j) j (rvL (lenN sa j + lenN sb j))).getD ((b * (lenN sa j + lenN sb j) + i) * behN sa j + m) 0 = (joN sa da sb db j).getD ((b * (lenN sa j + lenN sb j) + (lenN sa j + lenN sb j - 1 - i)) * behN sa j + m) 0 := by
        intro b i m hb hi hm
        have := alA_get (sh := joSh sa sb j) (da := joN sa da sb db j) (k := j) (ls := rvL (lenN sa j + lenN sb j)) (b := b) (i := i) (m := m) (by rw [f.bef]; exact hb) (by rw [rvL_length]; exact hi) (by rw [f.beh]; exact hm)
        rw [rvL_length, f.beh, f.ln, rvL, tab_getD hi] at this
        rw [rvL, this]
        simp only [atV, decide_eq_true (p := (0 : Int) ≤ ((lenN sa j + lenN sb j - 1 - i : Nat) : Int)) (by omega), cond_true, Int.toNat_natCast]
      have hrA : ∀ b i m, b < befN sa j → i < lenN sa j → m < behN sa j → (alA sa da j (rvL (lenN sa j))).getD ((b * lenN sa j + i) * behN sa j + m) 0 = da.getD ((b * lenN sa j + (lenN sa j - 1 - i)) * behN sa j + m) 0 := by
        intro b i m hb hi hm
        have := alA_get (sh := sa) (da := da) (k := j) (ls := rvL (lenN sa j)) (b := b) (i := i) (m := m) hb (by rw [rvL_length]; exact hi) hm
        rw [rvL_length, rvL, tab_getD hi] at this
        rw [rvL, this]
        simp only [atV, decide_eq_true (p := (0 : Int) ≤ ((lenN sa j - 1 - i : Nat) : Int)) (by omega), cond_true, Int.toNat_natCast]
      have hrB : ∀ b i m, b < befN sa j → i < lenN sb j → m < behN sa j → (alA sb db j (rvL (lenN sb j))).getD ((b * lenN sb j + i) * behN sa j + m) 0 = db.getD ((b * lenN sb j + (lenN sb j - 1 - i)) * behN sa j + m) 0 := by
        intro b i m hb hi hm
        have := alA_get (sh := sb) (da := db) (k := j) (ls := rvL (lenN sb j)) (b := b) (i := i) (m := m) (by rw [o.bef]; exact hb) (by rw [rvL_length]; exact hi) (by rw [o.beh]; exact hm)
        rw [rvL_length, rvL, tab_getD hi, o.beh] at this
        rw [rvL, this]
        simp only [atV, decide_eq_true (p := (0 : Int) ≤ ((lenN sb j - 1 - i : Nat) : Int)) (by omega), cond_true, Int.toNat_natCast]
      refine jo_ext o2 ?_ ?_ ?_
      · rw [alA_length, rvL_length, f.bef, f.beh, o.bef, o.beh, Nat.add_comm (lenN sb j)]
      · intro b i m hb hi hm
        rw [o.bef] at hb
        rw [o.beh] at hm ⊢
        rw [Nat.add_comm (lenN sb j), hal b i m hb (by omega) hm, hrB b i m hb hi hm, show lenN sa j + lenN sb j - 1 - i = lenN sa j + (lenN sb j - 1 - i) by omega]
        exact f.getb b _ m hb (by omega) hm
      · intro b i m hb hi hm
        rw [o.bef] at hb
        rw [o.beh] at hm ⊢
        rw [Nat.add_comm (lenN sb j) (lenN sa j), hal b _ m hb (by omega) hm, hrA b i m hb hi hm, show lenN sa j + lenN sb j - 1 - (lenN sb j + i) = lenN sa j - 1 - i by omega]
        exact f.geta b _ m hb (by omega) hm
    have lA := validA_len vA
    have lB := validA_len vB
    have lJ := validA_len f2.val
    have g7 := lt_of (xs := alA sa da j (rvL (lenN sa j))) (by omega)
    have g8 := lt_of (xs := alA sb db j (rvL (lenN sb j))) (by omega)
    have g9 := lt_of (xs := joN sb (alA sb db j (rvL (lenN sb j))) sa (alA sa da j (rvL (lenN sa j))) j) (by omega)
    simp only [Bool.and_self, Bool.and_true, Bool.true_and, cond_true, cond_false, Bool.not_true, Bool.not_false, bne_self_eq_false, beq_self_eq_true, decide_true, eq_self, g1, g2, g3, g4, g5, g6, g7, g8, g9, e0, e1, r1, r2, r3, r4, hjb, z0, z1, s1, s2, key]

namespace spec_scalar
noncomputable def E : Entry := ⟨61, false, false, fun | [.d (.int .i64 v)] => true | _ => false, fun | [.d (.int .i64 v)] => ([.agg [((.ints .i64 nilI), true), ((.ints .i64 [v]), true)]], []) | _ => ([], []), fun _ => [], true, fun _ => none⟩
end spec_scalar
namespace spec_scalar
noncomputable def X : List Entry := []
noncomputable def I : List Inl := [⟨61, Try.f61, ⟨[], [], [], [], [], []⟩⟩]
theorem I_ok : ∀ i ∈ I, Try.prog.funcs[i.f]? = some i.fn ∧ (i.fn.name == "runtime.NumGoroutine") = false := by
  intro i hi
  simp only [I, List.mem_cons, List.not_mem_nil, or_false] at hi
  subst hi
  exact ⟨by kernel_rfl, by kernel_rfl⟩
theorem e (fuel : Nat) (p0 : Int) : runF Try.prog X I 0 fuel 61 Try.f61 [.d (.int .i64 p0)] =
  some ([.agg [((.ints .i64 []), true), ((.ints .i64 [p0]), true)]], []) := by kernel_rfl
end spec_scalar
theorem spec_scalar.ok_of (hX : ∀ E ∈ spec_scalar.X, CallSpec Try.prog E) (h : ∀ (v : Int), (true) = true → ∃ fuel, runF Try.prog spec_scalar.X spec_scalar.I 0 fuel 61 Try.f61 [.d (.int .i64 v)] = some ([.agg [((.ints .i64 nilI), true), ((.ints .i64 [v]), true)]], [])) : CallSpec Try.prog spec_scalar.E :=
  callSpec_of (d := 0) hX (by kernel_rfl) spec_scalar.I_ok (by kernel_rfl) (by kernel_rfl) (by kernel_rfl) (fun _ _ _ _ h => by dsimp only [spec_scalar.E] at h; cases h) (fun xs hp => by
    dsimp only [spec_scalar.E] at hp ⊢
    split at hp
    · exact h _ hp
    · cases hp)
theorem spec_scalar.ok : CallSpec Try.prog spec_scalar.E := spec_scalar.ok_of (by simp [spec_scalar.X]) fun v _ => ⟨0, by
  rw [spec_scalar.e]⟩

namespace spec_anyPair
noncomputable def E : Entry := ⟨46, false, false, fun | [.box [(.ints .u8 bs), (.int .i64 p)]] => rdOk bs p && decide ((p : Int) ≤ 900000) | _ => false, fun | [.box [(.ints .u8 bs), (.int .i64 p)]] => ([.agg [((.ints .i64 (apS1 bs p)), false), ((.ints .i64 (apD1 bs p)), false)], .agg [((.ints .i64 (apS2 bs p)), false), ((.ints .i64 (apD2 bs p)), false)]], [[(.ints .u8 bs), (.int .i64 (apP bs p))]]) | _ => ([], []), fun _ => [], false, fun _ => none⟩
end spec_anyPair
namespace spec_anyPair
noncomputable def X : List Entry := [spec_anyArray.E, spec_reader_pick.E, spec_someNum.E, spec_scalar.E, spec_valid.E, spec_fill.E]
noncomputable def I : List Inl := [⟨46, Try.f46, ⟨[], [], [(4, [4]), (6, [4]), (8, [4]), (10, [4]), (11, [4])], [(6, [0, 3, 1, 2, 4, 5]), (10, [1, 0, 2, 3])], [11, 19, 22, 30, 31], []⟩⟩]
theorem I_ok : ∀ i ∈ I, Try.prog.funcs[i.f]? = some i.fn ∧ (i.fn.name == "runtime.NumGoroutine") = false := by
  intro i hi
  simp only [I, List.mem_cons, List.not_mem_nil, or_false] at hi
  subst hi
  exact ⟨by kernel_rfl, by kernel_rfl⟩
theorem e (fuel : Nat) (p0q0 : List Int) (p0q1 : Int) : runF Try.prog X I 0 fuel 46 Try.f46 [.box [(.ints .u8 p0q0), (.int .i64 p0q1)]] =
  (bif rdOk p0q0 p0q1 && decide ((p0q1 : Int) ≤ 1000000) then
  (bif rdOk p0q0 ((aArP p0q0 p0q1)) && decide ((6 : Int) ≤ 1048576) then
  (bif (((pickV p0q0 ((aArP p0q0 p0q1)) 6) : Int) == 0) then
  (bif rdOk p0q0 ((((aArP p0q0 p0q1)) + 1)) && decide ((((((aArP p0q0 p0q1)) + 1)) : Int) ≤ 1000000) then
  some ([.agg [((.ints .i64 (aArS p0q0 p0q1)), false), ((.ints .i64 (aArD p0q0 p0q1)), false)], .agg [((.ints .i64 (aArS p0q0 ((((aArP p0q0 p0q1)) + 1)))), false), ((.ints .i64 (aArD p0q0 ((((aArP p0q0 p0q1)) + 1)))), false)]], [[(.ints .u8 p0q0), (.int .i64 (aArP p0q0 ((((aArP p0q0 p0q1)) + 1))))]])
  else
  none)
  else
  (bif (((pickV p0q0 ((aArP p0q0 p0q1)) 6) : Int) == 1) then
  (bif rdOk p0q0 ((((aArP p0q0 p0q1)) + 1)) then
  some ([.agg [((.ints .i64 nilI), false), ((.ints .i64 [((oneV p0q0 ((((aArP p0q0 p0q1)) + 1)) someL))]), false)], .agg [((.ints .i64 (aArS p0q0 p0q1)), false), ((.ints .i64 (aArD p0q0 p0q1)), false)]], [[(.ints .u8 p0q0), (.int .i64 (((((aArP p0q0 p0q1)) + 1)) + 1))]])
  else
  none)
  else
  (bif (((pickV p0q0 ((aArP p0q0 p0q1)) 6) : Int) == 2) then
  (bif rdOk p0q0 ((((aArP p0q0 p0q1)) + 1)) then
  some ([.agg [((.ints .i64 (aArS p0q0 p0q1)), false), ((.ints .i64 (aArD p0q0 p0q1)), false)], .agg [((.ints .i64 nilI), false), ((.ints .i64 [((oneV p0q0 ((((aArP p0q0 p0q1)) + 1)) someL))]), false)]], [[(.ints .u8 p0q0), (.int .i64 (((((aArP p0q0 p0q1)) + 1)) + 1))]])
  else
  none)
  else
  (bif decide (((aArS p0q0 p0q1)).length < 9223372036854775808) && decide (((aArD p0q0 p0q1)).length < 9223372036854775808) then
  (bif (!(validA ((aArS p0q0 p0q1)) ((aArD p0q0 p0q1)))) then
  some ([.agg [((.ints .i64 (aArS p0q0 p0q1)), false), ((.ints .i64 (aArD p0q0 p0q1)), false)], .agg [((.ints .i64 (aArS p0q0 p0q1)), false), ((.ints .i64 (aArD p0q0 p0q1)), false)]], [[(.ints .u8 p0q0), (.int .i64 (((aArP p0q0 p0q1)) + 1))]])
  else
  (bif rdOk p0q0 ((((aArP p0q0 p0q1)) + 1)) && decide ((((((aArP p0q0 p0q1)) + 1)) : Int) ≤ 2000000) && validS ((aArS p0q0 p0q1)) then
  some ([.agg [((.ints .i64 (aArS p0q0 p0q1)), false), ((.ints .i64 (aArD p0q0 p0q1)), false)], .agg [((.ints .i64 ((aArS p0q0 p0q1))), false), ((.ints .i64 (fillV p0q0 ((((aArP p0q0 p0q1)) + 1)) ((aArS p0q0 p0q1)))), false)]], [[(.ints .u8 p0q0), (.int .i64 (((((aArP p0q0 p0q1)) + 1)) + volW ((aArS p0q0 p0q1))))]])
  else
  none))
  else
  none))))
  else
  none)
  else
  none) := by kernel_rfl
end spec_anyPair
theorem spec_anyPair.ok_of (hX : ∀ E ∈ spec_anyPair.X, CallSpec Try.prog E) (h : ∀ (bs : List Int) (p : Int), (rdOk bs p && decide ((p : Int) ≤ 900000)) = true → ∃ fuel, runF Try.prog spec_anyPair.X spec_anyPair.I 0 fuel 46 Try.f46 [.box [(.ints .u8 bs), (.int .i64 p)]] = some ([.agg [((.ints .i64 (apS1 bs p)), false), ((.ints .i64 (apD1 bs p)), false)], .agg [((.ints .i64 (apS2 bs p)), false), ((.ints .i64 (apD2 bs p)), false)]], [[(.ints .u8 bs), (.int .i64 (apP bs p))]])) : CallSpec Try.prog spec_anyPair.E :=
  callSpec_of (d := 0) hX (by kernel_rfl) spec_anyPair.I_ok (by kernel_rfl) (by kernel_rfl) (by kernel_rfl) (fun _ _ _ _ h => by dsimp only [spec_anyPair.E] at h; cases h) (fun xs hp => by
    dsimp only [spec_anyPair.E] at hp ⊢
    split at hp
    · exact h _ _ hp
    · cases hp)
theorem spec_anyPair.ok : CallSpec Try.prog spec_anyPair.E := spec_anyPair.ok_of (by simp [spec_anyPair.X, spec_anyArray.ok, spec_reader_pick.ok, spec_someNum.ok, spec_scalar.ok, spec_valid.ok, spec_fill.ok]) fun bs p h => ⟨0, by
  simp only [Bool.and_eq_true, decide_eq_true_eq] at h
  obtain ⟨h1, h2, h3, h4⟩ := aAr_bd h.1 (by omega)
  have r1 := rd_le (q := aArP bs p) h.1 (by omega) (by omega)
  have r2 := rd_le (q := aArP bs p + 1) h.1 (by omega) (by omega)
  rw [spec_anyPair.e, h.1, r1, r2, decide_eq_true (p := p ≤ 1000000) (by omega), decide_eq_true (p := aArP bs p + 1 ≤ 1000000) (by omega), decide_eq_true (p := aArP bs p + 1 ≤ 2000000) (by omega), lt_of (xs := aArS bs p) (by omega), lt_of (xs := aArD bs p) (by omega)]
  unfold apS1 apD1 apS2 apD2 apP apB
  cases pickV bs (aArP bs p) 6 == 0 with
  | true => rfl
  | false =>
    cases pickV bs (aArP bs p) 6 == 1 with
    | true => rfl
    | false =>
      cases pickV bs (aArP bs p) 6 == 2 with
      | true => rfl
      | false =>
        cases hv : validA (aArS bs p) (aArD bs p) with
        | false => rfl
        | true => rw [(validA_inv hv).1]; rfl⟩

namespace spec_DrawStackArrays
noncomputable def E : Entry := ⟨16, false, false, fun | [.d (.ints .u8 bs)] => bytesB bs | _ => false, fun | [.d (.ints .u8 bs)] => ([.agg [((.ints .i64 (apS1 (cutC bs) 0)), false), ((.ints .i64 (apD1 (cutC bs) 0)), false)], .agg [((.ints .i64 (apS2 (cutC bs) 0)), false), ((.ints .i64 (apD2 (cutC bs) 0)), false)]], []) | _ => ([], []), fun _ => [], true, fun _ => none⟩
end spec_DrawStackArrays
namespace spec_DrawStackArrays
noncomputable def X : List Entry := [spec_newReader.E, spec_anyPair.E]
noncomputable def I : List Inl := [⟨16, Try.f16, ⟨[6], [], [], [], [], []⟩⟩]
theorem I_ok : ∀ i ∈ I, Try.prog.funcs[i.f]? = some i.fn ∧ (i.fn.name == "runtime.NumGoroutine") = false := by
  intro i hi
  simp only [I, List.mem_cons, List.not_mem_nil, or_false] at hi
  subst hi
  exact ⟨by kernel_rfl, by kernel_rfl⟩
theorem e (fuel : Nat) (p0 : List Int) : runF Try.prog X I 0 fuel 16 Try.f16 [.d (.ints .u8 p0)] =
  (bif rdOk ((cutC p0)) 0 && decide ((0 : Int) ≤ 900000) then
  some ([.agg [((.ints .i64 (apS1 ((cutC p0)) 0)), false), ((.ints .i64 (apD1 ((cutC p0)) 0)), false)], .agg [((.ints .i64 (apS2 ((cutC p0)) 0)), false), ((.ints .i64 (apD2 ((cutC p0)) 0)), false)]], [])
  else
  none) := by kernel_rfl
end spec_DrawStackArrays
theorem spec_DrawStackArrays.ok_of (hX : ∀ E ∈ spec_DrawStackArrays.X, CallSpec Try.prog E) (h : ∀ (bs : List Int), (bytesB bs) = true → ∃ fuel, runF Try.prog spec_DrawStackArrays.X spec_DrawStackArrays.I 0 fuel 16 Try.f16 [.d (.ints .u8 bs)] = some ([.agg [((.ints .i64 (apS1 (cutC bs) 0)), false), ((.ints .i64 (apD1 (cutC bs) 0)), false)], .agg [((.ints .i64 (apS2 (cutC bs) 0)), false), ((.ints .i64 (apD2 (cutC bs) 0)), false)]], [])) : CallSpec Try.prog spec_DrawStackArrays.E :=
  callSpec_of (d := 0) hX (by kernel_rfl) spec_DrawStackArrays.I_ok (by kernel_rfl) (by kernel_rfl) (by kernel_rfl) (fun _ _ _ _ h => by dsimp only [spec_DrawStackArrays.E] at h; cases h) (fun xs hp => by
    dsimp only [spec_DrawStackArrays.E] at hp ⊢
    split at hp
    · exact h _ hp
    · cases hp)
theorem spec_DrawStackArrays.ok : CallSpec Try.prog spec_DrawStackArrays.E := spec_DrawStackArrays.ok_of (by simp [spec_DrawStackArrays.X, spec_newReader.ok, spec_anyPair.ok]) fun bs h => ⟨0, by
  have r0 := cut_ok h (p := 0) (by omega) (by omega)
  rw [spec_DrawStackArrays.e, r0]
  rfl⟩

namespace slices_Concat_int_int
noncomputable def E : Entry := ⟨62, false, false, fun | [.d (.seq 1 [(.ints .i64 xs), (.ints .i64 ys)])] => szB xs && szB ys | _ => false, fun | [.d (.seq 1 [(.ints .i64 xs), (.ints .i64 ys)])] => ([.one ((.ints .i64 (xs ++ ys)), true)], []) | _ => ([], []), fun _ => [], true, fun _ => none⟩
end slices_Concat_int_int
namespace slices_Concat_int_int
noncomputable def X : List Entry := []
noncomputable def I : List Inl := [⟨62, Try.f62, ⟨[24], [(9, [1, 2, 4, 5, 6, 7, 8, 9, 10, 11, 12, 13, 14, 15, 16, 17, 18, 19, 20, 21, 22, 23, 24, 25, 26, 27, 28, 29, 30, 31, 32, 33, 34, 35]), (1000003, [1, 2, 4, 5, 6, 7, 8, 12, 13, 14, 15, 16, 17, 18, 19, 20, 21, 22, 23, 24, 25, 26, 27, 28, 29, 30, 31, 32, 33, 34, 35]), (1000011, [0, 1, 2, 3, 4, 5, 7, 8, 9, 10, 11, 12, 13, 14, 15, 16, 17, 18, 19, 20, 21, 22, 23, 24, 28, 29, 30, 31, 32, 33, 34, 35])], [], [], [], []⟩⟩, ⟨65, Try.f65, ⟨[], [], [], [], [], []⟩⟩]
theorem I_ok : ∀ i ∈ I, Try.prog.funcs[i.f]? = some i.fn ∧ (i.fn.name == "runtime.NumGoroutine") = false := by
  intro i hi
  simp only [I, List.mem_cons, List.not_mem_nil, or_false] at hi
  rcases hi with rfl | rfl
  all_goals exact ⟨by kernel_rfl, by kernel_rfl⟩
theorem e (p0e0 : List Int) (p0e1 : List Int) : runF Try.prog X I 4 8 62 Try.f62 [.d (.seq 1 [(.ints .i64 p0e0), (.ints .i64 p0e1)])] =
  (bif (decide (((IntKind.wrap .i64 (0 + ((p0e0.length : Nat) : Int))) : Int) < 0)) then
  none
  else
  (bif (decide (((IntKind.wrap .i64 ((IntKind.wrap .i64 (0 + ((p0e0.length : Nat) : Int))) + ((p0e1.length : Nat) : Int))) : Int) < 0)) then
  none
  else
  (bif (decide (((IntKind.wrap .i64 ((IntKind.wrap .i64 (0 + ((p0e0.length : Nat) : Int))) + ((p0e1.length : Nat) : Int))) : Int) < 0)) then
  none
  else
  (bif (decide (((IntKind.wrap .i64 ((IntKind.wrap .i64 ((IntKind.wrap .i64 (0 + ((p0e0.length : Nat) : Int))) + ((p0e1.length : Nat) : Int))) - 0)) : Int) > 0)) then
  (cutEnds 0 (none) (some (.imm (.int .i64 0)))).bind fun cq3 =>
  (bif decide (0 ≤ ((IntKind.wrap .i64 ((IntKind.wrap .i64 ((IntKind.wrap .i64 (0 + ((p0e0.length : Nat) : Int))) + ((p0e1.length : Nat) : Int))) - 0)) : Int)) && fits ((IntKind.wrap .i64 ((IntKind.wrap .i64 ((IntKind.wrap .i64 (0 + ((p0e0.length : Nat) : Int))) + ((p0e1.length : Nat) : Int))) - 0))).toNat 8 then
  (cutEnds (List.replicate ((IntKind.wrap .i64 ((IntKind.wrap .i64 ((IntKind.wrap .i64 (0 + ((p0e0.length : Nat) : Int))) + ((p0e1.length : Nat) : Int))) - 0))).toNat (0 : Int)).length (none) (some (.imm (.int .i64 0)))).bind fun cq4 =>
  (bif decide (cq4.1 = 0) && decide ((cq4.2 - cq4.1) ≤ (List.replicate ((IntKind.wrap .i64 ((IntKind.wrap .i64 ((IntKind.wrap .i64 (0 + ((p0e0.length : Nat) : Int))) + ((p0e1.length : Nat) : Int))) - 0))).toNat (0 : Int)).length) && fits ((cq4.2 - cq4.1) + p0e0.length) 8 then
  (bif fits (((List.replicate ((IntKind.wrap .i64 ((IntKind.wrap .i64 ((IntKind.wrap .i64 (0 + ((p0e0.length : Nat) : Int))) + ((p0e1.length : Nat) : Int))) - 0))).toNat (0 : Int)).take ((cq4.2 - cq4.1)) ++ p0e0).length + p0e1.length) 8 then
  some ([.one ((.ints .i64 (((List.replicate ((IntKind.wrap .i64 ((IntKind.wrap .i64 ((IntKind.wrap .i64 (0 + ((p0e0.length : Nat) : Int))) + ((p0e1.length : Nat) : Int))) - 0))).toNat (0 : Int)).take ((cq4.2 - cq4.1)) ++ p0e0) ++ p0e1)), true)], [])
  else
  none)
  else
  none)
  else
  none)
  else
  (bif fits p0e0.length 8 then
  (bif fits (p0e0.length + p0e1.length) 8 then
  some ([.one ((.ints .i64 (p0e0 ++ p0e1)), true)], [])
  else
  none)
  else
  none))))) := by kernel_rfl
end slices_Concat_int_int
theorem slices_Concat_int_int.ok_of (hX : ∀ E ∈ slices_Concat_int_int.X, CallSpec Try.prog E) (h : ∀ (xs : List Int) (ys : List Int), (szB xs && szB ys) = true → ∃ fuel, runF Try.prog slices_Concat_int_int.X slices_Concat_int_int.I 4 fuel 62 Try.f62 [.d (.seq 1 [(.ints .i64 xs), (.ints .i64 ys)])] = some ([.one ((.ints .i64 (xs ++ ys)), true)], [])) : CallSpec Try.prog slices_Concat_int_int.E :=
  callSpec_of (d := 4) hX (by kernel_rfl) slices_Concat_int_int.I_ok (by kernel_rfl) (by kernel_rfl) (by kernel_rfl) (fun _ _ _ _ h => by dsimp only [slices_Concat_int_int.E] at h; cases h) (fun xs hp => by
    dsimp only [slices_Concat_int_int.E] at hp ⊢
    split at hp
    · exact h _ _ hp
    · cases hp)
theorem slices_Concat_int_int.ok : CallSpec Try.prog slices_Concat_int_int.E := slices_Concat_int_int.ok_of (by simp [slices_Concat_int_int.X]) fun xs ys h => ⟨8, by
  simp only [Bool.and_eq_true] at h
  have h1 := szB_le h.1
  have h2 := szB_le h.2
  have e0 : IntKind.wrap .i64 (0 + ((xs.length : Nat) : Int)) = ((xs.length : Nat) : Int) := by rw [Int.zero_add, wN (by omega)]
  have e1 : IntKind.wrap .i64 (((xs.length : Nat) : Int) + ((ys.length : Nat) : Int)) = ((xs.length + ys.length : Nat) : Int) := wAdd (by omega)
  have e2 : IntKind.wrap .i64 (((xs.length + ys.length : Nat) : Int) - 0) = ((xs.length + ys.length : Nat) : Int) := by rw [Int.sub_zero, wN (by omega)]
  rw [slices_Concat_int_int.e, e0, e1, e2, decide_eq_false (p := ((xs.length : Nat) : Int) < 0) (by omega), decide_eq_false (p := ((xs.length + ys.length : Nat) : Int) < 0) (by omega), cond_false, cond_false, cond_false]
  by_cases h0 : ((xs.length + ys.length : Nat) : Int) > 0
  · rw [decide_eq_true h0, cond_true, Int.toNat_natCast, show (some (AV.imm (.int .i64 0)) : Option AV) = some (.imm (.int .i64 ((0 : Nat) : Int))) from rfl, cut_hi (Nat.le_refl 0), cut_hi (Nat.zero_le _)]
    simp only [Option.bind_some]
    rw [decide_eq_true (p := (0 : Int) ≤ ((xs.length + ys.length : Nat) : Int)) (by omega), fitsOk (by omega)]
    simp only [Nat.sub_self, List.take_zero, List.nil_append, Nat.zero_le, decide_true, Bool.and_self, Bool.true_and, cond_true, Nat.zero_add]
    rw [fitsOk (by omega), cond_true, fitsOk (by omega), cond_true]
  · rw [decide_eq_false h0, cond_false, fitsOk (by omega), cond_true, fitsOk (by omega), cond_true]⟩

namespace impl_asOneCell
noncomputable def E : Entry := ⟨47, false, false, fun | [.d (.agg [(.ints .i64 sh), (.ints .i64 da)])] => szB sh && decide (da.length < 9223372036854775808) | _ => false, fun | [.d (.agg [(.ints .i64 sh), (.ints .i64 da)])] => ([.agg [((.ints .i64 (1 :: sh)), true), ((.ints .i64 da), false)]], []) | _ => ([], []), fun _ => [], true, fun _ => none⟩
end impl_asOneCell
namespace impl_asOneCell
noncomputable def X : List Entry := [slices_Concat_int_int.E]
noncomputable def I : List Inl := [⟨47, Try.f47, ⟨[7], [], [], [(1, [1, 5, 2, 6, 0, 3, 4, 7, 8])], [3, 6], []⟩⟩]
theorem I_ok : ∀ i ∈ I, Try.prog.funcs[i.f]? = some i.fn ∧ (i.fn.name == "runtime.NumGoroutine") = false := by
  intro i hi
  simp only [I, List.mem_cons, List.not_mem_nil, or_false] at hi
  subst hi
  exact ⟨by kernel_rfl, by kernel_rfl⟩
theorem e (fuel : Nat) (p0q0 : List Int) (p0q1 : List Int) : runF Try.prog X I 0 fuel 47 Try.f47 [.d (.agg [(.ints .i64 p0q0), (.ints .i64 p0q1)])] =
  (bif szB (([1] : List Int)) && szB p0q0 then
  some ([.agg [((.ints .i64 ((([1] : List Int)) ++ p0q0)), true), ((.ints .i64 p0q1), false)]], [])
  else
  none) := by kernel_rfl
end impl_asOneCell
theorem impl_asOneCell.ok_of (hX : ∀ E ∈ impl_asOneCell.X, CallSpec Try.prog E) (h : ∀ (sh : List Int) (da : List Int), (szB sh && decide (da.length < 9223372036854775808)) = true → ∃ fuel, runF Try.prog impl_asOneCell.X impl_asOneCell.I 0 fuel 47 Try.f47 [.d (.agg [(.ints .i64 sh), (.ints .i64 da)])] = some ([.agg [((.ints .i64 (1 :: sh)), true), ((.ints .i64 da), false)]], [])) : CallSpec Try.prog impl_asOneCell.E :=
  callSpec_of (d := 0) hX (by kernel_rfl) impl_asOneCell.I_ok (by kernel_rfl) (by kernel_rfl) (by kernel_rfl) (fun _ _ _ _ h => by dsimp only [impl_asOneCell.E] at h; cases h) (fun xs hp => by
    dsimp only [impl_asOneCell.E] at hp ⊢
    split at hp
    · exact h _ _ hp
    · cases hp)
theorem impl_asOneCell.ok : CallSpec Try.prog impl_asOneCell.E := impl_asOneCell.ok_of (by simp [impl_asOneCell.X, slices_Concat_int_int.ok]) fun sh da h => ⟨0, by
  simp only [Bool.and_eq_true] at h
  rw [impl_asOneCell.e, h.1]
  rfl⟩

namespace impl_StackArrays
noncomputable def E : Entry := ⟨17, false, false, fun | [.d (.agg [(.ints .i64 sa), (.ints .i64 da)]), .d (.agg [(.ints .i64 sb), (.ints .i64 db)])] => szB sa && szB sb && decide (da.length < 9223372036854775808) && decide (db.length < 9223372036854775808) | _ => false, fun | [.d (.agg [(.ints .i64 sa), (.ints .i64 da)]), .d (.agg [(.ints .i64 sb), (.ints .i64 db)])] => ([.agg [((.ints .i64 (stS sa da sb db)), true), ((.ints .i64 (stD sa da sb db)), true)], .one ((.bool (stB sa da sb db)), false)], []) | _ => ([], []), fun _ => [], true, fun _ => none⟩
end impl_StackArrays
namespace impl_StackArrays
noncomputable def X : List Entry := [impl_asOneCell.E, impl_JoinAxis.E]
noncomputable def I : List Inl := [⟨17, Try.f17, ⟨[7, 9, 10], [], [], [(1, [0, 2, 1, 3, 4, 5, 6, 7, 8])], [], []⟩⟩]
theorem I_ok : ∀ i ∈ I, Try.prog.funcs[i.f]? = some i.fn ∧ (i.fn.name == "runtime.NumGoroutine") = false := by
  intro i hi
  simp only [I, List.mem_cons, List.not_mem_nil, or_false] at hi
  subst hi
  exact ⟨by kernel_rfl, by kernel_rfl⟩
theorem e (fuel : Nat) (p0q0 : List Int) (p0q1 : List Int) (p1q0 : List Int) (p1q1 : List Int) : runF Try.prog X I 0 fuel 17 Try.f17 [.d (.agg [(.ints .i64 p0q0), (.ints .i64 p0q1)]), .d (.agg [(.ints .i64 p1q0), (.ints .i64 p1q1)])] =
  (bif szB p0q0 && decide (p0q1.length < 9223372036854775808) then
  (bif szB p1q0 && decide (p1q1.length < 9223372036854775808) then
  (bif decide (((1 :: p0q0)).length < 9223372036854775808) && decide (p0q1.length < 9223372036854775808) && decide (((1 :: p1q0)).length < 9223372036854775808) && decide (p1q1.length < 9223372036854775808) then
  some ([.agg [((.ints .i64 (joS ((1 :: p0q0)) p0q1 ((1 :: p1q0)) p1q1 0)), true), ((.ints .i64 (joD ((1 :: p0q0)) p0q1 ((1 :: p1q0)) p1q1 0)), true)], .one ((.bool (joB ((1 :: p0q0)) p0q1 ((1 :: p1q0)) p1q1 0)), false)], [])
  else
  none)
  else
  none)
  else
  none) := by kernel_rfl
end impl_StackArrays
theorem impl_StackArrays.ok_of (hX : ∀ E ∈ impl_StackArrays.X, CallSpec Try.prog E) (h : ∀ (sa : List Int) (da : List Int) (sb : List Int) (db : List Int), (szB sa && szB sb && decide (da.length < 9223372036854775808) && decide (db.length < 9223372036854775808)) = true → ∃ fuel, runF Try.prog impl_StackArrays.X impl_StackArrays.I 0 fuel 17 Try.f17 [.d (.agg [(.ints .i64 sa), (.ints .i64 da)]), .d (.agg [(.ints .i64 sb), (.ints .i64 db)])] = some ([.agg [((.ints .i64 (stS sa da sb db)), true), ((.ints .i64 (stD sa da sb db)), true)], .one ((.bool (stB sa da sb db)), false)], [])) : CallSpec Try.prog impl_StackArrays.E :=
  callSpec_of (d := 0) hX (by kernel_rfl) impl_StackArrays.I_ok (by kernel_rfl) (by kernel_rfl) (by kernel_rfl) (fun _ _ _ _ h => by dsimp only [impl_StackArrays.E] at h; cases h) (fun xs hp => by
    dsimp only [impl_StackArrays.E] at hp ⊢
    split at hp
    · exact h _ _ _ _ hp
    · cases hp)
theorem impl_StackArrays.ok : CallSpec Try.prog impl_StackArrays.E := impl_StackArrays.ok_of (by simp [impl_StackArrays.X, impl_asOneCell.ok, impl_JoinAxis.ok]) fun sa da sb db h => ⟨0, by
  simp only [Bool.and_eq_true] at h
  obtain ⟨⟨⟨h1, h2⟩, h3⟩, h4⟩ := h
  have z1 := szB_le h1
  have z2 := szB_le h2
  obtain ⟨q1, q2, q3⟩ := st_jo sa da sb db
  rw [impl_StackArrays.e, h1, h2, h3, h4, lt_of (xs := 1 :: sa) (by simp only [List.length_cons]; omega), lt_of (xs := 1 :: sb) (by simp only [List.length_cons]; omega), q1, q2, q3]
  rfl⟩

namespace spec_StackArrays
noncomputable def E : Entry := ⟨18, false, false, fun | [.d (.agg [(.ints .i64 sa), (.ints .i64 da)]), .d (.agg [(.ints .i64 sb), (.ints .i64 db)])] => szB sa && szB sb && decide (da.length < 9223372036854775808) && decide (db.length < 9223372036854775808) | _ => false, fun | [.d (.agg [(.ints .i64 sa), (.ints .i64 da)]), .d (.agg [(.ints .i64 sb), (.ints .i64 db)])] => ([.agg [((.ints .i64 (stS sa da sb db)), true), ((.ints .i64 (stD sa da sb db)), true)], .one ((.bool (stB sa da sb db)), false)], []) | _ => ([], []), fun _ => [], true, fun _ => none⟩
end spec_StackArrays
namespace spec_StackArrays
noncomputable def X : List Entry := [spec_valid.E, spec_sameInts.E, spec_validShape.E, spec_make1.E]
noncomputable def I : List Inl := [⟨18, Try.f18, ⟨[41], [], [(4, [3])], [(4, [0, 2, 5, 6, 3, 1, 4, 7, 8, 9, 10])], [39], []⟩⟩]
theorem I_ok : ∀ i ∈ I, Try.prog.funcs[i.f]? = some i.fn ∧ (i.fn.name == "runtime.NumGoroutine") = false := by
  intro i hi
  simp only [I, List.mem_cons, List.not_mem_nil, or_false] at hi
  subst hi
  exact ⟨by kernel_rfl, by kernel_rfl⟩
theorem e (fuel : Nat) (p0q0 : List Int) (p0q1 : List Int) (p1q0 : List Int) (p1q1 : List Int) : runF Try.prog X I 0 fuel 18 Try.f18 [.d (.agg [(.ints .i64 p0q0), (.ints .i64 p0q1)]), .d (.agg [(.ints .i64 p1q0), (.ints .i64 p1q1)])] =
  (bif fits (([2] : List Int).length + p0q0.length) 8 then
  (bif decide (p0q0.length < 9223372036854775808) && decide (p0q1.length < 9223372036854775808) then
  (bif (!(validA p0q0 p0q1)) then
  some ([.agg [((.ints .i64 []), true), ((.ints .i64 []), true)], .one ((.bool false), false)], [])
  else
  (bif decide (p1q0.length < 9223372036854775808) && decide (p1q1.length < 9223372036854775808) then
  (bif (!(validA p1q0 p1q1)) then
  some ([.agg [((.ints .i64 []), true), ((.ints .i64 []), true)], .one ((.bool false), false)], [])
  else
  (bif decide (p0q0.length < 9223372036854775808) && decide (p1q0.length < 9223372036854775808) then
  (bif (!(decide (p0q0 = p1q0))) then
  some ([.agg [((.ints .i64 []), true), ((.ints .i64 []), true)], .one ((.bool false), false)], [])
  else
  (bif decide (((([2] : List Int) ++ p0q0)).length < 9223372036854775808) then
  (bif (!(validS ((([2] : List Int) ++ p0q0)))) then
  some ([.agg [((.ints .i64 []), true), ((.ints .i64 []), true)], .one ((.bool false), false)], [])
  else
  (bif fits (([] : List Int).length + p0q1.length) 8 then
  (bif fits ((([] : List Int) ++ p0q1).length + p1q1.length) 8 then
  (bif szB ((([2] : List Int) ++ p0q0)) && szB (((([] : List Int) ++ p0q1) ++ p1q1)) then
  some ([.agg [((.ints .i64 ((([2] : List Int) ++ p0q0))), true), ((.ints .i64 (((([] : List Int) ++ p0q1) ++ p1q1))), true)], .one ((.bool true), false)], [])
  else
  none)
  else
  none)
  else
  none))
  else
  none))
  else
  none))
  else
  none))
  else
  none)
  else
  none) := by kernel_rfl
end spec_StackArrays
theorem spec_StackArrays.ok_of (hX : ∀ E ∈ spec_StackArrays.X, CallSpec Try.prog E) (h : ∀ (sa : List Int) (da : List Int) (sb : List Int) (db : List Int), (szB sa && szB sb && decide (da.length < 9223372036854775808) && decide (db.length < 9223372036854775808)) = true → ∃ fuel, runF Try.prog spec_StackArrays.X spec_StackArrays.I 0 fuel 18 Try.f18 [.d (.agg [(.ints .i64 sa), (.ints .i64 da)]), .d (.agg [(.ints .i64 sb), (.ints .i64 db)])] = some ([.agg [((.ints .i64 (stS sa da sb db)), true), ((.ints .i64 (stD sa da sb db)), true)], .one ((.bool (stB sa da sb db)), false)], [])) : CallSpec Try.prog spec_StackArrays.E :=
  callSpec_of (d := 0) hX (by kernel_rfl) spec_StackArrays.I_ok (by kernel_rfl) (by kernel_rfl) (by kernel_rfl) (fun _ _ _ _ h => by dsimp only [spec_StackArrays.E] at h; cases h) (fun xs hp => by
    dsimp only [spec_StackArrays.E] at hp ⊢
    split at hp
    · exact h _ _ _ _ hp
    · cases hp)
theorem spec_StackArrays.ok : CallSpec Try.prog spec_StackArrays.E := spec_StackArrays.ok_of (by simp [spec_StackArrays.X, spec_valid.ok, spec_sameInts.ok, spec_validShape.ok, spec_make1.ok]) fun sa da sb db h => ⟨0, by
  simp only [Bool.and_eq_true] at h
  obtain ⟨⟨⟨h1, h2⟩, h3⟩, h4⟩ := h
  have z1 := szB_le h1
  have z2 := szB_le h2
  rw [spec_StackArrays.e, fitsOk (by simp only [List.length_cons, List.length_nil]; omega), lt_of (xs := sa) (by omega), lt_of (xs := sb) (by omega), h3, h4]
  unfold stS stD stB
  cases va : validA sa da with
  | false => rfl
  | true =>
    cases vb : validA sb db with
    | false => rfl
    | true =>
      have l1 := validA_len va
      have l2 := validA_len vb
      rw [lt_of (xs := ([2] : List Int) ++ sa) (by simp only [List.length_append, List.length_singleton]; omega)]
      cases hs : decide (sa = sb) with
      | false => rfl
      | true =>
        rw [show ([2] : List Int) ++ sa = 2 :: sa from rfl]
        cases hv : validS (2 :: sa) with
        | false => rfl
        | true =>
          rw [fitsOk (by simp only [List.length_nil]; omega), fitsOk (by simp only [List.nil_append]; omega), szB_of (xs := 2 :: sa) (by simp only [List.length_cons]; omega), List.nil_append, szB_of (xs := da ++ db) (by simp only [List.length_append]; omega)]
          rfl⟩

namespace impl_CellOf
noncomputable def E : Entry := ⟨19, false, false, fun | [.d (.agg [(.ints .i64 sh), (.ints .i64 da)]), .d (.int .i64 n)] => decide (sh.length < 9223372036854775808) && decide (da.length < 9223372036854775808) | _ => false, fun | [.d (.agg [(.ints .i64 sh), (.ints .i64 da)]), .d (.int .i64 n)] => ([.agg [((.ints .i64 (ceS sh da n)), true), ((.ints .i64 (ceD sh da n)), true)], .one ((.bool (ceB sh da n)), false)], []) | _ => ([], []), fun _ => [], true, fun _ => none⟩
end impl_CellOf
namespace impl_CellOf
noncomputable def X : List Entry := [impl_axisLength.E, impl_copyList.E]
noncomputable def I : List Inl := [⟨19, Try.f19, ⟨[34, 45], [], [], [(5, [0, 4, 6, 7, 8, 9, 10, 11, 12, 1, 2, 5, 13, 3, 14, 15, 16, 17])], [], []⟩⟩]
theorem I_ok : ∀ i ∈ I, Try.prog.funcs[i.f]? = some i.fn ∧ (i.fn.name == "runtime.NumGoroutine") = false := by
  intro i hi
  simp only [I, List.mem_cons, List.not_mem_nil, or_false] at hi
  subst hi
  exact ⟨by kernel_rfl, by kernel_rfl⟩
theorem e (fuel : Nat) (p0q0 : List Int) (p0q1 : List Int) (p1 : Int) : runF Try.prog X I 0 fuel 19 Try.f19 [.d (.agg [(.ints .i64 p0q0), (.ints .i64 p0q1)]), .d (.int .i64 p1)] =
  (bif decide (p0q0.length < 9223372036854775808) && decide (p0q1.length < 9223372036854775808) then
  (bif (!(axB p0q0 p0q1 0)) then
  some ([.agg [((.ints .i64 []), true), ((.ints .i64 []), true)], .one ((.bool false), false)], [])
  else
  (bif (decide ((p1 : Int) < 0)) then
  some ([.agg [((.ints .i64 []), true), ((.ints .i64 []), true)], .one ((.bool false), false)], [])
  else
  (bif (decide ((p1 : Int) ≥ (axL p0q0 p0q1 0))) then
  some ([.agg [((.ints .i64 []), true), ((.ints .i64 []), true)], .one ((.bool false), false)], [])
  else
  (bif decide (((axL p0q0 p0q1 0) : Int) = 0) then
  none
  else
  (cutEnds p0q0.length (some (.imm (.int .i64 1))) (none)).bind fun cq1 =>
  (cutEnds p0q1.length (some (.imm (.int .i64 (IntKind.wrap .i64 (p1 * (IntKind.wrap .i64 (Int.tdiv ((p0q1.length : Nat) : Int) (axL p0q0 p0q1 0)))))))) (some (.imm (.int .i64 (IntKind.wrap .i64 ((IntKind.wrap .i64 (p1 + 1)) * (IntKind.wrap .i64 (Int.tdiv ((p0q1.length : Nat) : Int) (axL p0q0 p0q1 0))))))))).bind fun cq2 =>
  (bif szB (((p0q0.drop cq1.1).take (cq1.2 - cq1.1))) then
  (bif szB (((p0q1.drop cq2.1).take (cq2.2 - cq2.1))) then
  some ([.agg [((.ints .i64 (((p0q0.drop cq1.1).take (cq1.2 - cq1.1)))), true), ((.ints .i64 (((p0q1.drop cq2.1).take (cq2.2 - cq2.1)))), true)], .one ((.bool true), false)], [])
  else
  none)
  else
  none)))))
  else
  none) := by kernel_rfl
end impl_CellOf
theorem impl_CellOf.ok_of (hX : ∀ E ∈ impl_CellOf.X, CallSpec Try.prog E) (h : ∀ (sh : List Int) (da : List Int) (n : Int), (decide (sh.length < 9223372036854775808) && decide (da.length < 9223372036854775808)) = true → ∃ fuel, runF Try.prog impl_CellOf.X impl_CellOf.I 0 fuel 19 Try.f19 [.d (.agg [(.ints .i64 sh), (.ints .i64 da)]), .d (.int .i64 n)] = some ([.agg [((.ints .i64 (ceS sh da n)), true), ((.ints .i64 (ceD sh da n)), true)], .one ((.bool (ceB sh da n)), false)], [])) : CallSpec Try.prog impl_CellOf.E :=
  callSpec_of (d := 0) hX (by kernel_rfl) impl_CellOf.I_ok (by kernel_rfl) (by kernel_rfl) (by kernel_rfl) (fun _ _ _ _ h => by dsimp only [impl_CellOf.E] at h; cases h) (fun xs hp => by
    dsimp only [impl_CellOf.E] at hp ⊢
    split at hp
    · exact h _ _ _ hp
    · cases hp)
theorem impl_CellOf.ok : CallSpec Try.prog impl_CellOf.E := impl_CellOf.ok_of (by simp [impl_CellOf.X, impl_axisLength.ok, impl_copyList.ok]) fun sh da n h => ⟨0, by
  rw [impl_CellOf.e, h]
  unfold ceS ceD
  cases hb : axB sh da 0 with
  | false =>
    have : ceB sh da n = false := by simp only [ceB, hb, Bool.false_and]
    rw [this]; rfl
  | true =>
    obtain ⟨hj, hv, ax, hd, hl⟩ := axB_zero hb
    have hr := ax.rank
    have hL := ax.len_le
    have hM := ax.le
    rw [hl]
    simp only [cond_true, Bool.not_true, cond_false]
    cases hc : ceB sh da n with
    | false =>
      simp only [ceB, hb, Bool.true_and] at hc
      by_cases h0 : 0 ≤ n
      · rw [decide_eq_true h0, Bool.true_and, decide_eq_false_iff_not] at hc
        rw [decide_eq_false (p := n < 0) (by omega), decide_eq_true (p := n ≥ ((lenN sh 0 : Nat) : Int)) (by omega)]; rfl
      · rw [decide_eq_true (p := n < 0) (by omega)]; rfl
    | true =>
      obtain ⟨j, rfl, hj2, _, hle⟩ := ceB_inv hc
      have hle2 : j * behN sh 0 ≤ (j + 1) * behN sh 0 := Nat.mul_le_mul_right _ (by omega)
      have hlen := validA_len hv
      have e1 : IntKind.wrap .i64 ((j : Int) + 1) = ((j + 1 : Nat) : Int) := w1 (by omega)
      have e2 : da.length / lenN sh 0 = behN sh 0 := by rw [hd, Nat.mul_comm]; exact Nat.mul_div_cancel _ (by omega)
      have e3 : behN sh 0 ≤ da.length := by rw [← e2]; exact Nat.div_le_self _ _
      rw [decide_eq_false (p := (j : Int) < 0) (by omega), decide_eq_false (p := (j : Int) ≥ ((lenN sh 0 : Nat) : Int)) (by omega), decide_eq_false (p := ((lenN sh 0 : Nat) : Int) = 0) (by omega)]
      simp only [cond_false]
      rw [cut_one hj, tdivN, e2, wN (n := behN sh 0) (by omega), e1, wMul (by omega), wMul (by omega), cut_both hle2 (by omega)]
      simp only [Option.bind_some, drop_take, ce_cut]
      rw [szB_of (by simp; omega), szB_of (by simp; omega)]
      rfl⟩

namespace laws_FnStackArrays
noncomputable def E : Entry := ⟨5, true, false, fun | [.d (.ints .u8 bs)] => bytesB bs | _ => false, fun | [.d (.ints .u8 bs)] => ([.one ((.bool true), false)], []) | _ => ([], []), fun _ => [], false, fun _ => none⟩
end laws_FnStackArrays
namespace laws_FnStackArrays
noncomputable def X : List Entry := [spec_DrawStackArrays.E, impl_StackArrays.E, spec_StackArrays.E, laws_equalArray.E, impl_CellOf.E]
noncomputable def I : List Inl := [⟨5, Try.f5, ⟨[20, 26, 32, 58, 63, 68], [], [], [], [], []⟩⟩]
theorem I_ok : ∀ i ∈ I, Try.prog.funcs[i.f]? = some i.fn ∧ (i.fn.name == "runtime.NumGoroutine") = false := by
  intro i hi
  simp only [I, List.mem_cons, List.not_mem_nil, or_false] at hi
  subst hi
  exact ⟨by kernel_rfl, by kernel_rfl⟩
theorem e (fuel : Nat) (p0 : List Int) : runF Try.prog X I 0 fuel 5 Try.f5 [.d (.ints .u8 p0)] =
  (bif (decide ((((p0.length : Nat) : Int) : Int) > 1048576)) then
  some ([.one ((.bool true), false)], [])
  else
  (bif bytesB p0 then
  (bif szB ((apS1 (cutC p0) 0)) && szB ((apS2 (cutC p0) 0)) && decide (((apD1 (cutC p0) 0)).length < 9223372036854775808) && decide (((apD2 (cutC p0) 0)).length < 9223372036854775808) then
  (bif szB ((apS1 (cutC p0) 0)) && szB ((apS2 (cutC p0) 0)) && decide (((apD1 (cutC p0) 0)).length < 9223372036854775808) && decide (((apD2 (cutC p0) 0)).length < 9223372036854775808) then
  (bif decide (((stS ((apS1 (cutC p0) 0)) ((apD1 (cutC p0) 0)) ((apS2 (cutC p0) 0)) ((apD2 (cutC p0) 0)))).length < 9223372036854775808) && decide (((stD ((apS1 (cutC p0) 0)) ((apD1 (cutC p0) 0)) ((apS2 (cutC p0) 0)) ((apD2 (cutC p0) 0)))).length < 9223372036854775808) && decide (((stS ((apS1 (cutC p0) 0)) ((apD1 (cutC p0) 0)) ((apS2 (cutC p0) 0)) ((apD2 (cutC p0) 0)))).length < 9223372036854775808) && decide (((stD ((apS1 (cutC p0) 0)) ((apD1 (cutC p0) 0)) ((apS2 (cutC p0) 0)) ((apD2 (cutC p0) 0)))).length < 9223372036854775808) then
  (bif (!(decide (((stS ((apS1 (cutC p0) 0)) ((apD1 (cutC p0) 0)) ((apS2 (cutC p0) 0)) ((apD2 (cutC p0) 0)))) = ((stS ((apS1 (cutC p0) 0)) ((apD1 (cutC p0) 0)) ((apS2 (cutC p0) 0)) ((apD2 (cutC p0) 0))))) && decide (((stD ((apS1 (cutC p0) 0)) ((apD1 (cutC p0) 0)) ((apS2 (cutC p0) 0)) ((apD2 (cutC p0) 0)))) = ((stD ((apS1 (cutC p0) 0)) ((apD1 (cutC p0) 0)) ((apS2 (cutC p0) 0)) ((apD2 (cutC p0) 0))))))) then
  (bif decide (((stS ((apS1 (cutC p0) 0)) ((apD1 (cutC p0) 0)) ((apS2 (cutC p0) 0)) ((apD2 (cutC p0) 0)))).length < 9223372036854775808) && decide (((stD ((apS1 (cutC p0) 0)) ((apD1 (cutC p0) 0)) ((apS2 (cutC p0) 0)) ((apD2 (cutC p0) 0)))).length < 9223372036854775808) && decide (((stS ((apS1 (cutC p0) 0)) ((apD1 (cutC p0) 0)) ((apS2 (cutC p0) 0)) ((apD2 (cutC p0) 0)))).length < 9223372036854775808) && decide (((stD ((apS1 (cutC p0) 0)) ((apD1 (cutC p0) 0)) ((apS2 (cutC p0) 0)) ((apD2 (cutC p0) 0)))).length < 9223372036854775808) then
  (bif (decide (((stS ((apS1 (cutC p0) 0)) ((apD1 (cutC p0) 0)) ((apS2 (cutC p0) 0)) ((apD2 (cutC p0) 0)))) = ((stS ((apS1 (cutC p0) 0)) ((apD1 (cutC p0) 0)) ((apS2 (cutC p0) 0)) ((apD2 (cutC p0) 0))))) && decide (((stD ((apS1 (cutC p0) 0)) ((apD1 (cutC p0) 0)) ((apS2 (cutC p0) 0)) ((apD2 (cutC p0) 0)))) = ((stD ((apS1 (cutC p0) 0)) ((apD1 (cutC p0) 0)) ((apS2 (cutC p0) 0)) ((apD2 (cutC p0) 0)))))) then
  some ([.one ((.bool ((stB ((apS1 (cutC p0) 0)) ((apD1 (cutC p0) 0)) ((apS2 (cutC p0) 0)) ((apD2 (cutC p0) 0))) == (stB ((apS1 (cutC p0) 0)) ((apD1 (cutC p0) 0)) ((apS2 (cutC p0) 0)) ((apD2 (cutC p0) 0))))), false)], [])
  else
  some ([.one ((.bool false), false)], []))
  else
  none)
  else
  (bif (!((stB ((apS1 (cutC p0) 0)) ((apD1 (cutC p0) 0)) ((apS2 (cutC p0) 0)) ((apD2 (cutC p0) 0))) == (stB ((apS1 (cutC p0) 0)) ((apD1 (cutC p0) 0)) ((apS2 (cutC p0) 0)) ((apD2 (cutC p0) 0))))) then
  (bif decide (((stS ((apS1 (cutC p0) 0)) ((apD1 (cutC p0) 0)) ((apS2 (cutC p0) 0)) ((apD2 (cutC p0) 0)))).length < 9223372036854775808) && decide (((stD ((apS1 (cutC p0) 0)) ((apD1 (cutC p0) 0)) ((apS2 (cutC p0) 0)) ((apD2 (cutC p0) 0)))).length < 9223372036854775808) && decide (((stS ((apS1 (cutC p0) 0)) ((apD1 (cutC p0) 0)) ((apS2 (cutC p0) 0)) ((apD2 (cutC p0) 0)))).length < 9223372036854775808) && decide (((stD ((apS1 (cutC p0) 0)) ((apD1 (cutC p0) 0)) ((apS2 (cutC p0) 0)) ((apD2 (cutC p0) 0)))).length < 9223372036854775808) then
  (bif (decide (((stS ((apS1 (cutC p0) 0)) ((apD1 (cutC p0) 0)) ((apS2 (cutC p0) 0)) ((apD2 (cutC p0) 0)))) = ((stS ((apS1 (cutC p0) 0)) ((apD1 (cutC p0) 0)) ((apS2 (cutC p0) 0)) ((apD2 (cutC p0) 0))))) && decide (((stD ((apS1 (cutC p0) 0)) ((apD1 (cutC p0) 0)) ((apS2 (cutC p0) 0)) ((apD2 (cutC p0) 0)))) = ((stD ((apS1 (cutC p0) 0)) ((apD1 (cutC p0) 0)) ((apS2 (cutC p0) 0)) ((apD2 (cutC p0) 0)))))) then
  some ([.one ((.bool ((stB ((apS1 (cutC p0) 0)) ((apD1 (cutC p0) 0)) ((apS2 (cutC p0) 0)) ((apD2 (cutC p0) 0))) == (stB ((apS1 (cutC p0) 0)) ((apD1 (cutC p0) 0)) ((apS2 (cutC p0) 0)) ((apD2 (cutC p0) 0))))), false)], [])
  else
  some ([.one ((.bool false), false)], []))
  else
  none)
  else
  (bif (!(stB ((apS1 (cutC p0) 0)) ((apD1 (cutC p0) 0)) ((apS2 (cutC p0) 0)) ((apD2 (cutC p0) 0)))) then
  (bif decide (((stS ((apS1 (cutC p0) 0)) ((apD1 (cutC p0) 0)) ((apS2 (cutC p0) 0)) ((apD2 (cutC p0) 0)))).length < 9223372036854775808) && decide (((stD ((apS1 (cutC p0) 0)) ((apD1 (cutC p0) 0)) ((apS2 (cutC p0) 0)) ((apD2 (cutC p0) 0)))).length < 9223372036854775808) && decide (((stS ((apS1 (cutC p0) 0)) ((apD1 (cutC p0) 0)) ((apS2 (cutC p0) 0)) ((apD2 (cutC p0) 0)))).length < 9223372036854775808) && decide (((stD ((apS1 (cutC p0) 0)) ((apD1 (cutC p0) 0)) ((apS2 (cutC p0) 0)) ((apD2 (cutC p0) 0)))).length < 9223372036854775808) then
  (bif (decide (((stS ((apS1 (cutC p0) 0)) ((apD1 (cutC p0) 0)) ((apS2 (cutC p0) 0)) ((apD2 (cutC p0) 0)))) = ((stS ((apS1 (cutC p0) 0)) ((apD1 (cutC p0) 0)) ((apS2 (cutC p0) 0)) ((apD2 (cutC p0) 0))))) && decide (((stD ((apS1 (cutC p0) 0)) ((apD1 (cutC p0) 0)) ((apS2 (cutC p0) 0)) ((apD2 (cutC p0) 0)))) = ((stD ((apS1 (cutC p0) 0)) ((apD1 (cutC p0) 0)) ((apS2 (cutC p0) 0)) ((apD2 (cutC p0) 0)))))) then
  some ([.one ((.bool ((stB ((apS1 (cutC p0) 0)) ((apD1 (cutC p0) 0)) ((apS2 (cutC p0) 0)) ((apD2 (cutC p0) 0))) == (stB ((apS1 (cutC p0) 0)) ((apD1 (cutC p0) 0)) ((apS2 (cutC p0) 0)) ((apD2 (cutC p0) 0))))), false)], [])
  else
  some ([.one ((.bool false), false)], []))
  else
  none)
  else
  (bif decide (((stS ((apS1 (cutC p0) 0)) ((apD1 (cutC p0) 0)) ((apS2 (cutC p0) 0)) ((apD2 (cutC p0) 0)))).length < 9223372036854775808) && decide (((stD ((apS1 (cutC p0) 0)) ((apD1 (cutC p0) 0)) ((apS2 (cutC p0) 0)) ((apD2 (cutC p0) 0)))).length < 9223372036854775808) then
  (bif decide (((stS ((apS1 (cutC p0) 0)) ((apD1 (cutC p0) 0)) ((apS2 (cutC p0) 0)) ((apD2 (cutC p0) 0)))).length < 9223372036854775808) && decide (((stD ((apS1 (cutC p0) 0)) ((apD1 (cutC p0) 0)) ((apS2 (cutC p0) 0)) ((apD2 (cutC p0) 0)))).length < 9223372036854775808) then
  (bif decide (((stS ((apS1 (cutC p0) 0)) ((apD1 (cutC p0) 0)) ((apS2 (cutC p0) 0)) ((apD2 (cutC p0) 0)))).length < 9223372036854775808) && decide (((stD ((apS1 (cutC p0) 0)) ((apD1 (cutC p0) 0)) ((apS2 (cutC p0) 0)) ((apD2 (cutC p0) 0)))).length < 9223372036854775808) then
  (bif (ceB ((stS ((apS1 (cutC p0) 0)) ((apD1 (cutC p0) 0)) ((apS2 (cutC p0) 0)) ((apD2 (cutC p0) 0)))) ((stD ((apS1 (cutC p0) 0)) ((apD1 (cutC p0) 0)) ((apS2 (cutC p0) 0)) ((apD2 (cutC p0) 0)))) 0) then
  (bif (ceB ((stS ((apS1 (cutC p0) 0)) ((apD1 (cutC p0) 0)) ((apS2 (cutC p0) 0)) ((apD2 (cutC p0) 0)))) ((stD ((apS1 (cutC p0) 0)) ((apD1 (cutC p0) 0)) ((apS2 (cutC p0) 0)) ((apD2 (cutC p0) 0)))) 1) then
  (bif (!(ceB ((stS ((apS1 (cutC p0) 0)) ((apD1 (cutC p0) 0)) ((apS2 (cutC p0) 0)) ((apD2 (cutC p0) 0)))) ((stD ((apS1 (cutC p0) 0)) ((apD1 (cutC p0) 0)) ((apS2 (cutC p0) 0)) ((apD2 (cutC p0) 0)))) 2)) then
  (bif decide (((ceS ((stS ((apS1 (cutC p0) 0)) ((apD1 (cutC p0) 0)) ((apS2 (cutC p0) 0)) ((apD2 (cutC p0) 0)))) ((stD ((apS1 (cutC p0) 0)) ((apD1 (cutC p0) 0)) ((apS2 (cutC p0) 0)) ((apD2 (cutC p0) 0)))) 0)).length < 9223372036854775808) && decide (((ceD ((stS ((apS1 (cutC p0) 0)) ((apD1 (cutC p0) 0)) ((apS2 (cutC p0) 0)) ((apD2 (cutC p0) 0)))) ((stD ((apS1 (cutC p0) 0)) ((apD1 (cutC p0) 0)) ((apS2 (cutC p0) 0)) ((apD2 (cutC p0) 0)))) 0)).length < 9223372036854775808) && decide (((apS1 (cutC p0) 0)).length < 9223372036854775808) && decide (((apD1 (cutC p0) 0)).length < 9223372036854775808) then
  (bif (decide (((ceS ((stS ((apS1 (cutC p0) 0)) ((apD1 (cutC p0) 0)) ((apS2 (cutC p0) 0)) ((apD2 (cutC p0) 0)))) ((stD ((apS1 (cutC p0) 0)) ((apD1 (cutC p0) 0)) ((apS2 (cutC p0) 0)) ((apD2 (cutC p0) 0)))) 0)) = ((apS1 (cutC p0) 0))) && decide (((ceD ((stS ((apS1 (cutC p0) 0)) ((apD1 (cutC p0) 0)) ((apS2 (cutC p0) 0)) ((apD2 (cutC p0) 0)))) ((stD ((apS1 (cutC p0) 0)) ((apD1 (cutC p0) 0)) ((apS2 (cutC p0) 0)) ((apD2 (cutC p0) 0)))) 0)) = ((apD1 (cutC p0) 0)))) then
  (bif decide (((ceS ((stS ((apS1 (cutC p0) 0)) ((apD1 (cutC p0) 0)) ((apS2 (cutC p0) 0)) ((apD2 (cutC p0) 0)))) ((stD ((apS1 (cutC p0) 0)) ((apD1 (cutC p0) 0)) ((apS2 (cutC p0) 0)) ((apD2 (cutC p0) 0)))) 1)).length < 9223372036854775808) && decide (((ceD ((stS ((apS1 (cutC p0) 0)) ((apD1 (cutC p0) 0)) ((apS2 (cutC p0) 0)) ((apD2 (cutC p0) 0)))) ((stD ((apS1 (cutC p0) 0)) ((apD1 (cutC p0) 0)) ((apS2 (cutC p0) 0)) ((apD2 (cutC p0) 0)))) 1)).length < 9223372036854775808) && decide (((apS2 (cutC p0) 0)).length < 9223372036854775808) && decide (((apD2 (cutC p0) 0)).length < 9223372036854775808) then
  some ([.one ((.bool (decide (((ceS ((stS ((apS1 (cutC p0) 0)) ((apD1 (cutC p0) 0)) ((apS2 (cutC p0) 0)) ((apD2 (cutC p0) 0)))) ((stD ((apS1 (cutC p0) 0)) ((apD1 (cutC p0) 0)) ((apS2 (cutC p0) 0)) ((apD2 (cutC p0) 0)))) 1)) = ((apS2 (cutC p0) 0))) && decide (((ceD ((stS ((apS1 (cutC p0) 0)) ((apD1 (cutC p0) 0)) ((apS2 (cutC p0) 0)) ((apD2 (cutC p0) 0)))) ((stD ((apS1 (cutC p0) 0)) ((apD1 (cutC p0) 0)) ((apS2 (cutC p0) 0)) ((apD2 (cutC p0) 0)))) 1)) = ((apD2 (cutC p0) 0))))), false)], [])
  else
  none)
  else
  some ([.one ((.bool false), false)], []))
  else
  none)
  else
  some ([.one ((.bool false), false)], []))
  else
  some ([.one ((.bool false), false)], []))
  else
  some ([.one ((.bool false), false)], []))
  else
  none)
  else
  none)
  else
  none))))
  else
  none)
  else
  none)
  else
  none)
  else
  none)) := by kernel_rfl
end laws_FnStackArrays
theorem laws_FnStackArrays.ok_of (hX : ∀ E ∈ laws_FnStackArrays.X, CallSpec Try.prog E) (h : ∀ (bs : List Int), (bytesB bs) = true → ∃ fuel, runF Try.prog laws_FnStackArrays.X laws_FnStackArrays.I 0 fuel 5 Try.f5 [.d (.ints .u8 bs)] = some ([.one ((.bool true), false)], [])) : CallSpec Try.prog laws_FnStackArrays.E :=
  callSpec_of (d := 0) hX (by kernel_rfl) laws_FnStackArrays.I_ok (by kernel_rfl) (by kernel_rfl) (by kernel_rfl) (fun _ _ _ _ h => by dsimp only [laws_FnStackArrays.E] at h; cases h) (fun xs hp => by
    dsimp only [laws_FnStackArrays.E] at hp ⊢
    split at hp
    · exact h _ hp
    · cases hp)
theorem laws_FnStackArrays.ok : CallSpec Try.prog laws_FnStackArrays.E := laws_FnStackArrays.ok_of (by simp [laws_FnStackArrays.X, spec_DrawStackArrays.ok, impl_StackArrays.ok, spec_StackArrays.ok, laws_equalArray.ok, impl_CellOf.ok]) fun bs h => by
  obtain ⟨F, hF⟩ : ∃ F : Nat, 4000 < F := ⟨4001, by omega⟩
  refine ⟨F, ?_⟩
  rw [laws_FnStackArrays.e]
  by_cases hl : ((bs.length : Nat) : Int) > 1048576
  · rw [decide_eq_true hl]; rfl
  rw [decide_eq_false hl, cond_false, h, cond_true]
  have r0 := cut_ok h (p := 0) (by omega) (by omega)
  obtain ⟨a1, a2, b1, b2, _, _⟩ := ap_bd r0 (by omega)
  obtain ⟨sa, hsa⟩ : ∃ x, apS1 (cutC bs) 0 = x := ⟨_, rfl⟩
  obtain ⟨da, hda⟩ : ∃ x, apD1 (cutC bs) 0 = x := ⟨_, rfl⟩
  obtain ⟨sb, hsb⟩ : ∃ x, apS2 (cutC bs) 0 = x := ⟨_, rfl⟩
  obtain ⟨db, hdb⟩ : ∃ x, apD2 (cutC bs) 0 = x := ⟨_, rfl⟩
  rw [hsa] at a1
  rw [hda] at a2
  rw [hsb] at b1
  rw [hdb] at b2
  have g1 := lt_of (xs := sa) (by omega)
  have g2 := lt_of (xs := da) (by omega)
  have g3 := lt_of (xs := sb) (by omega)
  have g4 := lt_of (xs := db) (by omega)
  have y1 := szB_of (xs := sa) (by omega)
  have y2 := szB_of (xs := sb) (by omega)
  simp only [hsa, hda, hsb, hdb]
  cases hb : stB sa da sb db with
  | false =>
    have e0 : stS sa da sb db = [] := by simp only [stS, hb, cond_false]
    have e1 : stD sa da sb db = [] := by simp only [stD, hb, cond_false]
    have g0 : decide (([] : List Int).length < 9223372036854775808) = true := rfl
    simp only [Bool.and_self, Bool.and_true, Bool.true_and, cond_true, cond_false, Bool.not_true, Bool.not_false, bne_self_eq_false, beq_self_eq_true, decide_true, eq_self, g1, g2, g3, g4, y1, y2, e0, e1, g0]
  | true =>
    have f := st_f hb
    have e0 := f.s
    have e1 := f.d
    have la := f.la
    have lb := f.lb
    have jl := validA_len f.val
    have g5 := lt_of (xs := 2 :: sa) (by omega)
    have g6 := lt_of (xs := da ++ db) (by omega)
    obtain ⟨c0, c1, c2⟩ := ce_of (n := 0) f.val (by omega)
    obtain ⟨d0, d1, d2⟩ := ce_of (n := 1) f.val (by omega)
    rw [Nat.zero_mul, List.drop_zero, ← la, List.take_left' rfl] at c2
    rw [Nat.one_mul, ← la, List.drop_left' rfl, la, ← lb, List.take_length] at d2
    have w0 : ceB (2 :: sa) (da ++ db) 2 = false := by
      have hL : lenN (2 :: sa) 0 = 2 := rfl
      simp only [ceB, hL]
      rw [decide_eq_false (p := (2 : Int) < ((2 : Nat) : Int)) (by omega), Bool.and_false]
    simp only [show ((0 : Nat) : Int) = 0 from rfl] at c0 c1 c2
    simp only [show ((1 : Nat) : Int) = 1 from rfl] at d0 d1 d2
    have he := f.eq
    simp only [Bool.and_self, Bool.and_true, Bool.true_and, cond_true, cond_false, Bool.not_true, Bool.not_false, bne_self_eq_false, beq_self_eq_true, decide_true, eq_self, g1, g2, g3, g4, g5, g6, y1, y2, e0, e1, c0, c1, c2, d0, d1, d2, w0]
    rw [decide_eq_true he]

namespace impl_VectorOf
noncomputable def E : Entry := ⟨50, false, false, fun | [.d (.ints .i64 xs)] => szB xs | _ => false, fun | [.d (.ints .i64 xs)] => ([.agg [((.ints .i64 (vecS xs)), true), ((.ints .i64 (vecD xs)), true)]], []) | _ => ([], []), fun _ => [], true, fun _ => none⟩
end impl_VectorOf
namespace impl_VectorOf
noncomputable def X : List Entry := [impl_ValidArray.E, impl_copyList.E]
noncomputable def I : List Inl := [⟨50, Try.f50, ⟨[15], [], [], [], [], []⟩⟩]
theorem I_ok : ∀ i ∈ I, Try.prog.funcs[i.f]? = some i.fn ∧ (i.fn.name == "runtime.NumGoroutine") = false := by
  intro i hi
  simp only [I, List.mem_cons, List.not_mem_nil, or_false] at hi
  subst hi
  exact ⟨by kernel_rfl, by kernel_rfl⟩
theorem e (fuel : Nat) (p0 : List Int) : runF Try.prog X I 0 fuel 50 Try.f50 [.d (.ints .i64 p0)] =
  (bif decide (([((p0.length : Nat) : Int)]).length < 9223372036854775808) && decide (p0.length < 9223372036854775808) then
  (bif (!(validA ([((p0.length : Nat) : Int)]) p0)) then
  some ([.agg [((.ints .i64 []), true), ((.ints .i64 []), true)]], [])
  else
  (bif szB p0 then
  some ([.agg [((.ints .i64 [((p0.length : Nat) : Int)]), true), ((.ints .i64 p0), true)]], [])
  else
  none))
  else
  none) := by kernel_rfl
end impl_VectorOf
theorem impl_VectorOf.ok_of (hX : ∀ E ∈ impl_VectorOf.X, CallSpec Try.prog E) (h : ∀ (xs : List Int), (szB xs) = true → ∃ fuel, runF Try.prog impl_VectorOf.X impl_VectorOf.I 0 fuel 50 Try.f50 [.d (.ints .i64 xs)] = some ([.agg [((.ints .i64 (vecS xs)), true), ((.ints .i64 (vecD xs)), true)]], [])) : CallSpec Try.prog impl_VectorOf.E :=
  callSpec_of (d := 0) hX (by kernel_rfl) impl_VectorOf.I_ok (by kernel_rfl) (by kernel_rfl) (by kernel_rfl) (fun _ _ _ _ h => by dsimp only [impl_VectorOf.E] at h; cases h) (fun xs hp => by
    dsimp only [impl_VectorOf.E] at hp ⊢
    split at hp
    · exact h _ hp
    · cases hp)
theorem validA_vec0 (xs : List Int) (hx : xs.length < 9223372036854775808) : validA [((xs.length : Nat) : Int)] xs = vecOk xs := by
  have e1 := @wS ((xs.length : Nat) : Int) (by omega) (by omega)
  by_cases h1 : xs.length ≤ 60
  · have h2 : ((xs.length : Nat) : Int) ≤ 60 := by omega
    simp [validA, validS, vecOk, allB_cons, allB_nil, volW, volFrom, e1, h1, h2]
  · have h2 : ¬ ((xs.length : Nat) : Int) ≤ 60 := by omega
    simp [validA, validS, vecOk, allB_cons, allB_nil, volW, volFrom, e1, h1, h2]

theorem impl_VectorOf.ok : CallSpec Try.prog impl_VectorOf.E := impl_VectorOf.ok_of (by simp [impl_VectorOf.X, impl_ValidArray.ok, impl_copyList.ok]) fun xs h => ⟨0, by
  rw [impl_VectorOf.e, lt_of (szB_lt h), h, validA_vec0 xs (szB_lt h), lt_of (by simp)]
  unfold vecS vecD
  cases vecOk xs <;> rfl⟩

namespace impl_Ravel
noncomputable def E : Entry := ⟨20, false, false, fun | [.d (.agg [(.ints .i64 sh), (.ints .i64 da)])] => decide (sh.length < 9223372036854775808) && decide (da.length < 9223372036854775808) | _ => false, fun | [.d (.agg [(.ints .i64 sh), (.ints .i64 da)])] => ([.agg [((.ints .i64 (ravS sh da)), true), ((.ints .i64 (ravD sh da)), true)]], []) | _ => ([], []), fun _ => [], true, fun _ => none⟩
end impl_Ravel
namespace impl_Ravel
noncomputable def X : List Entry := [impl_ValidArray.E, impl_VectorOf.E]
noncomputable def I : List Inl := [⟨20, Try.f20, ⟨[9], [], [], [], [], []⟩⟩]
theorem I_ok : ∀ i ∈ I, Try.prog.funcs[i.f]? = some i.fn ∧ (i.fn.name == "runtime.NumGoroutine") = false := by
  intro i hi
  simp only [I, List.mem_cons, List.not_mem_nil, or_false] at hi
  subst hi
  exact ⟨by kernel_rfl, by kernel_rfl⟩
theorem e (fuel : Nat) (p0q0 : List Int) (p0q1 : List Int) : runF Try.prog X I 0 fuel 20 Try.f20 [.d (.agg [(.ints .i64 p0q0), (.ints .i64 p0q1)])] =
  (bif decide (p0q0.length < 9223372036854775808) && decide (p0q1.length < 9223372036854775808) then
  (bif (!(validA p0q0 p0q1)) then
  some ([.agg [((.ints .i64 []), true), ((.ints .i64 []), true)]], [])
  else
  (bif szB p0q1 then
  some ([.agg [((.ints .i64 (vecS p0q1)), true), ((.ints .i64 (vecD p0q1)), true)]], [])
  else
  none))
  else
  none) := by kernel_rfl
end impl_Ravel
theorem impl_Ravel.ok_of (hX : ∀ E ∈ impl_Ravel.X, CallSpec Try.prog E) (h : ∀ (sh : List Int) (da : List Int), (decide (sh.length < 9223372036854775808) && decide (da.length < 9223372036854775808)) = true → ∃ fuel, runF Try.prog impl_Ravel.X impl_Ravel.I 0 fuel 20 Try.f20 [.d (.agg [(.ints .i64 sh), (.ints .i64 da)])] = some ([.agg [((.ints .i64 (ravS sh da)), true), ((.ints .i64 (ravD sh da)), true)]], [])) : CallSpec Try.prog impl_Ravel.E :=
  callSpec_of (d := 0) hX (by kernel_rfl) impl_Ravel.I_ok (by kernel_rfl) (by kernel_rfl) (by kernel_rfl) (fun _ _ _ _ h => by dsimp only [impl_Ravel.E] at h; cases h) (fun xs hp => by
    dsimp only [impl_Ravel.E] at hp ⊢
    split at hp
    · exact h _ _ hp
    · cases hp)
theorem impl_Ravel.ok : CallSpec Try.prog impl_Ravel.E := impl_Ravel.ok_of (by simp [impl_Ravel.X, impl_ValidArray.ok, impl_VectorOf.ok]) fun sh da h => ⟨0, by
  rw [impl_Ravel.e, h]
  unfold ravS ravD vecS vecD
  cases hv : validA sh da with
  | false => rfl
  | true => rw [szB_of (by have := validA_len hv; omega), vecOk_of hv]; rfl⟩

namespace laws_FnStackArraysRavel
noncomputable def E : Entry := ⟨6, true, false, fun | [.d (.ints .u8 bs)] => bytesB bs | _ => false, fun | [.d (.ints .u8 bs)] => ([.one ((.bool true), false)], []) | _ => ([], []), fun _ => [], false, fun _ => none⟩
end laws_FnStackArraysRavel
namespace laws_FnStackArraysRavel
noncomputable def X : List Entry := [spec_DrawStackArrays.E, impl_StackArrays.E, spec_StackArrays.E, laws_equalArray.E, impl_Ravel.E, impl_JoinAxis.E]
noncomputable def I : List Inl := [⟨6, Try.f6, ⟨[16, 22, 28, 54, 56, 57, 64], [], [], [(8, [0, 2, 1, 3, 4, 5, 6, 7, 8, 9, 10])], [], []⟩⟩]
theorem I_ok : ∀ i ∈ I, Try.prog.funcs[i.f]? = some i.fn ∧ (i.fn.name == "runtime.NumGoroutine") = false := by
  intro i hi
  simp only [I, List.mem_cons, List.not_mem_nil, or_false] at hi
  subst hi
  exact ⟨by kernel_rfl, by kernel_rfl⟩
theorem e (fuel : Nat) (p0 : List Int) : runF Try.prog X I 0 fuel 6 Try.f6 [.d (.ints .u8 p0)] =
  (bif (decide ((((p0.length : Nat) : Int) : Int) > 1048576)) then
  some ([.one ((.bool true), false)], [])
  else
  (bif bytesB p0 then
  (bif szB ((apS1 (cutC p0) 0)) && szB ((apS2 (cutC p0) 0)) && decide (((apD1 (cutC p0) 0)).length < 9223372036854775808) && decide (((apD2 (cutC p0) 0)).length < 9223372036854775808) then
  (bif szB ((apS1 (cutC p0) 0)) && szB ((apS2 (cutC p0) 0)) && decide (((apD1 (cutC p0) 0)).length < 9223372036854775808) && decide (((apD2 (cutC p0) 0)).length < 9223372036854775808) then
  (bif decide (((stS ((apS1 (cutC p0) 0)) ((apD1 (cutC p0) 0)) ((apS2 (cutC p0) 0)) ((apD2 (cutC p0) 0)))).length < 9223372036854775808) && decide (((stD ((apS1 (cutC p0) 0)) ((apD1 (cutC p0) 0)) ((apS2 (cutC p0) 0)) ((apD2 (cutC p0) 0)))).length < 9223372036854775808) && decide (((stS ((apS1 (cutC p0) 0)) ((apD1 (cutC p0) 0)) ((apS2 (cutC p0) 0)) ((apD2 (cutC p0) 0)))).length < 9223372036854775808) && decide (((stD ((apS1 (cutC p0) 0)) ((apD1 (cutC p0) 0)) ((apS2 (cutC p0) 0)) ((apD2 (cutC p0) 0)))).length < 9223372036854775808) then
  (bif (!(decide (((stS ((apS1 (cutC p0) 0)) ((apD1 (cutC p0) 0)) ((apS2 (cutC p0) 0)) ((apD2 (cutC p0) 0)))) = ((stS ((apS1 (cutC p0) 0)) ((apD1 (cutC p0) 0)) ((apS2 (cutC p0) 0)) ((apD2 (cutC p0) 0))))) && decide (((stD ((apS1 (cutC p0) 0)) ((apD1 (cutC p0) 0)) ((apS2 (cutC p0) 0)) ((apD2 (cutC p0) 0)))) = ((stD ((apS1 (cutC p0) 0)) ((apD1 (cutC p0) 0)) ((apS2 (cutC p0) 0)) ((apD2 (cutC p0) 0))))))) then
  (bif decide (((stS ((apS1 (cutC p0) 0)) ((apD1 (cutC p0) 0)) ((apS2 (cutC p0) 0)) ((apD2 (cutC p0) 0)))).length < 9223372036854775808) && decide (((stD ((apS1 (cutC p0) 0)) ((apD1 (cutC p0) 0)) ((apS2 (cutC p0) 0)) ((apD2 (cutC p0) 0)))).length < 9223372036854775808) && decide (((stS ((apS1 (cutC p0) 0)) ((apD1 (cutC p0) 0)) ((apS2 (cutC p0) 0)) ((apD2 (cutC p0) 0)))).length < 9223372036854775808) && decide (((stD ((apS1 (cutC p0) 0)) ((apD1 (cutC p0) 0)) ((apS2 (cutC p0) 0)) ((apD2 (cutC p0) 0)))).length < 9223372036854775808) then
  (bif (decide (((stS ((apS1 (cutC p0) 0)) ((apD1 (cutC p0) 0)) ((apS2 (cutC p0) 0)) ((apD2 (cutC p0) 0)))) = ((stS ((apS1 (cutC p0) 0)) ((apD1 (cutC p0) 0)) ((apS2 (cutC p0) 0)) ((apD2 (cutC p0) 0))))) && decide (((stD ((apS1 (cutC p0) 0)) ((apD1 (cutC p0) 0)) ((apS2 (cutC p0) 0)) ((apD2 (cutC p0) 0)))) = ((stD ((apS1 (cutC p0) 0)) ((apD1 (cutC p0) 0)) ((apS2 (cutC p0) 0)) ((apD2 (cutC p0) 0)))))) then
  some ([.one ((.bool ((stB ((apS1 (cutC p0) 0)) ((apD1 (cutC p0) 0)) ((apS2 (cutC p0) 0)) ((apD2 (cutC p0) 0))) == (stB ((apS1 (cutC p0) 0)) ((apD1 (cutC p0) 0)) ((apS2 (cutC p0) 0)) ((apD2 (cutC p0) 0))))), false)], [])
  else
  some ([.one ((.bool false), false)], []))
  else
  none)
  else
  (bif (!((stB ((apS1 (cutC p0) 0)) ((apD1 (cutC p0) 0)) ((apS2 (cutC p0) 0)) ((apD2 (cutC p0) 0))) == (stB ((apS1 (cutC p0) 0)) ((apD1 (cutC p0) 0)) ((apS2 (cutC p0) 0)) ((apD2 (cutC p0) 0))))) then
  (bif decide (((stS ((apS1 (cutC p0) 0)) ((apD1 (cutC p0) 0)) ((apS2 (cutC p0) 0)) ((apD2 (cutC p0) 0)))).length < 9223372036854775808) && decide (((stD ((apS1 (cutC p0) 0)) ((apD1 (cutC p0) 0)) ((apS2 (cutC p0) 0)) ((apD2 (cutC p0) 0)))).length < 9223372036854775808) && decide (((stS ((apS1 (cutC p0) 0)) ((apD1 (cutC p0) 0)) ((apS2 (cutC p0) 0)) ((apD2 (cutC p0) 0)))).length < 9223372036854775808) && decide (((stD ((apS1 (cutC p0) 0)) ((apD1 (cutC p0) 0)) ((apS2 (cutC p0) 0)) ((apD2 (cutC p0) 0)))).length < 9223372036854775808) then
  (bif (decide (((stS ((apS1 (cutC p0) 0)) ((apD1 (cutC p0) 0)) ((apS2 (cutC p0) 0)) ((apD2 (cutC p0) 0)))) = ((stS ((apS1 (cutC p0) 0)) ((apD1 (cutC p0) 0)) ((apS2 (cutC p0) 0)) ((apD2 (cutC p0) 0))))) && decide (((stD ((apS1 (cutC p0) 0)) ((apD1 (cutC p0) 0)) ((apS2 (cutC p0) 0)) ((apD2 (cutC p0) 0)))) = ((stD ((apS1 (cutC p0) 0)) ((apD1 (cutC p0) 0)) ((apS2 (cutC p0) 0)) ((apD2 (cutC p0) 0)))))) then
  some ([.one ((.bool ((stB ((apS1 (cutC p0) 0)) ((apD1 (cutC p0) 0)) ((apS2 (cutC p0) 0)) ((apD2 (cutC p0) 0))) == (stB ((apS1 (cutC p0) 0)) ((apD1 (cutC p0) 0)) ((apS2 (cutC p0) 0)) ((apD2 (cutC p0) 0))))), false)], [])
  else
  some ([.one ((.bool false), false)], []))
  else
  none)
  else
  (bif (!(stB ((apS1 (cutC p0) 0)) ((apD1 (cutC p0) 0)) ((apS2 (cutC p0) 0)) ((apD2 (cutC p0) 0)))) then
  (bif decide (((stS ((apS1 (cutC p0) 0)) ((apD1 (cutC p0) 0)) ((apS2 (cutC p0) 0)) ((apD2 (cutC p0) 0)))).length < 9223372036854775808) && decide (((stD ((apS1 (cutC p0) 0)) ((apD1 (cutC p0) 0)) ((apS2 (cutC p0) 0)) ((apD2 (cutC p0) 0)))).length < 9223372036854775808) && decide (((stS ((apS1 (cutC p0) 0)) ((apD1 (cutC p0) 0)) ((apS2 (cutC p0) 0)) ((apD2 (cutC p0) 0)))).length < 9223372036854775808) && decide (((stD ((apS1 (cutC p0) 0)) ((apD1 (cutC p0) 0)) ((apS2 (cutC p0) 0)) ((apD2 (cutC p0) 0)))).length < 9223372036854775808) then
  (bif (decide (((stS ((apS1 (cutC p0) 0)) ((apD1 (cutC p0) 0)) ((apS2 (cutC p0) 0)) ((apD2 (cutC p0) 0)))) = ((stS ((apS1 (cutC p0) 0)) ((apD1 (cutC p0) 0)) ((apS2 (cutC p0) 0)) ((apD2 (cutC p0) 0))))) && decide (((stD ((apS1 (cutC p0) 0)) ((apD1 (cutC p0) 0)) ((apS2 (cutC p0) 0)) ((apD2 (cutC p0) 0)))) = ((stD ((apS1 (cutC p0) 0)) ((apD1 (cutC p0) 0)) ((apS2 (cutC p0) 0)) ((apD2 (cutC p0) 0)))))) then
  some ([.one ((.bool ((stB ((apS1 (cutC p0) 0)) ((apD1 (cutC p0) 0)) ((apS2 (cutC p0) 0)) ((apD2 (cutC p0) 0))) == (stB ((apS1 (cutC p0) 0)) ((apD1 (cutC p0) 0)) ((apS2 (cutC p0) 0)) ((apD2 (cutC p0) 0))))), false)], [])
  else
  some ([.one ((.bool false), false)], []))
  else
  none)
  else
  (bif decide (((apS1 (cutC p0) 0)).length < 9223372036854775808) && decide (((apD1 (cutC p0) 0)).length < 9223372036854775808) then
  (bif decide (((apS2 (cutC p0) 0)).length < 9223372036854775808) && decide (((apD2 (cutC p0) 0)).length < 9223372036854775808) then
  (bif decide (((ravS ((apS1 (cutC p0) 0)) ((apD1 (cutC p0) 0)))).length < 9223372036854775808) && decide (((ravD ((apS1 (cutC p0) 0)) ((apD1 (cutC p0) 0)))).length < 9223372036854775808) && decide (((ravS ((apS2 (cutC p0) 0)) ((apD2 (cutC p0) 0)))).length < 9223372036854775808) && decide (((ravD ((apS2 (cutC p0) 0)) ((apD2 (cutC p0) 0)))).length < 9223372036854775808) then
  (bif (joB ((ravS ((apS1 (cutC p0) 0)) ((apD1 (cutC p0) 0)))) ((ravD ((apS1 (cutC p0) 0)) ((apD1 (cutC p0) 0)))) ((ravS ((apS2 (cutC p0) 0)) ((apD2 (cutC p0) 0)))) ((ravD ((apS2 (cutC p0) 0)) ((apD2 (cutC p0) 0)))) 0) then
  (bif decide (((stS ((apS1 (cutC p0) 0)) ((apD1 (cutC p0) 0)) ((apS2 (cutC p0) 0)) ((apD2 (cutC p0) 0)))).length < 9223372036854775808) && decide (((stD ((apS1 (cutC p0) 0)) ((apD1 (cutC p0) 0)) ((apS2 (cutC p0) 0)) ((apD2 (cutC p0) 0)))).length < 9223372036854775808) then
  (bif decide (((joS ((ravS ((apS1 (cutC p0) 0)) ((apD1 (cutC p0) 0)))) ((ravD ((apS1 (cutC p0) 0)) ((apD1 (cutC p0) 0)))) ((ravS ((apS2 (cutC p0) 0)) ((apD2 (cutC p0) 0)))) ((ravD ((apS2 (cutC p0) 0)) ((apD2 (cutC p0) 0)))) 0)).length < 9223372036854775808) && decide (((joD ((ravS ((apS1 (cutC p0) 0)) ((apD1 (cutC p0) 0)))) ((ravD ((apS1 (cutC p0) 0)) ((apD1 (cutC p0) 0)))) ((ravS ((apS2 (cutC p0) 0)) ((apD2 (cutC p0) 0)))) ((ravD ((apS2 (cutC p0) 0)) ((apD2 (cutC p0) 0)))) 0)).length < 9223372036854775808) && decide (((ravS ((stS ((apS1 (cutC p0) 0)) ((apD1 (cutC p0) 0)) ((apS2 (cutC p0) 0)) ((apD2 (cutC p0) 0)))) ((stD ((apS1 (cutC p0) 0)) ((apD1 (cutC p0) 0)) ((apS2 (cutC p0) 0)) ((apD2 (cutC p0) 0)))))).length < 9223372036854775808) && decide (((ravD ((stS ((apS1 (cutC p0) 0)) ((apD1 (cutC p0) 0)) ((apS2 (cutC p0) 0)) ((apD2 (cutC p0) 0)))) ((stD ((apS1 (cutC p0) 0)) ((apD1 (cutC p0) 0)) ((apS2 (cutC p0) 0)) ((apD2 (cutC p0) 0)))))).length < 9223372036854775808) then
  some ([.one ((.bool (decide (((joS ((ravS ((apS1 (cutC p0) 0)) ((apD1 (cutC p0) 0)))) ((ravD ((apS1 (cutC p0) 0)) ((apD1 (cutC p0) 0)))) ((ravS ((apS2 (cutC p0) 0)) ((apD2 (cutC p0) 0)))) ((ravD ((apS2 (cutC p0) 0)) ((apD2 (cutC p0) 0)))) 0)) = ((ravS ((stS ((apS1 (cutC p0) 0)) ((apD1 (cutC p0) 0)) ((apS2 (cutC p0) 0)) ((apD2 (cutC p0) 0)))) ((stD ((apS1 (cutC p0) 0)) ((apD1 (cutC p0) 0)) ((apS2 (cutC p0) 0)) ((apD2 (cutC p0) 0))))))) && decide (((joD ((ravS ((apS1 (cutC p0) 0)) ((apD1 (cutC p0) 0)))) ((ravD ((apS1 (cutC p0) 0)) ((apD1 (cutC p0) 0)))) ((ravS ((apS2 (cutC p0) 0)) ((apD2 (cutC p0) 0)))) ((ravD ((apS2 (cutC p0) 0)) ((apD2 (cutC p0) 0)))) 0)) = ((ravD ((stS ((apS1 (cutC p0) 0)) ((apD1 (cutC p0) 0)) ((apS2 (cutC p0) 0)) ((apD2 (cutC p0) 0)))) ((stD ((apS1 (cutC p0) 0)) ((apD1 (cutC p0) 0)) ((apS2 (cutC p0) 0)) ((apD2 (cutC p0) 0))))))))), false)], [])
  else
  none)
  else
  none)
  else
  some ([.one ((.bool false), false)], []))
  else
  none)
  else
  none)
  else
  none))))
  else
  none)
  else
  none)
  else
  none)
  else
  none)) := by kernel_rfl
end laws_FnStackArraysRavel
theorem laws_FnStackArraysRavel.ok_of (hX : ∀ E ∈ laws_FnStackArraysRavel.X, CallSpec Try.prog E) (h : ∀ (bs : List Int), (bytesB bs) = true → ∃ fuel, runF Try.prog laws_FnStackArraysRavel.X laws_FnStackArraysRavel.I 0 fuel 6 Try.f6 [.d (.ints .u8 bs)] = some ([.one ((.bool true), false)], [])) : CallSpec Try.prog laws_FnStackArraysRavel.E :=
  callSpec_of (d := 0) hX (by kernel_rfl) laws_FnStackArraysRavel.I_ok (by kernel_rfl) (by kernel_rfl) (by kernel_rfl) (fun _ _ _ _ h => by dsimp only [laws_FnStackArraysRavel.E] at h; cases h) (fun xs hp => by
    dsimp only [laws_FnStackArraysRavel.E] at hp ⊢
    split at hp
    · exact h _ hp
    · cases hp)
theorem laws_FnStackArraysRavel.ok : CallSpec Try.prog laws_FnStackArraysRavel.E := laws_FnStackArraysRavel.ok_of (by simp [laws_FnStackArraysRavel.X, spec_DrawStackArrays.ok, impl_StackArrays.ok, spec_StackArrays.ok, laws_equalArray.ok, impl_Ravel.ok, impl_JoinAxis.ok]) fun bs h => by
  obtain ⟨F, hF⟩ : ∃ F : Nat, 4000 < F := ⟨4001, by omega⟩
  refine ⟨F, ?_⟩
  rw [laws_FnStackArraysRavel.e]
  by_cases hl : ((bs.length : Nat) : Int) > 1048576
  · rw [decide_eq_true hl]; rfl
  rw [decide_eq_false hl, cond_false, h, cond_true]
  have r0 := cut_ok h (p := 0) (by omega) (by omega)
  obtain ⟨a1, a2, b1, b2, _, _⟩ := ap_bd r0 (by omega)
  obtain ⟨sa, hsa⟩ : ∃ x, apS1 (cutC bs) 0 = x := ⟨_, rfl⟩
  obtain ⟨da, hda⟩ : ∃ x, apD1 (cutC bs) 0 = x := ⟨_, rfl⟩
  obtain ⟨sb, hsb⟩ : ∃ x, apS2 (cutC bs) 0 = x := ⟨_, rfl⟩
  obtain ⟨db, hdb⟩ : ∃ x, apD2 (cutC bs) 0 = x := ⟨_, rfl⟩
  rw [hsa] at a1
  rw [hda] at a2
  rw [hsb] at b1
  rw [hdb] at b2
  have g1 := lt_of (xs := sa) (by omega)
  have g2 := lt_of (xs := da) (by omega)
  have g3 := lt_of (xs := sb) (by omega)
  have g4 := lt_of (xs := db) (by omega)
  have y1 := szB_of (xs := sa) (by omega)
  have y2 := szB_of (xs := sb) (by omega)
  simp only [hsa, hda, hsb, hdb]
  cases hb : stB sa da sb db with
  | false =>
    have e0 : stS sa da sb db = [] := by simp only [stS, hb, cond_false]
    have e1 : stD sa da sb db = [] := by simp only [stD, hb, cond_false]
    have g0 : decide (([] : List Int).length < 9223372036854775808) = true := rfl
    simp only [Bool.and_self, Bool.and_true, Bool.true_and, cond_true, cond_false, Bool.not_true, Bool.not_false, bne_self_eq_false, beq_self_eq_true, decide_true, eq_self, g1, g2, g3, g4, y1, y2, e0, e1, g0]
  | true =>
    have f := st_f hb
    have e0 := f.s
    have e1 := f.d
    have la := f.la
    have lb := f.lb
    have jl := validA_len f.val
    have g5 := lt_of (xs := 2 :: sa) (by omega)
    have g6 := lt_of (xs := da ++ db) (by omega)
    have v1 := vecOk_of f.va
    have v2 := vecOk_of f.vb
    have hlen : da.length + db.length ≤ 60 := by
      have := jl.2
      rw [List.length_append] at this
      exact this
    obtain ⟨j0, j1, j2⟩ := jo_vec v1 v2 hlen
    have r1 : ravS sa da = [((da.length : Nat) : Int)] := by simp only [ravS, f.va, cond_true]
    have r2 : ravD sa da = da := by simp only [ravD, f.va, cond_true]
    have r3 : ravS sb db = [((db.length : Nat) : Int)] := by simp only [ravS, f.vb, cond_true]
    have r4 : ravD sb db = db := by simp only [ravD, f.vb, cond_true]
    have r5 : ravS (2 :: sa) (da ++ db) = [(((da ++ db).length : Nat) : Int)] := by simp only [ravS, f.val, cond_true]
    have r6 : ravD (2 :: sa) (da ++ db) = da ++ db := by simp only [ravD, f.val, cond_true]
    have q1 : ∀ n : Nat, decide (([(n : Int)] : List Int).length < 9223372036854775808) = true := fun n => rfl
    simp only [Bool.and_self, Bool.and_true, Bool.true_and, cond_true, cond_false, Bool.not_true, Bool.not_false, bne_self_eq_false, beq_self_eq_true, decide_true, eq_self, g1, g2, g3, g4, g5, g6, y1, y2, e0, e1, r1, r2, r3, r4, r5, r6, j0, j1, j2, q1]

namespace laws_FnJoinAxisThree
noncomputable def E : Entry := ⟨7, true, false, fun | [.d (.ints .u8 bs)] => bytesB bs | _ => false, fun | [.d (.ints .u8 bs)] => ([.one ((.bool true), false)], []) | _ => ([], []), fun _ => [], false, fun _ => none⟩
end laws_FnJoinAxisThree
namespace laws_FnJoinAxisThree
noncomputable def X : List Entry := [spec_DrawJoinAxis.E, impl_JoinAxis.E, spec_JoinAxis.E, laws_equalArray.E]
noncomputable def I : List Inl := [⟨7, Try.f7, ⟨[21, 29, 36, 64, 71, 78], [], [], [], [], []⟩⟩]
theorem I_ok : ∀ i ∈ I, Try.prog.funcs[i.f]? = some i.fn ∧ (i.fn.name == "runtime.NumGoroutine") = false := by
  intro i hi
  simp only [I, List.mem_cons, List.not_mem_nil, or_false] at hi
  subst hi
  exact ⟨by kernel_rfl, by kernel_rfl⟩
theorem e (fuel : Nat) (p0 : List Int) : runF Try.prog X I 0 fuel 7 Try.f7 [.d (.ints .u8 p0)] =
  (bif (decide ((((p0.length : Nat) : Int) : Int) > 1048576)) then
  some ([.one ((.bool true), false)], [])
  else
  (bif bytesB p0 then
  (bif decide (((aArS (cutC p0) 0)).length < 9223372036854775808) && decide (((aArD (cutC p0) 0)).length < 9223372036854775808) && decide (((djS (cutC p0))).length < 9223372036854775808) && decide (((djD (cutC p0))).length < 9223372036854775808) then
  (bif decide (((aArS (cutC p0) 0)).length < 9223372036854775808) && decide (((aArD (cutC p0) 0)).length < 9223372036854775808) && decide (((djS (cutC p0))).length < 9223372036854775808) && decide (((djD (cutC p0))).length < 9223372036854775808) then
  (bif decide (((joS ((aArS (cutC p0) 0)) ((aArD (cutC p0) 0)) ((djS (cutC p0))) ((djD (cutC p0))) ((djK (cutC p0))))).length < 9223372036854775808) && decide (((joD ((aArS (cutC p0) 0)) ((aArD (cutC p0) 0)) ((djS (cutC p0))) ((djD (cutC p0))) ((djK (cutC p0))))).length < 9223372036854775808) && decide (((joS ((aArS (cutC p0) 0)) ((aArD (cutC p0) 0)) ((djS (cutC p0))) ((djD (cutC p0))) ((djK (cutC p0))))).length < 9223372036854775808) && decide (((joD ((aArS (cutC p0) 0)) ((aArD (cutC p0) 0)) ((djS (cutC p0))) ((djD (cutC p0))) ((djK (cutC p0))))).length < 9223372036854775808) then
  (bif (!(decide (((joS ((aArS (cutC p0) 0)) ((aArD (cutC p0) 0)) ((djS (cutC p0))) ((djD (cutC p0))) ((djK (cutC p0))))) = ((joS ((aArS (cutC p0) 0)) ((aArD (cutC p0) 0)) ((djS (cutC p0))) ((djD (cutC p0))) ((djK (cutC p0)))))) && decide (((joD ((aArS (cutC p0) 0)) ((aArD (cutC p0) 0)) ((djS (cutC p0))) ((djD (cutC p0))) ((djK (cutC p0))))) = ((joD ((aArS (cutC p0) 0)) ((aArD (cutC p0) 0)) ((djS (cutC p0))) ((djD (cutC p0))) ((djK (cutC p0)))))))) then
  (bif decide (((joS ((aArS (cutC p0) 0)) ((aArD (cutC p0) 0)) ((djS (cutC p0))) ((djD (cutC p0))) ((djK (cutC p0))))).length < 9223372036854775808) && decide (((joD ((aArS (cutC p0) 0)) ((aArD (cutC p0) 0)) ((djS (cutC p0))) ((djD (cutC p0))) ((djK (cutC p0))))).length < 9223372036854775808) && decide (((joS ((aArS (cutC p0) 0)) ((aArD (cutC p0) 0)) ((djS (cutC p0))) ((djD (cutC p0))) ((djK (cutC p0))))).length < 9223372036854775808) && decide (((joD ((aArS (cutC p0) 0)) ((aArD (cutC p0) 0)) ((djS (cutC p0))) ((djD (cutC p0))) ((djK (cutC p0))))).length < 9223372036854775808) then
  (bif (decide (((joS ((aArS (cutC p0) 0)) ((aArD (cutC p0) 0)) ((djS (cutC p0))) ((djD (cutC p0))) ((djK (cutC p0))))) = ((joS ((aArS (cutC p0) 0)) ((aArD (cutC p0) 0)) ((djS (cutC p0))) ((djD (cutC p0))) ((djK (cutC p0)))))) && decide (((joD ((aArS (cutC p0) 0)) ((aArD (cutC p0) 0)) ((djS (cutC p0))) ((djD (cutC p0))) ((djK (cutC p0))))) = ((joD ((aArS (cutC p0) 0)) ((aArD (cutC p0) 0)) ((djS (cutC p0))) ((djD (cutC p0))) ((djK (cutC p0))))))) then
  some ([.one ((.bool ((joB ((aArS (cutC p0) 0)) ((aArD (cutC p0) 0)) ((djS (cutC p0))) ((djD (cutC p0))) ((djK (cutC p0)))) == (joB ((aArS (cutC p0) 0)) ((aArD (cutC p0) 0)) ((djS (cutC p0))) ((djD (cutC p0))) ((djK (cutC p0)))))), false)], [])
  else
  some ([.one ((.bool false), false)], []))
  else
  none)
  else
  (bif (!((joB ((aArS (cutC p0) 0)) ((aArD (cutC p0) 0)) ((djS (cutC p0))) ((djD (cutC p0))) ((djK (cutC p0)))) == (joB ((aArS (cutC p0) 0)) ((aArD (cutC p0) 0)) ((djS (cutC p0))) ((djD (cutC p0))) ((djK (cutC p0)))))) then
  (bif decide (((joS ((aArS (cutC p0) 0)) ((aArD (cutC p0) 0)) ((djS (cutC p0))) ((djD (cutC p0))) ((djK (cutC p0))))).length < 9223372036854775808) && decide (((joD ((aArS (cutC p0) 0)) ((aArD (cutC p0) 0)) ((djS (cutC p0))) ((djD (cutC p0))) ((djK (cutC p0))))).length < 9223372036854775808) && decide (((joS ((aArS (cutC p0) 0)) ((aArD (cutC p0) 0)) ((djS (cutC p0))) ((djD (cutC p0))) ((djK (cutC p0))))).length < 9223372036854775808) && decide (((joD ((aArS (cutC p0) 0)) ((aArD (cutC p0) 0)) ((djS (cutC p0))) ((djD (cutC p0))) ((djK (cutC p0))))).length < 9223372036854775808) then
  (bif (decide (((joS ((aArS (cutC p0) 0)) ((aArD (cutC p0) 0)) ((djS (cutC p0))) ((djD (cutC p0))) ((djK (cutC p0))))) = ((joS ((aArS (cutC p0) 0)) ((aArD (cutC p0) 0)) ((djS (cutC p0))) ((djD (cutC p0))) ((djK (cutC p0)))))) && decide (((joD ((aArS (cutC p0) 0)) ((aArD (cutC p0) 0)) ((djS (cutC p0))) ((djD (cutC p0))) ((djK (cutC p0))))) = ((joD ((aArS (cutC p0) 0)) ((aArD (cutC p0) 0)) ((djS (cutC p0))) ((djD (cutC p0))) ((djK (cutC p0))))))) then
  some ([.one ((.bool ((joB ((aArS (cutC p0) 0)) ((aArD (cutC p0) 0)) ((djS (cutC p0))) ((djD (cutC p0))) ((djK (cutC p0)))) == (joB ((aArS (cutC p0) 0)) ((aArD (cutC p0) 0)) ((djS (cutC p0))) ((djD (cutC p0))) ((djK (cutC p0)))))), false)], [])
  else
  some ([.one ((.bool false), false)], []))
  else
  none)
  else
  (bif (!(joB ((aArS (cutC p0) 0)) ((aArD (cutC p0) 0)) ((djS (cutC p0))) ((djD (cutC p0))) ((djK (cutC p0))))) then
  (bif decide (((joS ((aArS (cutC p0) 0)) ((aArD (cutC p0) 0)) ((djS (cutC p0))) ((djD (cutC p0))) ((djK (cutC p0))))).length < 9223372036854775808) && decide (((joD ((aArS (cutC p0) 0)) ((aArD (cutC p0) 0)) ((djS (cutC p0))) ((djD (cutC p0))) ((djK (cutC p0))))).length < 9223372036854775808) && decide (((joS ((aArS (cutC p0) 0)) ((aArD (cutC p0) 0)) ((djS (cutC p0))) ((djD (cutC p0))) ((djK (cutC p0))))).length < 9223372036854775808) && decide (((joD ((aArS (cutC p0) 0)) ((aArD (cutC p0) 0)) ((djS (cutC p0))) ((djD (cutC p0))) ((djK (cutC p0))))).length < 9223372036854775808) then
  (bif (decide (((joS ((aArS (cutC p0) 0)) ((aArD (cutC p0) 0)) ((djS (cutC p0))) ((djD (cutC p0))) ((djK (cutC p0))))) = ((joS ((aArS (cutC p0) 0)) ((aArD (cutC p0) 0)) ((djS (cutC p0))) ((djD (cutC p0))) ((djK (cutC p0)))))) && decide (((joD ((aArS (cutC p0) 0)) ((aArD (cutC p0) 0)) ((djS (cutC p0))) ((djD (cutC p0))) ((djK (cutC p0))))) = ((joD ((aArS (cutC p0) 0)) ((aArD (cutC p0) 0)) ((djS (cutC p0))) ((djD (cutC p0))) ((djK (cutC p0))))))) then
  some ([.one ((.bool ((joB ((aArS (cutC p0) 0)) ((aArD (cutC p0) 0)) ((djS (cutC p0))) ((djD (cutC p0))) ((djK (cutC p0)))) == (joB ((aArS (cutC p0) 0)) ((aArD (cutC p0) 0)) ((djS (cutC p0))) ((djD (cutC p0))) ((djK (cutC p0)))))), false)], [])
  else
  some ([.one ((.bool false), false)], []))
  else
  none)
  else
  (bif decide (((joS ((aArS (cutC p0) 0)) ((aArD (cutC p0) 0)) ((djS (cutC p0))) ((djD (cutC p0))) ((djK (cutC p0))))).length < 9223372036854775808) && decide (((joD ((aArS (cutC p0) 0)) ((aArD (cutC p0) 0)) ((djS (cutC p0))) ((djD (cutC p0))) ((djK (cutC p0))))).length < 9223372036854775808) && decide (((aArS (cutC p0) 0)).length < 9223372036854775808) && decide (((aArD (cutC p0) 0)).length < 9223372036854775808) then
  (bif decide (((djS (cutC p0))).length < 9223372036854775808) && decide (((djD (cutC p0))).length < 9223372036854775808) && decide (((aArS (cutC p0) 0)).length < 9223372036854775808) && decide (((aArD (cutC p0) 0)).length < 9223372036854775808) then
  (bif decide (((aArS (cutC p0) 0)).length < 9223372036854775808) && decide (((aArD (cutC p0) 0)).length < 9223372036854775808) && decide (((joS ((djS (cutC p0))) ((djD (cutC p0))) ((aArS (cutC p0) 0)) ((aArD (cutC p0) 0)) ((djK (cutC p0))))).length < 9223372036854775808) && decide (((joD ((djS (cutC p0))) ((djD (cutC p0))) ((aArS (cutC p0) 0)) ((aArD (cutC p0) 0)) ((djK (cutC p0))))).length < 9223372036854775808) then
  (bif (joB ((djS (cutC p0))) ((djD (cutC p0))) ((aArS (cutC p0) 0)) ((aArD (cutC p0) 0)) ((djK (cutC p0)))) then
  (bif ((joB ((joS ((aArS (cutC p0) 0)) ((aArD (cutC p0) 0)) ((djS (cutC p0))) ((djD (cutC p0))) ((djK (cutC p0))))) ((joD ((aArS (cutC p0) 0)) ((aArD (cutC p0) 0)) ((djS (cutC p0))) ((djD (cutC p0))) ((djK (cutC p0))))) ((aArS (cutC p0) 0)) ((aArD (cutC p0) 0)) ((djK (cutC p0)))) == (joB ((aArS (cutC p0) 0)) ((aArD (cutC p0) 0)) ((joS ((djS (cutC p0))) ((djD (cutC p0))) ((aArS (cutC p0) 0)) ((aArD (cutC p0) 0)) ((djK (cutC p0))))) ((joD ((djS (cutC p0))) ((djD (cutC p0))) ((aArS (cutC p0) 0)) ((aArD (cutC p0) 0)) ((djK (cutC p0))))) ((djK (cutC p0))))) then
  (bif (!(joB ((joS ((aArS (cutC p0) 0)) ((aArD (cutC p0) 0)) ((djS (cutC p0))) ((djD (cutC p0))) ((djK (cutC p0))))) ((joD ((aArS (cutC p0) 0)) ((aArD (cutC p0) 0)) ((djS (cutC p0))) ((djD (cutC p0))) ((djK (cutC p0))))) ((aArS (cutC p0) 0)) ((aArD (cutC p0) 0)) ((djK (cutC p0))))) then
  some ([.one ((.bool true), false)], [])
  else
  (bif decide (((joS ((joS ((aArS (cutC p0) 0)) ((aArD (cutC p0) 0)) ((djS (cutC p0))) ((djD (cutC p0))) ((djK (cutC p0))))) ((joD ((aArS (cutC p0) 0)) ((aArD (cutC p0) 0)) ((djS (cutC p0))) ((djD (cutC p0))) ((djK (cutC p0))))) ((aArS (cutC p0) 0)) ((aArD (cutC p0) 0)) ((djK (cutC p0))))).length < 9223372036854775808) && decide (((joD ((joS ((aArS (cutC p0) 0)) ((aArD (cutC p0) 0)) ((djS (cutC p0))) ((djD (cutC p0))) ((djK (cutC p0))))) ((joD ((aArS (cutC p0) 0)) ((aArD (cutC p0) 0)) ((djS (cutC p0))) ((djD (cutC p0))) ((djK (cutC p0))))) ((aArS (cutC p0) 0)) ((aArD (cutC p0) 0)) ((djK (cutC p0))))).length < 9223372036854775808) && decide (((joS ((aArS (cutC p0) 0)) ((aArD (cutC p0) 0)) ((joS ((djS (cutC p0))) ((djD (cutC p0))) ((aArS (cutC p0) 0)) ((aArD (cutC p0) 0)) ((djK (cutC p0))))) ((joD ((djS (cutC p0))) ((djD (cutC p0))) ((aArS (cutC p0) 0)) ((aArD (cutC p0) 0)) ((djK (cutC p0))))) ((djK (cutC p0))))).length < 9223372036854775808) && decide (((joD ((aArS (cutC p0) 0)) ((aArD (cutC p0) 0)) ((joS ((djS (cutC p0))) ((djD (cutC p0))) ((aArS (cutC p0) 0)) ((aArD (cutC p0) 0)) ((djK (cutC p0))))) ((joD ((djS (cutC p0))) ((djD (cutC p0))) ((aArS (cutC p0) 0)) ((aArD (cutC p0) 0)) ((djK (cutC p0))))) ((djK (cutC p0))))).length < 9223372036854775808) then
  some ([.one ((.bool (decide (((joS ((joS ((aArS (cutC p0) 0)) ((aArD (cutC p0) 0)) ((djS (cutC p0))) ((djD (cutC p0))) ((djK (cutC p0))))) ((joD ((aArS (cutC p0) 0)) ((aArD (cutC p0) 0)) ((djS (cutC p0))) ((djD (cutC p0))) ((djK (cutC p0))))) ((aArS (cutC p0) 0)) ((aArD (cutC p0) 0)) ((djK (cutC p0))))) = ((joS ((aArS (cutC p0) 0)) ((aArD (cutC p0) 0)) ((joS ((djS (cutC p0))) ((djD (cutC p0))) ((aArS (cutC p0) 0)) ((aArD (cutC p0) 0)) ((djK (cutC p0))))) ((joD ((djS (cutC p0))) ((djD (cutC p0))) ((aArS (cutC p0) 0)) ((aArD (cutC p0) 0)) ((djK (cutC p0))))) ((djK (cutC p0)))))) && decide (((joD ((joS ((aArS (cutC p0) 0)) ((aArD (cutC p0) 0)) ((djS (cutC p0))) ((djD (cutC p0))) ((djK (cutC p0))))) ((joD ((aArS (cutC p0) 0)) ((aArD (cutC p0) 0)) ((djS (cutC p0))) ((djD (cutC p0))) ((djK (cutC p0))))) ((aArS (cutC p0) 0)) ((aArD (cutC p0) 0)) ((djK (cutC p0))))) = ((joD ((aArS (cutC p0) 0)) ((aArD (cutC p0) 0)) ((joS ((djS (cutC p0))) ((djD (cutC p0))) ((aArS (cutC p0) 0)) ((aArD (cutC p0) 0)) ((djK (cutC p0))))) ((joD ((djS (cutC p0))) ((djD (cutC p0))) ((aArS (cutC p0) 0)) ((aArD (cutC p0) 0)) ((djK (cutC p0))))) ((djK (cutC p0)))))))), false)], [])
  else
  none))
  else
  some ([.one ((.bool false), false)], []))
  else
  (bif ((joB ((joS ((aArS (cutC p0) 0)) ((aArD (cutC p0) 0)) ((djS (cutC p0))) ((djD (cutC p0))) ((djK (cutC p0))))) ((joD ((aArS (cutC p0) 0)) ((aArD (cutC p0) 0)) ((djS (cutC p0))) ((djD (cutC p0))) ((djK (cutC p0))))) ((aArS (cutC p0) 0)) ((aArD (cutC p0) 0)) ((djK (cutC p0)))) == false) then
  (bif (!(joB ((joS ((aArS (cutC p0) 0)) ((aArD (cutC p0) 0)) ((djS (cutC p0))) ((djD (cutC p0))) ((djK (cutC p0))))) ((joD ((aArS (cutC p0) 0)) ((aArD (cutC p0) 0)) ((djS (cutC p0))) ((djD (cutC p0))) ((djK (cutC p0))))) ((aArS (cutC p0) 0)) ((aArD (cutC p0) 0)) ((djK (cutC p0))))) then
  some ([.one ((.bool true), false)], [])
  else
  (bif decide (((joS ((joS ((aArS (cutC p0) 0)) ((aArD (cutC p0) 0)) ((djS (cutC p0))) ((djD (cutC p0))) ((djK (cutC p0))))) ((joD ((aArS (cutC p0) 0)) ((aArD (cutC p0) 0)) ((djS (cutC p0))) ((djD (cutC p0))) ((djK (cutC p0))))) ((aArS (cutC p0) 0)) ((aArD (cutC p0) 0)) ((djK (cutC p0))))).length < 9223372036854775808) && decide (((joD ((joS ((aArS (cutC p0) 0)) ((aArD (cutC p0) 0)) ((djS (cutC p0))) ((djD (cutC p0))) ((djK (cutC p0))))) ((joD ((aArS (cutC p0) 0)) ((aArD (cutC p0) 0)) ((djS (cutC p0))) ((djD (cutC p0))) ((djK (cutC p0))))) ((aArS (cutC p0) 0)) ((aArD (cutC p0) 0)) ((djK (cutC p0))))).length < 9223372036854775808) && decide (((joS ((aArS (cutC p0) 0)) ((aArD (cutC p0) 0)) ((joS ((djS (cutC p0))) ((djD (cutC p0))) ((aArS (cutC p0) 0)) ((aArD (cutC p0) 0)) ((djK (cutC p0))))) ((joD ((djS (cutC p0))) ((djD (cutC p0))) ((aArS (cutC p0) 0)) ((aArD (cutC p0) 0)) ((djK (cutC p0))))) ((djK (cutC p0))))).length < 9223372036854775808) && decide (((joD ((aArS (cutC p0) 0)) ((aArD (cutC p0) 0)) ((joS ((djS (cutC p0))) ((djD (cutC p0))) ((aArS (cutC p0) 0)) ((aArD (cutC p0) 0)) ((djK (cutC p0))))) ((joD ((djS (cutC p0))) ((djD (cutC p0))) ((aArS (cutC p0) 0)) ((aArD (cutC p0) 0)) ((djK (cutC p0))))) ((djK (cutC p0))))).length < 9223372036854775808) then
  some ([.one ((.bool (decide (((joS ((joS ((aArS (cutC p0) 0)) ((aArD (cutC p0) 0)) ((djS (cutC p0))) ((djD (cutC p0))) ((djK (cutC p0))))) ((joD ((aArS (cutC p0) 0)) ((aArD (cutC p0) 0)) ((djS (cutC p0))) ((djD (cutC p0))) ((djK (cutC p0))))) ((aArS (cutC p0) 0)) ((aArD (cutC p0) 0)) ((djK (cutC p0))))) = ((joS ((aArS (cutC p0) 0)) ((aArD (cutC p0) 0)) ((joS ((djS (cutC p0))) ((djD (cutC p0))) ((aArS (cutC p0) 0)) ((aArD (cutC p0) 0)) ((djK (cutC p0))))) ((joD ((djS (cutC p0))) ((djD (cutC p0))) ((aArS (cutC p0) 0)) ((aArD (cutC p0) 0)) ((djK (cutC p0))))) ((djK (cutC p0)))))) && decide (((joD ((joS ((aArS (cutC p0) 0)) ((aArD (cutC p0) 0)) ((djS (cutC p0))) ((djD (cutC p0))) ((djK (cutC p0))))) ((joD ((aArS (cutC p0) 0)) ((aArD (cutC p0) 0)) ((djS (cutC p0))) ((djD (cutC p0))) ((djK (cutC p0))))) ((aArS (cutC p0) 0)) ((aArD (cutC p0) 0)) ((djK (cutC p0))))) = ((joD ((aArS (cutC p0) 0)) ((aArD (cutC p0) 0)) ((joS ((djS (cutC p0))) ((djD (cutC p0))) ((aArS (cutC p0) 0)) ((aArD (cutC p0) 0)) ((djK (cutC p0))))) ((joD ((djS (cutC p0))) ((djD (cutC p0))) ((aArS (cutC p0) 0)) ((aArD (cutC p0) 0)) ((djK (cutC p0))))) ((djK (cutC p0)))))))), false)], [])
  else
  none))
  else
  some ([.one ((.bool false), false)], [])))
  else
  none)
  else
  none)
  else
  none))))
  else
  none)
  else
  none)
  else
  none)
  else
  none)) := by kernel_rfl
end laws_FnJoinAxisThree
theorem laws_FnJoinAxisThree.ok_of (hX : ∀ E ∈ laws_FnJoinAxisThree.X, CallSpec Try.prog E) (h : ∀ (bs : List Int), (bytesB bs) = true → ∃ fuel, runF Try.prog laws_FnJoinAxisThree.X laws_FnJoinAxisThree.I 0 fuel 7 Try.f7 [.d (.ints .u8 bs)] = some ([.one ((.bool true), false)], [])) : CallSpec Try.prog laws_FnJoinAxisThree.E :=
  callSpec_of (d := 0) hX (by kernel_rfl) laws_FnJoinAxisThree.I_ok (by kernel_rfl) (by kernel_rfl) (by kernel_rfl) (fun _ _ _ _ h => by dsimp only [laws_FnJoinAxisThree.E] at h; cases h) (fun xs hp => by
    dsimp only [laws_FnJoinAxisThree.E] at hp ⊢
    split at hp
    · exact h _ hp
    · cases hp)
theorem laws_FnJoinAxisThree.ok : CallSpec Try.prog laws_FnJoinAxisThree.E := laws_FnJoinAxisThree.ok_of (by simp [laws_FnJoinAxisThree.X, spec_DrawJoinAxis.ok, impl_JoinAxis.ok, spec_JoinAxis.ok, laws_equalArray.ok]) fun bs h => by
  obtain ⟨F, hF⟩ : ∃ F : Nat, 4000 < F := ⟨4001, by omega⟩
  refine ⟨F, ?_⟩
  rw [laws_FnJoinAxisThree.e]
  by_cases hl : ((bs.length : Nat) : Int) > 1048576
  · rw [decide_eq_true hl]; rfl
  rw [decide_eq_false hl, cond_false, h, cond_true]
  have r0 := cut_ok h (p := 0) (by omega) (by omega)
  obtain ⟨b1, b2, a1, a2, _, _⟩ := dj_bd r0
  obtain ⟨sa, hsa⟩ : ∃ x, aArS (cutC bs) 0 = x := ⟨_, rfl⟩
  obtain ⟨da, hda⟩ : ∃ x, aArD (cutC bs) 0 = x := ⟨_, rfl⟩
  obtain ⟨sb, hsb⟩ : ∃ x, djS (cutC bs) = x := ⟨_, rfl⟩
  obtain ⟨db, hdb⟩ : ∃ x, djD (cutC bs) = x := ⟨_, rfl⟩
  obtain ⟨k, hk⟩ : ∃ x, djK (cutC bs) = x := ⟨_, rfl⟩
  rw [hsa] at a1
  rw [hda] at a2
  rw [hsb] at b1
  rw [hdb] at b2
  have g1 := lt_of (xs := sa) (by omega)
  have g2 := lt_of (xs := da) (by omega)
  have g3 := lt_of (xs := sb) (by omega)
  have g4 := lt_of (xs := db) (by omega)
  simp only [hsa, hda, hsb, hdb, hk]
  cases hb : joB sa da sb db k with
  | false =>
    have e0 : joS sa da sb db k = [] := by simp only [joS, hb, cond_false]
    have e1 : joD sa da sb db k = [] := by simp only [joD, hb, cond_false]
    have g0 : decide (([] : List Int).length < 9223372036854775808) = true := rfl
    simp only [Bool.and_self, Bool.and_true, Bool.true_and, cond_true, cond_false, Bool.not_true, Bool.not_false, bne_self_eq_false, beq_self_eq_true, decide_true, eq_self, g1, g2, g3, g4, e0, e1, g0]
  | true =>
    obtain ⟨j, rfl, o⟩ := joB_inv hb
    have f := jo_f o
    have e0 : joS sa da sb db (j : Int) = joSh sa sb j := by simp only [joS, hb, cond_true, Int.toNat_natCast]
    have e1 : joD sa da sb db (j : Int) = joN sa da sb db j := by simp only [joD, hb, cond_true, Int.toNat_natCast]
    have jl := validA_len f.val
    have g5 := lt_of (xs := joSh sa sb j) (by omega)
    have g6 := lt_of (xs := joN sa da sb db j) (by omega)
    have hxS : axB (joSh sa sb j) (joN sa da sb db j) (j : Int) = true := axB_of f.val (by rw [f.len]; exact o.la)
    have hLs := (ax_of o.vs (k := j) (by rw [f.len]; exact o.la)).len_le
    rw [f.ln] at hLs
    have xa := axB_of o.va o.la
    have xb := axB_of o.vb o.lb
    have hset : sb.set j (sa.getD j 0) = sa := by
      rw [o.xa.len, o.sets, set_len o.xa]
    have hsetS : (joSh sa sb j).set j (sa.getD j 0) = sa := by rw [o.xa.len]; exact f.seta
    have hw1 : joSh (joSh sa sb j) sa j = sa.set j ((lenN sa j + lenN sb j + lenN sa j : Nat) : Int) := by
      have e : (joSh sa sb j).getD j 0 = ((lenN sa j + lenN sb j : Nat) : Int) := by rw [o.sh]; simp [o.la]
      unfold joSh at e ⊢
      rw [e, List.set_set, o.xa.len, ← Int.natCast_add]
    cases h1 : joB (joSh sa sb j) (joN sa da sb db j) sa da (j : Int) with
    | true =>
      obtain ⟨j3, hj3, o3⟩ := joB_inv h1
      obtain rfl : j = j3 := by omega
      have f3 := jo_f o3
      have hvs := o3.vs
      rw [hw1] at hvs
      have hyS : joSh sb sa j = sa.set j ((lenN sb j + lenN sa j : Nat) : Int) := by
        unfold joSh
        rw [o.xa.len, o.xb.len, o.sets, Int.natCast_add]
      have hvy : validS (joSh sb sa j) = true := by
        rw [hyS]
        have := valid_less (l := lenN sb j + lenN sa j) hvs (by rw [List.length_set]; exact o.la) (by rw [len_set o.la, Int.toNat_natCast]; omega)
        rwa [List.set_set] at this
      have h2 := joB_of xb xa hset hvy
      obtain ⟨j2, hj2, o2⟩ := joB_inv h2
      obtain rfl : j = j2 := by omega
      have f2 := jo_f o2
      have y0 : joS sb db sa da (j : Int) = joSh sb sa j := by simp only [joS, h2, cond_true, Int.toNat_natCast]
      have y1 : joD sb db sa da (j : Int) = joN sb db sa da j := by simp only [joD, h2, cond_true, Int.toNat_natCast]
      have xY : axB (joSh sb sa j) (joN sb db sa da j) (j : Int) = true := axB_of f2.val (by rw [f2.len]; exact o.lb)
      have hY : (joSh sb sa j).getD j 0 = ((lenN sb j + lenN sa j : Nat) : Int) := by rw [hyS]; simp [o.la]
      have hsY : sa.set j ((joSh sb sa j).getD j 0) = joSh sb sa j := by rw [hY, hyS]
      have hzS : joSh sa (joSh sb sa j) j = joSh (joSh sa sb j) sa j := by
        rw [hw1]
        show sa.set j (sa.getD j 0 + (joSh sb sa j).getD j 0) = _
        rw [hY, o.xa.len, ← Int.natCast_add, Nat.add_assoc]
      have h3 := joB_of xa xY hsY (by rw [hzS]; exact o3.vs)
      obtain ⟨j4, hj4, o4⟩ := joB_inv h3
      obtain rfl : j = j4 := by omega
      have f4 := jo_f o4
      have z0 : joS sa da (joSh sb sa j) (joN sb db sa da j) (j : Int) = joSh (joSh sa sb j) sa j := by simp only [joS, h3, cond_true, Int.toNat_natCast, hzS]
      have z1 : joD sa da (joSh sb sa j) (joN sb db sa da j) (j : Int) = joN sa da (joSh sb sa j) (joN sb db sa da j) j := by simp only [joD, h3, cond_true, Int.toNat_natCast]
      have x0 : joS (joSh sa sb j) (joN sa da sb db j) sa da (j : Int) = joSh (joSh sa sb j) sa j := by simp only [joS, h1, cond_true, Int.toNat_natCast]
      have x1 : joD (joSh sa sb j) (joN sa da sb db j) sa da (j : Int) = joN (joSh sa sb j) (joN sa da sb db j) sa da j := by simp only [joD, h1, cond_true, Int.toNat_natCast]
      have key : joN (joSh sa sb j) (joN sa da sb db j) sa da j = joN sa da (joSh sb sa j) (joN sb db sa da j) j := by
        have d3 := f3.data
        rw [f.bef, f.beh, f.ln] at d3
        have G3a := f3.geta
        have G3b := f3.getb
        rw [f.bef, f.beh, f.ln] at G3a G3b
        have G2a := f2.geta
        have G2b := f2.getb
        rw [o.bef, o.beh] at G2a G2b
        refine jo_ext o4 ?_ ?_ ?_
        · rw [d3, f2.ln, Nat.add_assoc]
        · intro b i m hb hi hm
          rw [f2.ln, ← Nat.add_assoc, G3a b i m hb (by omega) hm]
          exact f.geta b i m hb hi hm
        · intro b i m hb hi hm
          rw [f2.ln] at hi ⊢
          rw [show lenN sa j + (lenN sb j + lenN sa j) = lenN sa j + lenN sb j + lenN sa j by omega]
          by_cases c : i < lenN sb j
          · rw [G3a b (lenN sa j + i) m hb (by omega) hm, f.getb b i m hb c hm, G2a b i m hb c hm]
          · obtain ⟨q, rfl⟩ : ∃ q, i = lenN sb j + q := ⟨i - lenN sb j, by omega⟩
            rw [show lenN sa j + (lenN sb j + q) = lenN sa j + lenN sb j + q by omega, G3b b q m hb (by omega) hm, G2b b q m hb (by omega) hm]
      have lY := validA_len f2.val
      have l3 := validA_len f3.val
      have l4 := validA_len f4.val
      have g7 := lt_of (xs := joSh sb sa j) (by omega)
      have g8 := lt_of (xs := joN sb db sa da j) (by omega)
      have g9 := lt_of (xs := joSh (joSh sa sb j) sa j) (by omega)
      have g10 := lt_of (xs := joN sa da (joSh sb sa j) (joN sb db sa da j) j) (by omega)
      simp only [Bool.and_self, Bool.and_true, Bool.true_and, cond_true, cond_false, Bool.not_true, Bool.not_false, bne_self_eq_false, beq_self_eq_true, decide_true, eq_self, g1, g2, g3, g4, g5, g6, g7, g8, g9, g10, e0, e1, h1, h2, h3, y0, y1, z0, z1, x0, x1, key]
    | false =>
      have x0 : joS (joSh sa sb j) (joN sa da sb db j) sa da (j : Int) = [] := by simp only [joS, h1, cond_false]
      cases h2 : joB sb db sa da (j : Int) with
      | false =>
        have y0 : joS sb db sa da (j : Int) = [] := by simp only [joS, h2, cond_false]
        have y1 : joD sb db sa da (j : Int) = [] := by simp only [joD, h2, cond_false]
        have g0 : decide (([] : List Int).length < 9223372036854775808) = true := rfl
        simp only [Bool.and_self, Bool.and_true, Bool.true_and, cond_true, cond_false, Bool.not_true, Bool.not_false, bne_self_eq_false, beq_self_eq_true, decide_true, eq_self, g1, g2, g3, g4, g5, g6, g0, e0, e1, h1, h2, y0, y1]
      | true =>
        obtain ⟨j2, hj2, o2⟩ := joB_inv h2
        obtain rfl : j = j2 := by omega
        have f2 := jo_f o2
        have y0 : joS sb db sa da (j : Int) = joSh sb sa j := by simp only [joS, h2, cond_true, Int.toNat_natCast]
        have y1 : joD sb db sa da (j : Int) = joN sb db sa da j := by simp only [joD, h2, cond_true, Int.toNat_natCast]
        have lY := validA_len f2.val
        have g7 := lt_of (xs := joSh sb sa j) (by omega)
        have g8 := lt_of (xs := joN sb db sa da j) (by omega)
        have h3 : joB sa da (joSh sb sa j) (joN sb db sa da j) (j : Int) = false := by
          rw [Bool.eq_false_iff]
          intro h3
          obtain ⟨j4, hj4, o4⟩ := joB_inv h3
          obtain rfl : j = j4 := by omega
          have hvs := o4.vs
          have e4 := o4.sh
          rw [f2.ln] at e4
          have : joB (joSh sa sb j) (joN sa da sb db j) sa da (j : Int) = true := joB_of hxS xa hsetS (by
            rw [hw1, show lenN sa j + lenN sb j + lenN sa j = lenN sa j + (lenN sb j + lenN sa j) by omega, ← e4]
            exact hvs)
          rw [h1] at this
          cases this
        simp only [Bool.and_self, Bool.and_true, Bool.true_and, cond_true, cond_false, Bool.not_true, Bool.not_false, bne_self_eq_false, beq_self_eq_true, decide_true, eq_self, g1, g2, g3, g4, g5, g6, g7, g8, e0, e1, h1, h2, h3, y0, y1]

namespace spec_DrawTakeAxis
noncomputable def E : Entry := ⟨21, false, false, fun | [.d (.ints .u8 bs)] => bytesB bs | _ => false, fun | [.d (.ints .u8 bs)] => ([.agg [((.ints .i64 (aArS (cutC bs) 0)), false), ((.ints .i64 (aArD (cutC bs) 0)), false)], .one ((.int .i64 (dAx (cutC bs))), false), .one ((.int .i64 (oneV (cutC bs) (dAxP (cutC bs)) takL)), false)], []) | _ => ([], []), fun _ => [], true, fun _ => none⟩
end spec_DrawTakeAxis
namespace spec_DrawTakeAxis
noncomputable def X : List Entry := [spec_newReader.E, spec_anyArray.E, spec_anyAxis.E, spec_reader_one.E]
noncomputable def I : List Inl := [⟨21, Try.f21, ⟨[11], [], [(4, [6])], [], [15, 18], []⟩⟩]
theorem I_ok : ∀ i ∈ I, Try.prog.funcs[i.f]? = some i.fn ∧ (i.fn.name == "runtime.NumGoroutine") = false := by
  intro i hi
  simp only [I, List.mem_cons, List.not_mem_nil, or_false] at hi
  subst hi
  exact ⟨by kernel_rfl, by kernel_rfl⟩
theorem e (fuel : Nat) (p0 : List Int) : runF Try.prog X I 0 fuel 21 Try.f21 [.d (.ints .u8 p0)] =
  (bif rdOk ((cutC p0)) 0 && decide ((0 : Int) ≤ 1000000) then
  (bif rdOk (((cutC p0))) ((aArP ((cutC p0)) 0)) && decide ((((aArP ((cutC p0)) 0)) : Int) ≤ 2000000) && decide ((((aArS ((cutC p0)) 0)) : List Int).length ≤ 1000) then
  (bif rdOk ((((cutC p0)))) ((aAxP ((aArP ((cutC p0)) 0)) ((aArS ((cutC p0)) 0)))) && decide (0 < ((([1, 2, (-1), 0, 5, (-3), 61, (-61), 20] : List Int)) : List Int).length) && decide (((([1, 2, (-1), 0, 5, (-3), 61, (-61), 20] : List Int)) : List Int).length ≤ 1048576) then
  some ([.agg [((.ints .i64 (aArS ((cutC p0)) 0)), false), ((.ints .i64 (aArD ((cutC p0)) 0)), false)], .one ((.int .i64 (aAx (((cutC p0))) ((aArP ((cutC p0)) 0)) ((aArS ((cutC p0)) 0)))), false), .one ((.int .i64 (oneV ((((cutC p0)))) ((aAxP ((aArP ((cutC p0)) 0)) ((aArS ((cutC p0)) 0)))) (([1, 2, (-1), 0, 5, (-3), 61, (-61), 20] : List Int)))), false)], [])
  else
  none)
  else
  none)
  else
  none) := by kernel_rfl
end spec_DrawTakeAxis
theorem spec_DrawTakeAxis.ok_of (hX : ∀ E ∈ spec_DrawTakeAxis.X, CallSpec Try.prog E) (h : ∀ (bs : List Int), (bytesB bs) = true → ∃ fuel, runF Try.prog spec_DrawTakeAxis.X spec_DrawTakeAxis.I 0 fuel 21 Try.f21 [.d (.ints .u8 bs)] = some ([.agg [((.ints .i64 (aArS (cutC bs) 0)), false), ((.ints .i64 (aArD (cutC bs) 0)), false)], .one ((.int .i64 (dAx (cutC bs))), false), .one ((.int .i64 (oneV (cutC bs) (dAxP (cutC bs)) takL)), false)], [])) : CallSpec Try.prog spec_DrawTakeAxis.E :=
  callSpec_of (d := 0) hX (by kernel_rfl) spec_DrawTakeAxis.I_ok (by kernel_rfl) (by kernel_rfl) (by kernel_rfl) (fun _ _ _ _ h => by dsimp only [spec_DrawTakeAxis.E] at h; cases h) (fun xs hp => by
    dsimp only [spec_DrawTakeAxis.E] at hp ⊢
    split at hp
    · exact h _ hp
    · cases hp)
theorem spec_DrawTakeAxis.ok : CallSpec Try.prog spec_DrawTakeAxis.E := spec_DrawTakeAxis.ok_of (by simp [spec_DrawTakeAxis.X, spec_newReader.ok, spec_anyArray.ok, spec_anyAxis.ok, spec_reader_one.ok]) fun bs h => ⟨0, by
  have r0 := cut_ok h (p := 0) (by omega) (by omega)
  obtain ⟨a1, a2, a3, a4⟩ := aAr_bd r0 (by omega)
  have r1 := rd_le (q := aArP (cutC bs) 0) r0 (by omega) (by omega)
  have b := aAxP_bd (aArP (cutC bs) 0) (aArS (cutC bs) 0)
  have r2 := rd_le (q := aAxP (aArP (cutC bs) 0) (aArS (cutC bs) 0)) r0 (by omega) (by omega)
  rw [spec_DrawTakeAxis.e, r0, r1, r2, decide_eq_true (p := aArP (cutC bs) 0 ≤ 2000000) (by omega), decide_eq_true (p := (aArS (cutC bs) 0).length ≤ 1000) (by omega)]
  rfl⟩

namespace spec_toPlace
noncomputable def E : Entry := ⟨53, true, false, fun | [.d (.int .i64 i), .d (.int .i64 l)] => true | _ => false, fun | [.d (.int .i64 i), .d (.int .i64 l)] => ([.one ((.int .i64 (toPl i l)), false)], []) | _ => ([], []), fun _ => [], false, fun _ => none⟩
end spec_toPlace
namespace spec_toPlace
noncomputable def X : List Entry := [spec_inRange.E]
noncomputable def I : List Inl := [⟨53, Try.f53, ⟨[], [], [], [], [], []⟩⟩]
theorem I_ok : ∀ i ∈ I, Try.prog.funcs[i.f]? = some i.fn ∧ (i.fn.name == "runtime.NumGoroutine") = false := by
  intro i hi
  simp only [I, List.mem_cons, List.not_mem_nil, or_false] at hi
  subst hi
  exact ⟨by kernel_rfl, by kernel_rfl⟩
theorem e (fuel : Nat) (p0 : Int) (p1 : Int) : runF Try.prog X I 0 fuel 53 Try.f53 [.d (.int .i64 p0), .d (.int .i64 p1)] =
  (bif (!(decide (0 ≤ p0) && decide (p0 ≤ ((IntKind.wrap .i64 (p1 - 1)))))) then
  some ([.one ((.int .i64 (-1)), false)], [])
  else
  some ([.one ((.int .i64 p0), false)], [])) := by kernel_rfl
end spec_toPlace
theorem spec_toPlace.ok_of (hX : ∀ E ∈ spec_toPlace.X, CallSpec Try.prog E) (h : ∀ (i : Int) (l : Int), (true) = true → ∃ fuel, runF Try.prog spec_toPlace.X spec_toPlace.I 0 fuel 53 Try.f53 [.d (.int .i64 i), .d (.int .i64 l)] = some ([.one ((.int .i64 (toPl i l)), false)], [])) : CallSpec Try.prog spec_toPlace.E :=
  callSpec_of (d := 0) hX (by kernel_rfl) spec_toPlace.I_ok (by kernel_rfl) (by kernel_rfl) (by kernel_rfl) (fun _ _ _ _ h => by dsimp only [spec_toPlace.E] at h; cases h) (fun xs hp => by
    dsimp only [spec_toPlace.E] at hp ⊢
    split at hp
    · exact h _ _ hp
    · cases hp)
theorem spec_toPlace.ok : CallSpec Try.prog spec_toPlace.E := spec_toPlace.ok_of (by simp [spec_toPlace.X, spec_inRange.ok]) fun i l _ => ⟨0, by
  rw [spec_toPlace.e]
  unfold toPl
  cases decide (0 ≤ i) && decide (i ≤ IntKind.wrap .i64 (l - 1)) <;> rfl⟩

namespace spec_along
noncomputable def E : Entry := ⟨54, false, false, fun | [.d (.agg [(.ints .i64 sh), (.ints .i64 da)]), .d (.int .i64 k), .d (.ints .i64 ls)] => axB sh da k && alP sh k ls | _ => false, fun | [.d (.agg [(.ints .i64 sh), (.ints .i64 da)]), .d (.int .i64 k), .d (.ints .i64 ls)] => ([.agg [((.ints .i64 (alS sh k ls)), true), ((.ints .i64 (alA sh da k ls)), true)]], []) | _ => ([], []), fun _ => [], true, fun _ => none⟩
end spec_along
namespace spec_along
noncomputable def X : List Entry := [spec_copyInts.E, spec_around.E, spec_make1.E]
noncomputable def I : List Inl := [⟨54, Try.f54, ⟨[17, 78], [(1000006, [0, 4, 5, 12, 13, 14, 15, 16, 17, 18, 19, 20, 21, 22, 23, 24, 25, 26, 27, 28, 29, 30, 31, 32, 33, 34, 35, 36, 37, 38, 39, 40, 41, 42, 43, 44, 45, 46, 47, 48, 49, 50, 51, 52, 53, 54, 55, 56, 57, 58, 59, 60, 61, 62, 63, 64, 65, 66, 67, 68, 69, 70, 71, 72, 73, 74, 75, 76, 77, 78]), (1000009, [0, 4, 5, 13, 14, 15, 16, 17, 18, 19, 20, 21, 22, 23, 24, 25, 26, 27, 28, 29, 30, 31, 32, 33, 34, 35, 36, 37, 38, 39, 40, 41, 42, 43, 44, 45, 46, 47, 48, 49, 50, 51, 52, 53, 54, 55, 56, 57, 58, 59, 60, 61, 62, 63, 64, 65, 66, 67, 68, 69, 70, 71, 72, 73, 74, 75, 76, 77, 78]), (1000012, [0, 4, 5, 14, 15, 16, 17, 18, 19, 20, 21, 22, 23, 24, 25, 26, 27, 28, 29, 30, 31, 32, 33, 34, 35, 36, 37, 38, 39, 40, 41, 42, 43, 44, 45, 46, 47, 48, 49, 50, 51, 52, 53, 54, 55, 56, 57, 58, 59, 60, 61, 62, 63, 64, 65, 66, 67, 68, 69, 70, 71, 72, 73, 74, 75, 76, 77, 78])], [], [(16, [0, 2, 3, 5, 9, 10, 14, 16, 1, 4, 6, 7, 8, 11, 12, 13, 15, 17, 18, 19, 20])], [], []⟩⟩]
theorem I_ok : ∀ i ∈ I, Try.prog.funcs[i.f]? = some i.fn ∧ (i.fn.name == "runtime.NumGoroutine") = false := by
  intro i hi
  simp only [I, List.mem_cons, List.not_mem_nil, or_false] at hi
  subst hi
  exact ⟨by kernel_rfl, by kernel_rfl⟩
noncomputable abbrev L0 (fuel n : Nat) (s : St) (k : Kont) := lAt Try.prog X I fuel true 0 false 54 (bodyOf Try.f54) [1, 1, 1, 1, 1, 0, 1, 0] n s k
noncomputable abbrev k0  (fuel : Nat) : Kont := (kAt Try.prog X I fuel true 0 false 54 (bodyOf Try.f54) [1, 1, 1, 1, 1, 0, 1, 0] [] (endK Try.prog Try.f54))
noncomputable def t0 (p1 : Int) (p2 : List Int) (p0q0 : List Int) (p0q1 : List Int) (j1 : Nat) (x0q4 : Int) (x0q8 : List Int) : St := ⟨[.dead, (.imm (.int .i64 p1)), (.imm (.ints .i64 p2)), (.ptr 1000000000 0 0), .dead, .dead, (.ptr 1000000001 0 0), (.all 1000000002 1), (.imm (.int .i64 ((befN p0q0 p1.toNat : Nat) : Int))), (.imm (.int .i64 ((behN p0q0 p1.toNat : Nat) : Int))), (.all 1000000003 1), (.imm (.int .i64 x0q4)), .dead, .dead, .dead, .dead, .dead, .dead, .dead, .dead, .dead, .dead, .dead, .dead, .dead, .dead, .dead, .dead, .dead, .dead, .dead, .dead, .dead, .dead, .dead, .dead, .dead, .dead, .dead, .dead, .dead, .dead, .dead, .dead, .dead, .dead, .dead, .dead, .dead, .dead, .dead, .dead, .dead, .dead, .dead, .dead, .dead, .dead, .dead, .dead, .dead, .dead, .dead, .dead, .dead, .dead, .dead, .dead, .dead, .dead, .dead, .dead, .dead, .dead, .dead, .dead, .dead, .dead, .dead], hOf [(1000000000, (.box [(.imm (.ints .i64 p0q0)), (.imm (.ints .i64 p0q1))])), (1000000001, (.box [(.imm .nils), (.imm .nils)])), (1000000002, (.ints .i64 (p0q0.set j1 ((p2.length : Nat) : Int)))), (1000000003, (.ints .i64 x0q8))], [], []⟩
noncomputable abbrev L1 (fuel n : Nat) (s : St) (k : Kont) := lAt Try.prog X I fuel true 0 false 54 (bodyOf Try.f54) [1, 1, 1, 1, 1, 0, 1, 0, 0, 1, 0, 0, 1, 0] n s k
noncomputable abbrev k1 (n0 : Nat) (fuel : Nat) : Kont := (kAt Try.prog X I fuel true 0 false 54 (bodyOf Try.f54) [1, 1, 1, 1, 1, 0, 1, 0, 0, 1, 0, 0, 1, 0] [n0] (endK Try.prog Try.f54))
noncomputable def t1 (p1 : Int) (p2 : List Int) (p0q0 : List Int) (x0q4 : Int) (p0q1 : List Int) (j1 : Nat) (x1q5 : Int) (x1q9 : List Int) : St := ⟨[.dead, (.imm (.int .i64 p1)), (.imm (.ints .i64 p2)), (.ptr 1000000000 0 0), .dead, .dead, (.ptr 1000000001 0 0), (.all 1000000002 1), (.imm (.int .i64 ((befN p0q0 p1.toNat : Nat) : Int))), (.imm (.int .i64 ((behN p0q0 p1.toNat : Nat) : Int))), (.all 1000000003 1), (.imm (.int .i64 x0q4)), (.imm (.int .i64 x1q5)), .dead, .dead, .dead, .dead, .dead, .dead, .dead, .dead, .dead, .dead, .dead, .dead, .dead, .dead, .dead, .dead, .dead, .dead, .dead, .dead, .dead, .dead, .dead, .dead, .dead, .dead, .dead, .dead, .dead, .dead, .dead, .dead, .dead, .dead, .dead, .dead, .dead, .dead, .dead, .dead, .dead, .dead, .dead, .dead, .dead, .dead, .dead, .dead, .dead, .dead, .dead, .dead, .dead, .dead, .dead, .dead, .dead, .dead, .dead, .dead, .dead, .dead, .dead, .dead, .dead, .dead], hOf [(1000000000, (.box [(.imm (.ints .i64 p0q0)), (.imm (.ints .i64 p0q1))])), (1000000001, (.box [(.imm .nils), (.imm .nils)])), (1000000002, (.ints .i64 (p0q0.set j1 ((p2.length : Nat) : Int)))), (1000000003, (.ints .i64 x1q9))], [], []⟩
noncomputable abbrev L2 (fuel n : Nat) (s : St) (k : Kont) := lAt Try.prog X I fuel true 0 false 54 (bodyOf Try.f54) [1, 1, 1, 1, 1, 0, 1, 0, 0, 1, 0, 0, 1, 0, 0, 1, 0, 0, 1, 0] n s k
noncomputable abbrev k2 (n0 : Nat) (n1 : Nat) (fuel : Nat) : Kont := (kAt Try.prog X I fuel true 0 false 54 (bodyOf Try.f54) [1, 1, 1, 1, 1, 0, 1, 0, 0, 1, 0, 0, 1, 0, 0, 1, 0, 0, 1, 0] [n0, n1] (endK Try.prog Try.f54))
noncomputable def t2 (p1 : Int) (p2 : List Int) (p0q0 : List Int) (x0q4 : Int) (x1q5 : Int) (p0q1 : List Int) (j1 : Nat) (x2q6 : Int) (x2q10 : List Int) : St := ⟨[.dead, (.imm (.int .i64 p1)), (.imm (.ints .i64 p2)), (.ptr 1000000000 0 0), .dead, .dead, (.ptr 1000000001 0 0), (.all 1000000002 1), (.imm (.int .i64 ((befN p0q0 p1.toNat : Nat) : Int))), (.imm (.int .i64 ((behN p0q0 p1.toNat : Nat) : Int))), (.all 1000000003 1), (.imm (.int .i64 x0q4)), (.imm (.int .i64 x1q5)), (.imm (.int .i64 x2q6)), .dead, .dead, .dead, .dead, .dead, .dead, .dead, .dead, .dead, .dead, .dead, .dead, .dead, .dead, .dead, .dead, .dead, .dead, .dead, .dead, .dead, .dead, .dead, .dead, .dead, .dead, .dead, .dead, .dead, .dead, .dead, .dead, .dead, .dead, .dead, .dead, .dead, .dead, .dead, .dead, .dead, .dead, .dead, .dead, .dead, .dead, .dead, .dead, .dead, .dead, .dead, .dead, .dead, .dead, .dead, .dead, .dead, .dead, .dead, .dead, .dead, .dead, .dead, .dead, .dead], hOf [(1000000000, (.box [(.imm (.ints .i64 p0q0)), (.imm (.ints .i64 p0q1))])), (1000000001, (.box [(.imm .nils), (.imm .nils)])), (1000000002, (.ints .i64 (p0q0.set j1 ((p2.length : Nat) : Int)))), (1000000003, (.ints .i64 x2q10))], [], []⟩
theorem e (fuel : Nat) (p0q0 : List Int) (p0q1 : List Int) (p1 : Int) (p2 : List Int) : runF Try.prog X I 0 fuel 54 Try.f54 [.d (.agg [(.ints .i64 p0q0), (.ints .i64 p0q1)]), .d (.int .i64 p1), .d (.ints .i64 p2)] =
  (bif szB p0q0 then
  (idx p1 p0q0.length).bind fun j1 =>
  (bif decide (j1 < p0q0.length) then
  (bif validS p0q0 && axOk p0q0 p1 then
  L0 fuel fuel (t0 p1 p2 p0q0 p0q1 j1 0 ([])) (k0  fuel)
  else
  none)
  else
  none)
  else
  none) := by kernel_rfl
theorem s0 (fuel n0 : Nat) (p1 : Int) (p2 : List Int) (p0q0 : List Int) (p0q1 : List Int) (j1 : Nat) (x0q4 : Int) (x0q8 : List Int) : L0 fuel (n0 + 1) (t0 p1 p2 p0q0 p0q1 j1 x0q4 x0q8) (k0  fuel) =
  (bif (decide ((x0q4 : Int) < ((befN p0q0 p1.toNat : Nat) : Int))) then
  L1 fuel fuel (t1 p1 p2 p0q0 x0q4 p0q1 j1 0 x0q8) (k1 n0 fuel)
  else
  (bif szB ((p0q0.set j1 ((p2.length : Nat) : Int))) && szB x0q8 then
  some ([.agg [((.ints .i64 ((p0q0.set j1 ((p2.length : Nat) : Int)))), true), ((.ints .i64 x0q8), true)]], [])
  else
  none)) := by kernel_rfl
theorem s1 (fuel n0 n1 : Nat) (p1 : Int) (p2 : List Int) (p0q0 : List Int) (x0q4 : Int) (p0q1 : List Int) (j1 : Nat) (x1q5 : Int) (x1q9 : List Int) : L1 fuel (n1 + 1) (t1 p1 p2 p0q0 x0q4 p0q1 j1 x1q5 x1q9) (k1 n0 fuel) =
  (bif (decide ((x1q5 : Int) < ((p2.length : Nat) : Int))) then
  L2 fuel fuel (t2 p1 p2 p0q0 x0q4 x1q5 p0q1 j1 0 x1q9) (k2 n0 n1 fuel)
  else
  L0 fuel n0 (t0 p1 p2 p0q0 p0q1 j1 ((IntKind.wrap .i64 (x0q4 + 1))) x1q9) (k0  fuel)) := by kernel_rfl
theorem s2 (fuel n0 n1 n2 : Nat) (p1 : Int) (p2 : List Int) (p0q0 : List Int) (x0q4 : Int) (x1q5 : Int) (p0q1 : List Int) (j1 : Nat) (x2q6 : Int) (x2q10 : List Int) : L2 fuel (n2 + 1) (t2 p1 p2 p0q0 x0q4 x1q5 p0q1 j1 x2q6 x2q10) (k2 n0 n1 fuel) =
  (bif (decide ((x2q6 : Int) < ((behN p0q0 p1.toNat : Nat) : Int))) then
  (idx x1q5 p2.length).bind fun j114 =>
  (p2[j114]?).bind fun v115 =>
  (bif (decide ((v115 : Int) ≥ 0)) then
  (idx p1 p0q0.length).bind fun j116 =>
  (p0q0[j116]?).bind fun v117 =>
  (idx x1q5 p2.length).bind fun j118 =>
  (p2[j118]?).bind fun v119 =>
  (idx (IntKind.wrap .i64 ((IntKind.wrap .i64 ((IntKind.wrap .i64 ((IntKind.wrap .i64 (x0q4 * v117)) + v119)) * ((behN p0q0 p1.toNat : Nat) : Int))) + x2q6)) p0q1.length).bind fun j120 =>
  (p0q1[j120]?).bind fun v121 =>
  (bif fits (x2q10.length + ([v121] : List Int).length) 8 then
  L2 fuel n2 (t2 p1 p2 p0q0 x0q4 x1q5 p0q1 j1 ((IntKind.wrap .i64 (x2q6 + 1))) ((x2q10 ++ [v121]))) (k2 n0 n1 fuel)
  else
  none)
  else
  (bif fits (x2q10.length + ([0] : List Int).length) 8 then
  L2 fuel n2 (t2 p1 p2 p0q0 x0q4 x1q5 p0q1 j1 ((IntKind.wrap .i64 (x2q6 + 1))) ((x2q10 ++ [0]))) (k2 n0 n1 fuel)
  else
  none))
  else
  L1 fuel n1 (t1 p1 p2 p0q0 x0q4 p0q1 j1 ((IntKind.wrap .i64 (x1q5 + 1))) x2q10) (k1 n0 fuel)) := by kernel_rfl
end spec_along
theorem spec_along.ok_of (hX : ∀ E ∈ spec_along.X, CallSpec Try.prog E) (h : ∀ (sh : List Int) (da : List Int) (k : Int) (ls : List Int), (axB sh da k && alP sh k ls) = true → ∃ fuel, runF Try.prog spec_along.X spec_along.I 0 fuel 54 Try.f54 [.d (.agg [(.ints .i64 sh), (.ints .i64 da)]), .d (.int .i64 k), .d (.ints .i64 ls)] = some ([.agg [((.ints .i64 (alS sh k ls)), true), ((.ints .i64 (alA sh da k ls)), true)]], [])) : CallSpec Try.prog spec_along.E :=
  callSpec_of (d := 0) hX (by kernel_rfl) spec_along.I_ok (by kernel_rfl) (by kernel_rfl) (by kernel_rfl) (fun _ _ _ _ h => by dsimp only [spec_along.E] at h; cases h) (fun xs hp => by
    dsimp only [spec_along.E] at hp ⊢
    split at hp
    · exact h _ _ _ _ hp
    · cases hp)
theorem spec_along.lp2 (fuel n0 n1 : Nat) (k b j : Nat) (sh da ls : List Int) (ax : Ax sh k) (hd : da.length = befN sh k * lenN sh k * behN sh k) (al : AlOk sh k ls) (hb : b < befN sh k) (hj : j < ls.length) (hf : 3600 < fuel) :
    spec_along.L2 fuel fuel (spec_along.t2 (k : Int) ls sh (b : Int) (j : Int) da k 0 ((alA sh da k ls).take ((b * ls.length + j) * behN sh k))) (spec_along.k2 n0 n1 fuel) =
    spec_along.L1 fuel n1 (spec_along.t1 (k : Int) ls sh (b : Int) da k ((j + 1 : Nat) : Int) ((alA sh da k ls).take ((b * ls.length + (j + 1)) * behN sh k))) (spec_along.k1 n0 fuel) := by
  have hM := ax.beh_le
  have hl := al.len
  have hlen : (alA sh da k ls).length = befN sh k * ls.length * behN sh k := alA_length _ _ _ _
  have hle := al.le
  refine run_loop (N := behN sh k) (fun n m out => spec_along.L2 fuel n (spec_along.t2 (k : Int) ls sh (b : Int) (j : Int) da k (m : Int) out) (spec_along.k2 n0 n1 fuel)) (fun m out => out = (alA sh da k ls).take ((b * ls.length + j) * behN sh k + m)) ?_ ?_ fuel 0 _ (by omega) (by omega) rfl
  · intro n out ho
    rw [spec_along.s2, Int.toNat_natCast, decide_eq_false (p := ((behN sh k : Nat) : Int) < _) (by omega), w1 (j := j) (by omega), ho]
    rw [cond_false, show (b * ls.length + j) * behN sh k + behN sh k = (b * ls.length + (j + 1)) * behN sh k by rw [← Nat.add_assoc, Nat.add_mul, Nat.add_mul, Nat.add_mul, Nat.one_mul]]
  · intro n m out hm ho
    obtain ⟨e1, _, _, _⟩ := enc3 hb hj hm
    have hp := al.lt _ (mem_getD hj)
    have hg : (alA sh da k ls).getD ((b * ls.length + j) * behN sh k + m) 0 = atV (lenN sh k) (behN sh k) da b (ls.getD j 0) m := alA_get hb hj hm
    have hol : out.length ≤ 60 := by rw [ho, take_len (by omega)]; omega
    rw [spec_along.s2, Int.toNat_natCast, decide_eq_true (p := ((m : Nat) : Int) < _) (by omega), idx_nat hj, w1 (j := m) (by omega)]
    simp only [cond_true, Option.bind_some, getD_get hj]
    by_cases h0 : ls.getD j 0 ≥ 0
    · obtain ⟨p, hpp⟩ : ∃ p : Nat, ls.getD j 0 = p := ⟨(ls.getD j 0).toNat, by omega⟩
      rw [hpp] at hg h0 hp ⊢
      have hpl : p < lenN sh k := by omega
      obtain ⟨e2, _, _, _⟩ := enc3 hb hpl hm
      have hlk := ax.lt
      have hdl := ax.le
      have hx : b * lenN sh k + p ≤ 1000000000 := by
        have h1 := ax.len_le
        have h2 := ax.bef_le
        have : b * lenN sh k ≤ 3600 * 60 := Nat.mul_le_mul (by omega) h1
        omega
      simp only [decide_eq_true h0, cond_true, idx_nat hlk, Option.bind_some, getD_get hlk]
      rw [ax.len, wIdx hx (by omega), idx_nat (by omega)]
      simp only [Option.bind_some, getD_get (show (b * lenN sh k + p) * behN sh k + m < da.length by omega)]
      rw [fitsOk (by simp only [List.length_cons, List.length_nil]; omega), cond_true]
      refine ⟨_, ?_, rfl⟩
      have hg2 : atV (lenN sh k) (behN sh k) da b ((p : Nat) : Int) m = da.getD ((b * lenN sh k + p) * behN sh k + m) 0 := by simp [atV]
      rw [ho, ← hg2, take_push (by omega) hg, Nat.add_assoc]
    · simp only [decide_eq_false h0, cond_false]
      rw [fitsOk (by simp only [List.length_cons, List.length_nil]; omega), cond_true]
      refine ⟨_, ?_, rfl⟩
      have hg2 : atV (lenN sh k) (behN sh k) da b (ls.getD j 0) m = 0 := by simp only [atV, decide_eq_false h0, cond_false]
      rw [ho, ← hg2, take_push (by omega) hg, Nat.add_assoc]
theorem spec_along.lp1 (fuel n0 : Nat) (k b : Nat) (sh da ls : List Int) (ax : Ax sh k) (hd : da.length = befN sh k * lenN sh k * behN sh k) (al : AlOk sh k ls) (hb : b < befN sh k) (hf : 3600 < fuel) :
    spec_along.L1 fuel fuel (spec_along.t1 (k : Int) ls sh (b : Int) da k 0 ((alA sh da k ls).take (b * ls.length * behN sh k))) (spec_along.k1 n0 fuel) =
    spec_along.L0 fuel n0 (spec_along.t0 (k : Int) ls sh da k ((b + 1 : Nat) : Int) ((alA sh da k ls).take ((b + 1) * ls.length * behN sh k))) (spec_along.k0 fuel) := by
  have hB := ax.bef_le
  have hl := al.len
  refine run_loop (N := ls.length) (fun n j out => spec_along.L1 fuel n (spec_along.t1 (k : Int) ls sh (b : Int) da k (j : Int) out) (spec_along.k1 n0 fuel)) (fun j out => out = (alA sh da k ls).take ((b * ls.length + j) * behN sh k)) ?_ ?_ fuel 0 _ (by omega) (by omega) rfl
  · intro n out ho
    rw [spec_along.s1, decide_eq_false (p := ((ls.length : Nat) : Int) < _) (by omega), w1 (j := b) (by omega), ho, cond_false, Nat.add_mul b 1, Nat.one_mul]
  · intro n j out hj ho
    rw [spec_along.s1, decide_eq_true (p := ((j : Nat) : Int) < _) (by omega), cond_true, ho, spec_along.lp2 fuel n0 n k b j sh da ls ax hd al hb hj hf]
    exact ⟨_, rfl, rfl⟩
theorem spec_along.lp0 (fuel : Nat) (k : Nat) (sh da ls : List Int) (ax : Ax sh k) (hd : da.length = befN sh k * lenN sh k * behN sh k) (al : AlOk sh k ls) (hf : 3600 < fuel) :
    spec_along.L0 fuel fuel (spec_along.t0 (k : Int) ls sh da k 0 []) (spec_along.k0 fuel) = some ([.agg [((.ints .i64 (sh.set k ((ls.length : Nat) : Int))), true), ((.ints .i64 (alA sh da k ls)), true)]], []) := by
  have hB := ax.bef_le
  have hl := al.len
  have hle := al.le
  have hr := ax.rank
  have hlen : (alA sh da k ls).length = befN sh k * ls.length * behN sh k := alA_length _ _ _ _
  refine run_loop (N := befN sh k) (fun n b out => spec_along.L0 fuel n (spec_along.t0 (k : Int) ls sh da k (b : Int) out) (spec_along.k0 fuel)) (fun b out => out = (alA sh da k ls).take (b * ls.length * behN sh k)) ?_ ?_ fuel 0 _ (by omega) (by omega) (by simp)
  · intro n out ho
    rw [← hlen, List.take_length] at ho
    rw [spec_along.s0, Int.toNat_natCast, decide_eq_false (p := ((befN sh k : Nat) : Int) < _) (by omega), ho, szB_of (xs := sh.set _ _) (by simp; omega), szB_of (xs := alA sh da k ls) (by omega)]
    rfl
  · intro n b out hb ho
    rw [spec_along.s0, Int.toNat_natCast, decide_eq_true (p := ((b : Nat) : Int) < _) (by omega), cond_true, ho, spec_along.lp1 fuel n k b sh da ls ax hd al hb hf]
    exact ⟨_, rfl, rfl⟩
theorem spec_along.ok : CallSpec Try.prog spec_along.E := spec_along.ok_of (by simp [spec_along.X, spec_copyInts.ok, spec_around.ok, spec_make1.ok]) fun sh da k ls h => by
  obtain ⟨F, hF⟩ : ∃ F : Nat, 3600 < F := ⟨3601, by omega⟩
  refine ⟨F, ?_⟩
  simp only [Bool.and_eq_true, axB] at h
  obtain ⟨e1, e2⟩ := axOk_nat h.1.2
  have hv := validA_inv h.1.1
  have ax := ax_of hv.1 e2
  have hd := ax_data h.1.1 e2
  have hr := ax.rank
  rw [spec_along.e, szB_of (xs := sh) (by omega), hv.1, h.1.2]
  generalize k.toNat = j at *
  subst e1
  have al := alP_inv e2 h.2
  rw [idx_nat e2]
  simp only [cond_true, Option.bind_some, e2, decide_true, Bool.and_self]
  rw [spec_along.lp0 F j sh da ls ax hd al hF]
  simp only [alS, Int.toNat_natCast]

namespace spec_TakeAxis
noncomputable def E : Entry := ⟨22, false, false, fun | [.d (.agg [(.ints .i64 sh), (.ints .i64 da)]), .d (.int .i64 k), .d (.int .i64 n)] => decide (sh.length < 9223372036854775808) && decide (da.length < 9223372036854775808) | _ => false, fun | [.d (.agg [(.ints .i64 sh), (.ints .i64 da)]), .d (.int .i64 k), .d (.int .i64 n)] => ([.agg [((.ints .i64 (tkS sh da k n)), true), ((.ints .i64 (tkD sh da k n)), true)], .one ((.bool (tkB sh da k n)), false)], []) | _ => ([], []), fun _ => [], true, fun _ => none⟩
end spec_TakeAxis
namespace spec_TakeAxis
noncomputable def X : List Entry := [spec_isAxis.E, spec_inRange.E, spec_toPlace.E, spec_copyInts.E, spec_validShape.E, spec_along.E]
noncomputable def I : List Inl := [⟨22, Try.f22, ⟨[55, 68], [(1000006, [0, 4, 5, 7, 11, 12, 13, 14, 15, 16, 17, 18, 19, 20, 21, 22, 23, 24, 25, 26, 27, 28, 29, 30, 31, 32, 33, 34, 35, 36, 37, 38, 39, 40, 41, 42, 43, 44, 45, 46, 47, 48, 49, 50, 51, 52, 53, 54, 55, 56, 57, 58, 59, 60, 61, 62, 63, 64, 65, 66, 67, 68]), (1000010, [0, 2, 4, 5, 7, 10, 12, 13, 14, 15, 16, 17, 18, 19, 20, 21, 22, 23, 24, 25, 26, 27, 28, 29, 30, 31, 32, 33, 34, 35, 36, 37, 38, 39, 40, 41, 42, 43, 44, 45, 46, 47, 48, 49, 50, 51, 52, 53, 54, 55, 56, 57, 58, 59, 60, 61, 62, 63, 64, 65, 66, 67, 68])], [], [], [], []⟩⟩]
theorem I_ok : ∀ i ∈ I, Try.prog.funcs[i.f]? = some i.fn ∧ (i.fn.name == "runtime.NumGoroutine") = false := by
  intro i hi
  simp only [I, List.mem_cons, List.not_mem_nil, or_false] at hi
  subst hi
  exact ⟨by kernel_rfl, by kernel_rfl⟩
noncomputable abbrev L0 (fuel n : Nat) (s : St) (k : Kont) := lAt Try.prog X I fuel true 0 false 22 (bodyOf Try.f22) [1, 1, 1, 1, 0, 1, 0] n s k
noncomputable abbrev k0  (fuel : Nat) : Kont := (kAt Try.prog X I fuel true 0 false 22 (bodyOf Try.f22) [1, 1, 1, 1, 0, 1, 0] [] (endK Try.prog Try.f22))
noncomputable def t0 (p1 : Int) (p2 : Int) (v2 : Int) (p0q0 : List Int) (p0q1 : List Int) (x0q3 : Int) (x0q6 : List Int) : St := ⟨[.dead, (.imm (.int .i64 p1)), (.imm (.int .i64 p2)), (.ptr 1000000000 0 0), .dead, .dead, (.ptr 1000000001 0 0), .dead, (.all 1000000002 1), (.imm (.int .i64 v2)), (.imm (.int .i64 x0q3)), .dead, .dead, .dead, .dead, .dead, .dead, .dead, .dead, .dead, .dead, .dead, .dead, .dead, .dead, .dead, .dead, .dead, .dead, .dead, .dead, .dead, .dead, .dead, .dead, .dead, .dead, .dead, .dead, .dead, .dead, .dead, .dead, .dead, .dead, .dead, .dead, .dead, .dead, .dead, .dead, .dead, .dead, .dead, .dead, .dead, .dead, .dead, .dead, .dead, .dead, .dead, .dead, .dead, .dead, .dead, .dead, .dead, .dead], hOf [(1000000000, (.box [(.imm (.ints .i64 p0q0)), (.imm (.ints .i64 p0q1))])), (1000000001, (.box [(.imm .nils), (.imm .nils)])), (1000000002, (.ints .i64 x0q6))], [], []⟩
noncomputable abbrev L1 (fuel n : Nat) (s : St) (k : Kont) := lAt Try.prog X I fuel true 0 false 22 (bodyOf Try.f22) [1, 1, 1, 1, 1, 0, 1, 0] n s k
noncomputable abbrev k1  (fuel : Nat) : Kont := (kAt Try.prog X I fuel true 0 false 22 (bodyOf Try.f22) [1, 1, 1, 1, 1, 0, 1, 0] [] (endK Try.prog Try.f22))
noncomputable def t1 (p1 : Int) (v2 : Int) (p0q0 : List Int) (p0q1 : List Int) (x1q2 : Int) (x1q5 : List Int) : St := ⟨[.dead, (.imm (.int .i64 p1)), .dead, (.ptr 1000000000 0 0), .dead, .dead, (.ptr 1000000001 0 0), .dead, (.all 1000000002 1), (.imm (.int .i64 v2)), .dead, (.imm (.int .i64 x1q2)), .dead, .dead, .dead, .dead, .dead, .dead, .dead, .dead, .dead, .dead, .dead, .dead, .dead, .dead, .dead, .dead, .dead, .dead, .dead, .dead, .dead, .dead, .dead, .dead, .dead, .dead, .dead, .dead, .dead, .dead, .dead, .dead, .dead, .dead, .dead, .dead, .dead, .dead, .dead, .dead, .dead, .dead, .dead, .dead, .dead, .dead, .dead, .dead, .dead, .dead, .dead, .dead, .dead, .dead, .dead, .dead, .dead], hOf [(1000000000, (.box [(.imm (.ints .i64 p0q0)), (.imm (.ints .i64 p0q1))])), (1000000001, (.box [(.imm .nils), (.imm .nils)])), (1000000002, (.ints .i64 x1q5))], [], []⟩
theorem e (fuel : Nat) (p0q0 : List Int) (p0q1 : List Int) (p1 : Int) (p2 : Int) : runF Try.prog X I 0 fuel 22 Try.f22 [.d (.agg [(.ints .i64 p0q0), (.ints .i64 p0q1)]), .d (.int .i64 p1), .d (.int .i64 p2)] =
  (bif decide (p0q0.length < 9223372036854775808) && decide (p0q1.length < 9223372036854775808) then
  (bif (!(axB p0q0 p0q1 p1)) then
  some ([.agg [((.ints .i64 []), true), ((.ints .i64 []), true)], .one ((.bool false), false)], [])
  else
  (bif (!(decide (((-60)) ≤ p2) && decide (p2 ≤ 60))) then
  some ([.agg [((.ints .i64 []), true), ((.ints .i64 []), true)], .one ((.bool false), false)], [])
  else
  (idx p1 p0q0.length).bind fun j1 =>
  (p0q0[j1]?).bind fun v2 =>
  L0 fuel fuel (t0 p1 p2 v2 p0q0 p0q1 0 ([])) (k0  fuel)))
  else
  none) := by kernel_rfl
theorem s0 (fuel n0 : Nat) (p1 : Int) (p2 : Int) (v2 : Int) (p0q0 : List Int) (p0q1 : List Int) (x0q3 : Int) (x0q6 : List Int) : L0 fuel (n0 + 1) (t0 p1 p2 v2 p0q0 p0q1 x0q3 x0q6) (k0  fuel) =
  (bif (decide ((x0q3 : Int) < p2)) then
  (bif fits (x0q6.length + ([(toPl x0q3 v2)] : List Int).length) 8 then
  L0 fuel n0 (t0 p1 p2 v2 p0q0 p0q1 ((IntKind.wrap .i64 (x0q3 + 1))) ((x0q6 ++ [(toPl x0q3 v2)]))) (k0  fuel)
  else
  none)
  else
  L1 fuel fuel (t1 p1 v2 p0q0 p0q1 p2 x0q6) (k1  fuel)) := by kernel_rfl
theorem s1 (fuel n1 : Nat) (p1 : Int) (v2 : Int) (p0q0 : List Int) (p0q1 : List Int) (x1q2 : Int) (x1q5 : List Int) : L1 fuel (n1 + 1) (t1 p1 v2 p0q0 p0q1 x1q2 x1q5) (k1  fuel) =
  (bif (decide ((x1q2 : Int) < 0)) then
  (bif fits (x1q5.length + ([(toPl ((IntKind.wrap .i64 (v2 + x1q2))) v2)] : List Int).length) 8 then
  L1 fuel n1 (t1 p1 v2 p0q0 p0q1 ((IntKind.wrap .i64 (x1q2 + 1))) ((x1q5 ++ [(toPl ((IntKind.wrap .i64 (v2 + x1q2))) v2)]))) (k1  fuel)
  else
  none)
  else
  (bif szB p0q0 then
  (idx p1 p0q0.length).bind fun j9 =>
  (bif decide (j9 < p0q0.length) then
  (bif decide (((p0q0.set j9 ((x1q5.length : Nat) : Int))).length < 9223372036854775808) then
  (bif (!(validS ((p0q0.set j9 ((x1q5.length : Nat) : Int))))) then
  some ([.agg [((.ints .i64 []), true), ((.ints .i64 []), true)], .one ((.bool false), false)], [])
  else
  (bif axB p0q0 p0q1 p1 && alP p0q0 p1 x1q5 then
  some ([.agg [((.ints .i64 (alS p0q0 p1 x1q5)), true), ((.ints .i64 (alA p0q0 p0q1 p1 x1q5)), true)], .one ((.bool true), false)], [])
  else
  none))
  else
  none)
  else
  none)
  else
  none)) := by kernel_rfl
end spec_TakeAxis
theorem spec_TakeAxis.ok_of (hX : ∀ E ∈ spec_TakeAxis.X, CallSpec Try.prog E) (h : ∀ (sh : List Int) (da : List Int) (k : Int) (n : Int), (decide (sh.length < 9223372036854775808) && decide (da.length < 9223372036854775808)) = true → ∃ fuel, runF Try.prog spec_TakeAxis.X spec_TakeAxis.I 0 fuel 22 Try.f22 [.d (.agg [(.ints .i64 sh), (.ints .i64 da)]), .d (.int .i64 k), .d (.int .i64 n)] = some ([.agg [((.ints .i64 (tkS sh da k n)), true), ((.ints .i64 (tkD sh da k n)), true)], .one ((.bool (tkB sh da k n)), false)], [])) : CallSpec Try.prog spec_TakeAxis.E :=
  callSpec_of (d := 0) hX (by kernel_rfl) spec_TakeAxis.I_ok (by kernel_rfl) (by kernel_rfl) (by kernel_rfl) (fun _ _ _ _ h => by dsimp only [spec_TakeAxis.E] at h; cases h) (fun xs hp => by
    dsimp only [spec_TakeAxis.E] at hp ⊢
    split at hp
    · exact h _ _ _ _ hp
    · cases hp)
theorem spec_TakeAxis.end (fuel n : Nat) (sh da : List Int) (k : Nat) (m i : Int) (hc : cntB m = true) (hv : validA sh da = true) (hk : k < sh.length) (hi : ¬ i < 0) :
    spec_TakeAxis.L1 fuel (n + 1) (spec_TakeAxis.t1 (k : Int) ((lenN sh k : Nat) : Int) sh da i (tkL (lenN sh k) m)) (spec_TakeAxis.k1 fuel) = some ([.agg [((.ints .i64 (tkS sh da k m)), true), ((.ints .i64 (tkD sh da k m)), true)], .one ((.bool (tkB sh da k m)), false)], []) := by
  have ax := ax_of (validA_inv hv).1 hk
  have hr := ax.rank
  have hx : axB sh da k = true := by simp only [axB, hv, axOk, Bool.true_and]; simp; omega
  rw [spec_TakeAxis.s1, decide_eq_false hi, cond_false, szB_of (by omega), cond_true, idx_nat hk]
  simp only [Option.bind_some, hk, decide_true, cond_true]
  rw [lt_of (by simp; omega), cond_true]
  unfold tkS tkD tkB
  rw [hx, hc]
  simp only [alS, lenK, Int.toNat_natCast, Bool.and_self, Bool.true_and]
  cases hs : validS (sh.set k (((tkL (lenN sh k) m).length : Nat) : Int)) with
  | false => rfl
  | true =>
    rw [alP_of hs tkL_lt]
    rfl
theorem spec_TakeAxis.loop1 (fuel : Nat) (sh da : List Int) (k : Nat) (m : Int) (hc : cntB m = true) (hm : m < 0) (hv : validA sh da = true) (hk : k < sh.length) (hf : 60 < fuel) :
    spec_TakeAxis.L1 fuel fuel (spec_TakeAxis.t1 (k : Int) ((lenN sh k : Nat) : Int) sh da m []) (spec_TakeAxis.k1 fuel) = some ([.agg [((.ints .i64 (tkS sh da k m)), true), ((.ints .i64 (tkD sh da k m)), true)], .one ((.bool (tkB sh da k m)), false)], []) := by
  have ax := ax_of (validA_inv hv).1 hk
  have hL := ax.len_le
  have hmb := cntB_inv hc
  rw [show spec_TakeAxis.t1 (k : Int) ((lenN sh k : Nat) : Int) sh da m [] = spec_TakeAxis.t1 (k : Int) ((lenN sh k : Nat) : Int) sh da (m + ((0 : Nat) : Int)) [] by rw [show m + ((0 : Nat) : Int) = m by omega]]
  refine run_loop (N := m.natAbs) (fun n j out => spec_TakeAxis.L1 fuel n (spec_TakeAxis.t1 (k : Int) ((lenN sh k : Nat) : Int) sh da (m + (j : Int)) out) (spec_TakeAxis.k1 fuel)) (fun j out => out = tab j (fun i => tkP (lenN sh k) ((bif decide (m < 0) then ((lenN sh k : Nat) : Int) + m else 0) + (i : Int)))) ?_ ?_ fuel 0 [] (by omega) (by omega) rfl
  · intro n out ho
    change out = tkL (lenN sh k) m at ho
    rw [ho]
    exact spec_TakeAxis.end fuel n sh da k m _ hc hv hk (by omega)
  · intro n j out hj ho
    have hl : out.length = j := by rw [ho, tab_length]
    have hw : IntKind.wrap .i64 (((lenN sh k : Nat) : Int) + (m + (j : Int))) = ((lenN sh k : Nat) : Int) + (m + (j : Int)) := wS (by omega) (by omega)
    rw [spec_TakeAxis.s1, decide_eq_true (p := m + (j : Int) < 0) (by omega), cond_true, hw, fitsOk (by simp only [List.length_cons, List.length_nil]; omega), cond_true, wS (x := m + (j : Int) + 1) (by omega) (by omega), show m + (j : Int) + 1 = m + ((j + 1 : Nat) : Int) by omega, toPl_eq (by omega)]
    refine ⟨_, ?_, rfl⟩
    rw [tab_succ, ho, decide_eq_true hm, cond_true, Int.add_assoc]
theorem spec_TakeAxis.loop0 (fuel : Nat) (sh da : List Int) (k : Nat) (m : Int) (hc : cntB m = true) (hm : 0 ≤ m) (hv : validA sh da = true) (hk : k < sh.length) (hf : 60 < fuel) :
    spec_TakeAxis.L0 fuel fuel (spec_TakeAxis.t0 (k : Int) m ((lenN sh k : Nat) : Int) sh da 0 []) (spec_TakeAxis.k0 fuel) = some ([.agg [((.ints .i64 (tkS sh da k m)), true), ((.ints .i64 (tkD sh da k m)), true)], .one ((.bool (tkB sh da k m)), false)], []) := by
  have ax := ax_of (validA_inv hv).1 hk
  have hL := ax.len_le
  have hmb := cntB_inv hc
  refine run_loop (N := m.natAbs) (fun n j out => spec_TakeAxis.L0 fuel n (spec_TakeAxis.t0 (k : Int) m ((lenN sh k : Nat) : Int) sh da (j : Int) out) (spec_TakeAxis.k0 fuel)) (fun j out => out = tab j (fun i => tkP (lenN sh k) ((bif decide (m < 0) then ((lenN sh k : Nat) : Int) + m else 0) + (i : Int)))) ?_ ?_ fuel 0 [] (by omega) (by omega) rfl
  · intro n out ho
    change out = tkL (lenN sh k) m at ho
    rw [spec_TakeAxis.s0, decide_eq_false (by omega), cond_false, ho]
    obtain ⟨f, rfl⟩ : ∃ f, fuel = f + 1 := ⟨fuel - 1, by omega⟩
    exact spec_TakeAxis.end (f + 1) f sh da k m m hc hv hk (by omega)
  · intro n j out hj ho
    have hl : out.length = j := by rw [ho, tab_length]
    rw [spec_TakeAxis.s0, decide_eq_true (p := (j : Int) < m) (by omega), cond_true, fitsOk (by simp only [List.length_cons, List.length_nil]; omega), cond_true, w1 (j := j) (by omega), toPl_eq (by omega)]
    refine ⟨_, ?_, rfl⟩
    rw [tab_succ, ho, decide_eq_false (p := m < 0) (by omega), cond_false, Int.zero_add]
theorem spec_TakeAxis.ok : CallSpec Try.prog spec_TakeAxis.E := spec_TakeAxis.ok_of (by simp [spec_TakeAxis.X, spec_isAxis.ok, spec_inRange.ok, spec_toPlace.ok, spec_copyInts.ok, spec_validShape.ok, spec_along.ok]) fun sh da k m h => by
  obtain ⟨F, hF⟩ : ∃ F : Nat, 60 < F := ⟨61, by omega⟩
  refine ⟨F, ?_⟩
  rw [spec_TakeAxis.e, h]
  cases hb : axB sh da k with
  | false => simp only [tkS, tkD, tkB, hb]; rfl
  | true =>
    cases hc : (decide (-60 ≤ m) && decide (m ≤ 60)) with
    | false => simp only [tkS, tkD, tkB, hb, cntB, hc]; rfl
    | true =>
      obtain ⟨j, rfl, hj, hv, ax, hd, hl⟩ := axB_inv hb
      rw [idx_nat hj]
      simp only [cond_true, Bool.not_true, cond_false, Option.bind_some, getD_get hj, ax.len]
      by_cases h0 : m < 0
      · obtain ⟨f, rfl⟩ : ∃ f, F = f + 1 := ⟨F - 1, by omega⟩
        rw [spec_TakeAxis.s0, decide_eq_false (by omega), cond_false]
        exact spec_TakeAxis.loop1 (f + 1) sh da j m hc h0 hv hj (by omega)
      · exact spec_TakeAxis.loop0 F sh da j m hc (by omega) hv hj (by omega)

namespace laws_FnTakeAxis
noncomputable def E : Entry := ⟨8, true, false, fun | [.d (.ints .u8 bs)] => bytesB bs | _ => false, fun | [.d (.ints .u8 bs)] => ([.one ((.bool true), false)], []) | _ => ([], []), fun _ => [], false, fun _ => none⟩
end laws_FnTakeAxis
namespace laws_FnTakeAxis
noncomputable def X : List Entry := [spec_DrawTakeAxis.E, impl_TakeAxis.E, spec_TakeAxis.E, laws_equalArray.E, impl_DropAxis.E, impl_JoinAxis.E]
noncomputable def I : List Inl := [⟨8, Try.f8, ⟨[17, 25, 32, 74, 76], [], [], [(8, [2, 3, 5, 0, 1, 4, 6, 7, 8, 9, 10, 11, 12])], [], []⟩⟩]
theorem I_ok : ∀ i ∈ I, Try.prog.funcs[i.f]? = some i.fn ∧ (i.fn.name == "runtime.NumGoroutine") = false := by
  intro i hi
  simp only [I, List.mem_cons, List.not_mem_nil, or_false] at hi
  subst hi
  exact ⟨by kernel_rfl, by kernel_rfl⟩
theorem e (fuel : Nat) (p0 : List Int) : runF Try.prog X I 0 fuel 8 Try.f8 [.d (.ints .u8 p0)] =
  (bif (decide ((((p0.length : Nat) : Int) : Int) > 1048576)) then
  some ([.one ((.bool true), false)], [])
  else
  (bif bytesB p0 then
  (bif decide (((aArS (cutC p0) 0)).length < 9223372036854775808) && decide (((aArD (cutC p0) 0)).length < 9223372036854775808) then
  (bif decide (((aArS (cutC p0) 0)).length < 9223372036854775808) && decide (((aArD (cutC p0) 0)).length < 9223372036854775808) then
  (bif decide (((tkS ((aArS (cutC p0) 0)) ((aArD (cutC p0) 0)) ((dAx (cutC p0))) ((oneV (cutC p0) (dAxP (cutC p0)) takL)))).length < 9223372036854775808) && decide (((tkD ((aArS (cutC p0) 0)) ((aArD (cutC p0) 0)) ((dAx (cutC p0))) ((oneV (cutC p0) (dAxP (cutC p0)) takL)))).length < 9223372036854775808) && decide (((tkS ((aArS (cutC p0) 0)) ((aArD (cutC p0) 0)) ((dAx (cutC p0))) ((oneV (cutC p0) (dAxP (cutC p0)) takL)))).length < 9223372036854775808) && decide (((tkD ((aArS (cutC p0) 0)) ((aArD (cutC p0) 0)) ((dAx (cutC p0))) ((oneV (cutC p0) (dAxP (cutC p0)) takL)))).length < 9223372036854775808) then
  (bif (!(decide (((tkS ((aArS (cutC p0) 0)) ((aArD (cutC p0) 0)) ((dAx (cutC p0))) ((oneV (cutC p0) (dAxP (cutC p0)) takL)))) = ((tkS ((aArS (cutC p0) 0)) ((aArD (cutC p0) 0)) ((dAx (cutC p0))) ((oneV (cutC p0) (dAxP (cutC p0)) takL))))) && decide (((tkD ((aArS (cutC p0) 0)) ((aArD (cutC p0) 0)) ((dAx (cutC p0))) ((oneV (cutC p0) (dAxP (cutC p0)) takL)))) = ((tkD ((aArS (cutC p0) 0)) ((aArD (cutC p0) 0)) ((dAx (cutC p0))) ((oneV (cutC p0) (dAxP (cutC p0)) takL))))))) then
  (bif decide (((tkS ((aArS (cutC p0) 0)) ((aArD (cutC p0) 0)) ((dAx (cutC p0))) ((oneV (cutC p0) (dAxP (cutC p0)) takL)))).length < 9223372036854775808) && decide (((tkD ((aArS (cutC p0) 0)) ((aArD (cutC p0) 0)) ((dAx (cutC p0))) ((oneV (cutC p0) (dAxP (cutC p0)) takL)))).length < 9223372036854775808) && decide (((tkS ((aArS (cutC p0) 0)) ((aArD (cutC p0) 0)) ((dAx (cutC p0))) ((oneV (cutC p0) (dAxP (cutC p0)) takL)))).length < 9223372036854775808) && decide (((tkD ((aArS (cutC p0) 0)) ((aArD (cutC p0) 0)) ((dAx (cutC p0))) ((oneV (cutC p0) (dAxP (cutC p0)) takL)))).length < 9223372036854775808) then
  (bif (decide (((tkS ((aArS (cutC p0) 0)) ((aArD (cutC p0) 0)) ((dAx (cutC p0))) ((oneV (cutC p0) (dAxP (cutC p0)) takL)))) = ((tkS ((aArS (cutC p0) 0)) ((aArD (cutC p0) 0)) ((dAx (cutC p0))) ((oneV (cutC p0) (dAxP (cutC p0)) takL))))) && decide (((tkD ((aArS (cutC p0) 0)) ((aArD (cutC p0) 0)) ((dAx (cutC p0))) ((oneV (cutC p0) (dAxP (cutC p0)) takL)))) = ((tkD ((aArS (cutC p0) 0)) ((aArD (cutC p0) 0)) ((dAx (cutC p0))) ((oneV (cutC p0) (dAxP (cutC p0)) takL)))))) then
  some ([.one ((.bool ((tkB ((aArS (cutC p0) 0)) ((aArD (cutC p0) 0)) ((dAx (cutC p0))) ((oneV (cutC p0) (dAxP (cutC p0)) takL))) == (tkB ((aArS (cutC p0) 0)) ((aArD (cutC p0) 0)) ((dAx (cutC p0))) ((oneV (cutC p0) (dAxP (cutC p0)) takL))))), false)], [])
  else
  some ([.one ((.bool false), false)], []))
  else
  none)
  else
  (bif (!((tkB ((aArS (cutC p0) 0)) ((aArD (cutC p0) 0)) ((dAx (cutC p0))) ((oneV (cutC p0) (dAxP (cutC p0)) takL))) == (tkB ((aArS (cutC p0) 0)) ((aArD (cutC p0) 0)) ((dAx (cutC p0))) ((oneV (cutC p0) (dAxP (cutC p0)) takL))))) then
  (bif decide (((tkS ((aArS (cutC p0) 0)) ((aArD (cutC p0) 0)) ((dAx (cutC p0))) ((oneV (cutC p0) (dAxP (cutC p0)) takL)))).length < 9223372036854775808) && decide (((tkD ((aArS (cutC p0) 0)) ((aArD (cutC p0) 0)) ((dAx (cutC p0))) ((oneV (cutC p0) (dAxP (cutC p0)) takL)))).length < 9223372036854775808) && decide (((tkS ((aArS (cutC p0) 0)) ((aArD (cutC p0) 0)) ((dAx (cutC p0))) ((oneV (cutC p0) (dAxP (cutC p0)) takL)))).length < 9223372036854775808) && decide (((tkD ((aArS (cutC p0) 0)) ((aArD (cutC p0) 0)) ((dAx (cutC p0))) ((oneV (cutC p0) (dAxP (cutC p0)) takL)))).length < 9223372036854775808) then
  (bif (decide (((tkS ((aArS (cutC p0) 0)) ((aArD (cutC p0) 0)) ((dAx (cutC p0))) ((oneV (cutC p0) (dAxP (cutC p0)) takL)))) = ((tkS ((aArS (cutC p0) 0)) ((aArD (cutC p0) 0)) ((dAx (cutC p0))) ((oneV (cutC p0) (dAxP (cutC p0)) takL))))) && decide (((tkD ((aArS (cutC p0) 0)) ((aArD (cutC p0) 0)) ((dAx (cutC p0))) ((oneV (cutC p0) (dAxP (cutC p0)) takL)))) = ((tkD ((aArS (cutC p0) 0)) ((aArD (cutC p0) 0)) ((dAx (cutC p0))) ((oneV (cutC p0) (dAxP (cutC p0)) takL)))))) then
  some ([.one ((.bool ((tkB ((aArS (cutC p0) 0)) ((aArD (cutC p0) 0)) ((dAx (cutC p0))) ((oneV (cutC p0) (dAxP (cutC p0)) takL))) == (tkB ((aArS (cutC p0) 0)) ((aArD (cutC p0) 0)) ((dAx (cutC p0))) ((oneV (cutC p0) (dAxP (cutC p0)) takL))))), false)], [])
  else
  some ([.one ((.bool false), false)], []))
  else
  none)
  else
  (bif (!(tkB ((aArS (cutC p0) 0)) ((aArD (cutC p0) 0)) ((dAx (cutC p0))) ((oneV (cutC p0) (dAxP (cutC p0)) takL)))) then
  (bif decide (((tkS ((aArS (cutC p0) 0)) ((aArD (cutC p0) 0)) ((dAx (cutC p0))) ((oneV (cutC p0) (dAxP (cutC p0)) takL)))).length < 9223372036854775808) && decide (((tkD ((aArS (cutC p0) 0)) ((aArD (cutC p0) 0)) ((dAx (cutC p0))) ((oneV (cutC p0) (dAxP (cutC p0)) takL)))).length < 9223372036854775808) && decide (((tkS ((aArS (cutC p0) 0)) ((aArD (cutC p0) 0)) ((dAx (cutC p0))) ((oneV (cutC p0) (dAxP (cutC p0)) takL)))).length < 9223372036854775808) && decide (((tkD ((aArS (cutC p0) 0)) ((aArD (cutC p0) 0)) ((dAx (cutC p0))) ((oneV (cutC p0) (dAxP (cutC p0)) takL)))).length < 9223372036854775808) then
  (bif (decide (((tkS ((aArS (cutC p0) 0)) ((aArD (cutC p0) 0)) ((dAx (cutC p0))) ((oneV (cutC p0) (dAxP (cutC p0)) takL)))) = ((tkS ((aArS (cutC p0) 0)) ((aArD (cutC p0) 0)) ((dAx (cutC p0))) ((oneV (cutC p0) (dAxP (cutC p0)) takL))))) && decide (((tkD ((aArS (cutC p0) 0)) ((aArD (cutC p0) 0)) ((dAx (cutC p0))) ((oneV (cutC p0) (dAxP (cutC p0)) takL)))) = ((tkD ((aArS (cutC p0) 0)) ((aArD (cutC p0) 0)) ((dAx (cutC p0))) ((oneV (cutC p0) (dAxP (cutC p0)) takL)))))) then
  some ([.one ((.bool ((tkB ((aArS (cutC p0) 0)) ((aArD (cutC p0) 0)) ((dAx (cutC p0))) ((oneV (cutC p0) (dAxP (cutC p0)) takL))) == (tkB ((aArS (cutC p0) 0)) ((aArD (cutC p0) 0)) ((dAx (cutC p0))) ((oneV (cutC p0) (dAxP (cutC p0)) takL))))), false)], [])
  else
  some ([.one ((.bool false), false)], []))
  else
  none)
  else
  (bif (decide (((oneV (cutC p0) (dAxP (cutC p0)) takL) : Int) < 0)) then
  (bif decide (((tkS ((aArS (cutC p0) 0)) ((aArD (cutC p0) 0)) ((dAx (cutC p0))) ((oneV (cutC p0) (dAxP (cutC p0)) takL)))).length < 9223372036854775808) && decide (((tkD ((aArS (cutC p0) 0)) ((aArD (cutC p0) 0)) ((dAx (cutC p0))) ((oneV (cutC p0) (dAxP (cutC p0)) takL)))).length < 9223372036854775808) && decide (((tkS ((aArS (cutC p0) 0)) ((aArD (cutC p0) 0)) ((dAx (cutC p0))) ((oneV (cutC p0) (dAxP (cutC p0)) takL)))).length < 9223372036854775808) && decide (((tkD ((aArS (cutC p0) 0)) ((aArD (cutC p0) 0)) ((dAx (cutC p0))) ((oneV (cutC p0) (dAxP (cutC p0)) takL)))).length < 9223372036854775808) then
  (bif (decide (((tkS ((aArS (cutC p0) 0)) ((aArD (cutC p0) 0)) ((dAx (cutC p0))) ((oneV (cutC p0) (dAxP (cutC p0)) takL)))) = ((tkS ((aArS (cutC p0) 0)) ((aArD (cutC p0) 0)) ((dAx (cutC p0))) ((oneV (cutC p0) (dAxP (cutC p0)) takL))))) && decide (((tkD ((aArS (cutC p0) 0)) ((aArD (cutC p0) 0)) ((dAx (cutC p0))) ((oneV (cutC p0) (dAxP (cutC p0)) takL)))) = ((tkD ((aArS (cutC p0) 0)) ((aArD (cutC p0) 0)) ((dAx (cutC p0))) ((oneV (cutC p0) (dAxP (cutC p0)) takL)))))) then
  some ([.one ((.bool ((tkB ((aArS (cutC p0) 0)) ((aArD (cutC p0) 0)) ((dAx (cutC p0))) ((oneV (cutC p0) (dAxP (cutC p0)) takL))) == (tkB ((aArS (cutC p0) 0)) ((aArD (cutC p0) 0)) ((dAx (cutC p0))) ((oneV (cutC p0) (dAxP (cutC p0)) takL))))), false)], [])
  else
  some ([.one ((.bool false), false)], []))
  else
  none)
  else
  (idx (dAx (cutC p0)) (aArS (cutC p0) 0).length).bind fun j1 =>
  ((aArS (cutC p0) 0)[j1]?).bind fun v2 =>
  (bif (decide (((oneV (cutC p0) (dAxP (cutC p0)) takL) : Int) > v2)) then
  (bif decide (((tkS ((aArS (cutC p0) 0)) ((aArD (cutC p0) 0)) ((dAx (cutC p0))) ((oneV (cutC p0) (dAxP (cutC p0)) takL)))).length < 9223372036854775808) && decide (((tkD ((aArS (cutC p0) 0)) ((aArD (cutC p0) 0)) ((dAx (cutC p0))) ((oneV (cutC p0) (dAxP (cutC p0)) takL)))).length < 9223372036854775808) && decide (((tkS ((aArS (cutC p0) 0)) ((aArD (cutC p0) 0)) ((dAx (cutC p0))) ((oneV (cutC p0) (dAxP (cutC p0)) takL)))).length < 9223372036854775808) && decide (((tkD ((aArS (cutC p0) 0)) ((aArD (cutC p0) 0)) ((dAx (cutC p0))) ((oneV (cutC p0) (dAxP (cutC p0)) takL)))).length < 9223372036854775808) then
  (bif (decide (((tkS ((aArS (cutC p0) 0)) ((aArD (cutC p0) 0)) ((dAx (cutC p0))) ((oneV (cutC p0) (dAxP (cutC p0)) takL)))) = ((tkS ((aArS (cutC p0) 0)) ((aArD (cutC p0) 0)) ((dAx (cutC p0))) ((oneV (cutC p0) (dAxP (cutC p0)) takL))))) && decide (((tkD ((aArS (cutC p0) 0)) ((aArD (cutC p0) 0)) ((dAx (cutC p0))) ((oneV (cutC p0) (dAxP (cutC p0)) takL)))) = ((tkD ((aArS (cutC p0) 0)) ((aArD (cutC p0) 0)) ((dAx (cutC p0))) ((oneV (cutC p0) (dAxP (cutC p0)) takL)))))) then
  some ([.one ((.bool ((tkB ((aArS (cutC p0) 0)) ((aArD (cutC p0) 0)) ((dAx (cutC p0))) ((oneV (cutC p0) (dAxP (cutC p0)) takL))) == (tkB ((aArS (cutC p0) 0)) ((aArD (cutC p0) 0)) ((dAx (cutC p0))) ((oneV (cutC p0) (dAxP (cutC p0)) takL))))), false)], [])
  else
  some ([.one ((.bool false), false)], []))
  else
  none)
  else
  (bif decide (((aArS (cutC p0) 0)).length < 9223372036854775808) && decide (((aArD (cutC p0) 0)).length < 9223372036854775808) then
  (bif decide (((tkS ((aArS (cutC p0) 0)) ((aArD (cutC p0) 0)) ((dAx (cutC p0))) ((oneV (cutC p0) (dAxP (cutC p0)) takL)))).length < 9223372036854775808) && decide (((tkD ((aArS (cutC p0) 0)) ((aArD (cutC p0) 0)) ((dAx (cutC p0))) ((oneV (cutC p0) (dAxP (cutC p0)) takL)))).length < 9223372036854775808) && decide (((drS ((aArS (cutC p0) 0)) ((aArD (cutC p0) 0)) ((dAx (cutC p0))) ((oneV (cutC p0) (dAxP (cutC p0)) takL)))).length < 9223372036854775808) && decide (((drD ((aArS (cutC p0) 0)) ((aArD (cutC p0) 0)) ((dAx (cutC p0))) ((oneV (cutC p0) (dAxP (cutC p0)) takL)))).length < 9223372036854775808) then
  (bif (joB ((tkS ((aArS (cutC p0) 0)) ((aArD (cutC p0) 0)) ((dAx (cutC p0))) ((oneV (cutC p0) (dAxP (cutC p0)) takL)))) ((tkD ((aArS (cutC p0) 0)) ((aArD (cutC p0) 0)) ((dAx (cutC p0))) ((oneV (cutC p0) (dAxP (cutC p0)) takL)))) ((drS ((aArS (cutC p0) 0)) ((aArD (cutC p0) 0)) ((dAx (cutC p0))) ((oneV (cutC p0) (dAxP (cutC p0)) takL)))) ((drD ((aArS (cutC p0) 0)) ((aArD (cutC p0) 0)) ((dAx (cutC p0))) ((oneV (cutC p0) (dAxP (cutC p0)) takL)))) ((dAx (cutC p0)))) then
  (bif decide (((joS ((tkS ((aArS (cutC p0) 0)) ((aArD (cutC p0) 0)) ((dAx (cutC p0))) ((oneV (cutC p0) (dAxP (cutC p0)) takL)))) ((tkD ((aArS (cutC p0) 0)) ((aArD (cutC p0) 0)) ((dAx (cutC p0))) ((oneV (cutC p0) (dAxP (cutC p0)) takL)))) ((drS ((aArS (cutC p0) 0)) ((aArD (cutC p0) 0)) ((dAx (cutC p0))) ((oneV (cutC p0) (dAxP (cutC p0)) takL)))) ((drD ((aArS (cutC p0) 0)) ((aArD (cutC p0) 0)) ((dAx (cutC p0))) ((oneV (cutC p0) (dAxP (cutC p0)) takL)))) ((dAx (cutC p0))))).length < 9223372036854775808) && decide (((joD ((tkS ((aArS (cutC p0) 0)) ((aArD (cutC p0) 0)) ((dAx (cutC p0))) ((oneV (cutC p0) (dAxP (cutC p0)) takL)))) ((tkD ((aArS (cutC p0) 0)) ((aArD (cutC p0) 0)) ((dAx (cutC p0))) ((oneV (cutC p0) (dAxP (cutC p0)) takL)))) ((drS ((aArS (cutC p0) 0)) ((aArD (cutC p0) 0)) ((dAx (cutC p0))) ((oneV (cutC p0) (dAxP (cutC p0)) takL)))) ((drD ((aArS (cutC p0) 0)) ((aArD (cutC p0) 0)) ((dAx (cutC p0))) ((oneV (cutC p0) (dAxP (cutC p0)) takL)))) ((dAx (cutC p0))))).length < 9223372036854775808) && decide (((aArS (cutC p0) 0)).length < 9223372036854775808) && decide (((aArD (cutC p0) 0)).length < 9223372036854775808) then
  some ([.one ((.bool (decide (((joS ((tkS ((aArS (cutC p0) 0)) ((aArD (cutC p0) 0)) ((dAx (cutC p0))) ((oneV (cutC p0) (dAxP (cutC p0)) takL)))) ((tkD ((aArS (cutC p0) 0)) ((aArD (cutC p0) 0)) ((dAx (cutC p0))) ((oneV (cutC p0) (dAxP (cutC p0)) takL)))) ((drS ((aArS (cutC p0) 0)) ((aArD (cutC p0) 0)) ((dAx (cutC p0))) ((oneV (cutC p0) (dAxP (cutC p0)) takL)))) ((drD ((aArS (cutC p0) 0)) ((aArD (cutC p0) 0)) ((dAx (cutC p0))) ((oneV (cutC p0) (dAxP (cutC p0)) takL)))) ((dAx (cutC p0))))) = ((aArS (cutC p0) 0))) && decide (((joD ((tkS ((aArS (cutC p0) 0)) ((aArD (cutC p0) 0)) ((dAx (cutC p0))) ((oneV (cutC p0) (dAxP (cutC p0)) takL)))) ((tkD ((aArS (cutC p0) 0)) ((aArD (cutC p0) 0)) ((dAx (cutC p0))) ((oneV (cutC p0) (dAxP (cutC p0)) takL)))) ((drS ((aArS (cutC p0) 0)) ((aArD (cutC p0) 0)) ((dAx (cutC p0))) ((oneV (cutC p0) (dAxP (cutC p0)) takL)))) ((drD ((aArS (cutC p0) 0)) ((aArD (cutC p0) 0)) ((dAx (cutC p0))) ((oneV (cutC p0) (dAxP (cutC p0)) takL)))) ((dAx (cutC p0))))) = ((aArD (cutC p0) 0))))), false)], [])
  else
  none)
  else
  some ([.one ((.bool false), false)], []))
  else
  none)
  else
  none))))))
  else
  none)
  else
  none)
  else
  none)
  else
  none)) := by kernel_rfl
end laws_FnTakeAxis
theorem laws_FnTakeAxis.ok_of (hX : ∀ E ∈ laws_FnTakeAxis.X, CallSpec Try.prog E) (h : ∀ (bs : List Int), (bytesB bs) = true → ∃ fuel, runF Try.prog laws_FnTakeAxis.X laws_FnTakeAxis.I 0 fuel 8 Try.f8 [.d (.ints .u8 bs)] = some ([.one ((.bool true), false)], [])) : CallSpec Try.prog laws_FnTakeAxis.E :=
  callSpec_of (d := 0) hX (by kernel_rfl) laws_FnTakeAxis.I_ok (by kernel_rfl) (by kernel_rfl) (by kernel_rfl) (fun _ _ _ _ h => by dsimp only [laws_FnTakeAxis.E] at h; cases h) (fun xs hp => by
    dsimp only [laws_FnTakeAxis.E] at hp ⊢
    split at hp
    · exact h _ hp
    · cases hp)
theorem laws_FnTakeAxis.ok : CallSpec Try.prog laws_FnTakeAxis.E := laws_FnTakeAxis.ok_of (by simp [laws_FnTakeAxis.X, spec_DrawTakeAxis.ok, impl_TakeAxis.ok, spec_TakeAxis.ok, laws_equalArray.ok, impl_DropAxis.ok, impl_JoinAxis.ok]) fun bs h => by
  obtain ⟨F, hF⟩ : ∃ F : Nat, 4000 < F := ⟨4001, by omega⟩
  refine ⟨F, ?_⟩
  rw [laws_FnTakeAxis.e]
  by_cases hl : ((bs.length : Nat) : Int) > 1048576
  · rw [decide_eq_true hl]; rfl
  rw [decide_eq_false hl, cond_false, h, cond_true]
  have r0 := cut_ok h (p := 0) (by omega) (by omega)
  obtain ⟨a1, a2, _, _⟩ := aAr_bd r0 (by omega)
  obtain ⟨sh, hsh⟩ : ∃ x, aArS (cutC bs) 0 = x := ⟨_, rfl⟩
  obtain ⟨da, hda⟩ : ∃ x, aArD (cutC bs) 0 = x := ⟨_, rfl⟩
  obtain ⟨k, hk⟩ : ∃ x, dAx (cutC bs) = x := ⟨_, rfl⟩
  rw [hsh] at a1
  rw [hda] at a2
  have g1 := lt_of (xs := sh) (by omega)
  have g2 := lt_of (xs := da) (by omega)
  obtain ⟨n, hn⟩ : ∃ x, oneV (cutC bs) (dAxP (cutC bs)) takL = x := ⟨_, rfl⟩
  simp only [hsh, hda, hk, hn]
  have tl := tk_len sh da k n
  have h1 := lt_of (xs := tkS sh da k n) (by omega)
  have h2 := lt_of (xs := tkD sh da k n) (by omega)
  cases hb : tkB sh da k n with
  | false =>
    simp only [Bool.and_self, Bool.and_true, Bool.true_and, cond_true, cond_false, Bool.not_true, Bool.not_false, bne_self_eq_false, beq_self_eq_true, decide_true, eq_self, g1, g2, h1, h2]
  | true =>
    have hb' := hb
    simp only [tkB, Bool.and_eq_true] at hb'
    obtain ⟨j, rfl, hj, hv, ax, hd, hl⟩ := axB_inv hb'.1.1
    have hvs := (validA_inv hv).1
    by_cases n0 : n < 0
    · simp only [Bool.and_self, Bool.and_true, Bool.true_and, cond_true, cond_false, Bool.not_true, Bool.not_false, bne_self_eq_false, beq_self_eq_true, decide_true, eq_self, g1, g2, h1, h2, decide_eq_true n0]
    · by_cases n1 : n > ((lenN sh j : Nat) : Int)
      · rw [idx_nat hj]
        simp only [Bool.and_self, Bool.and_true, Bool.true_and, cond_true, cond_false, Bool.not_true, Bool.not_false, bne_self_eq_false, beq_self_eq_true, decide_true, eq_self, g1, g2, h1, h2, decide_eq_false n0, Option.bind_some, getD_get hj, ax.len, decide_eq_true n1]
      · obtain ⟨m, rfl⟩ : ∃ m : Nat, n = m := ⟨n.toNat, by omega⟩
        have hm : m ≤ lenN sh j := by omega
        have hLs := ax.len_le
        have hcb : cntB (m : Int) = true := hb'.1.2
        have t1 : tkS sh da (j : Int) (m : Int) = alS sh j (tkL (lenN sh j) m) := by simp only [tkS, hb, cond_true, lenK, Int.toNat_natCast]
        have t2 : tkD sh da (j : Int) (m : Int) = alA sh da j (tkL (lenN sh j) m) := by simp only [tkD, hb, cond_true, lenK, Int.toNat_natCast]
        have d0 : drB sh da (j : Int) (m : Int) = true := by simp only [drB, hb'.1.1, hcb, Bool.and_self]
        have d1 : drS sh da (j : Int) (m : Int) = alS sh j (drL (lenN sh j) m) := by simp only [drS, d0, cond_true, lenK, Int.toNat_natCast]
        have d2 : drD sh da (j : Int) (m : Int) = alA sh da j (drL (lenN sh j) m) := by simp only [drD, d0, cond_true, lenK, Int.toNat_natCast]
        have q1 : alS sh j (tkL (lenN sh j) m) = sh.set j (m : Int) := by simp only [alS, Int.toNat_natCast, tkL_length]; rfl
        have q2 : alS sh j (drL (lenN sh j) m) = sh.set j ((lenN sh j - m : Nat) : Int) := by simp only [alS, Int.toNat_natCast, drL_length]; rfl
        have w1 := valid_less (l := m) hvs hj hm
        have w2 := valid_less (l := lenN sh j - m) hvs hj (by omega)
        have va := al_valid (ls := tkL (lenN sh j) m) hv hj (by rw [q1]; exact w1)
        have vb := al_valid (ls := drL (lenN sh j) m) hv hj (by rw [q2]; exact w2)
        rw [q1] at va
        rw [q2] at vb
        have e1 : (sh.set j (m : Int)).getD j 0 = (m : Int) := by simp [hj]
        have e2 : (sh.set j ((lenN sh j - m : Nat) : Int)).getD j 0 = ((lenN sh j - m : Nat) : Int) := by simp [hj]
        have hS : joSh (sh.set j (m : Int)) (sh.set j ((lenN sh j - m : Nat) : Int)) j = sh := by
          unfold joSh
          rw [e1, e2, List.set_set, show (m : Int) + ((lenN sh j - m : Nat) : Int) = ((lenN sh j : Nat) : Int) by omega, set_len ax]
        have hjb := joB_of (axB_of va (by rw [List.length_set]; exact hj)) (axB_of vb (by rw [List.length_set]; exact hj)) (by rw [e2, List.set_set]) (by rw [hS]; exact hvs)
        obtain ⟨j2, hj2, o⟩ := joB_inv hjb
        obtain rfl : j = j2 := by omega
        have c1 : befN (sh.set j (m : Int)) j = befN sh j := bef_set
        have c2 : behN (sh.set j (m : Int)) j = behN sh j := beh_set
        have c3 : lenN (sh.set j (m : Int)) j = m := by rw [len_set hj, Int.toNat_natCast]
        have c4 : lenN (sh.set j ((lenN sh j - m : Nat) : Int)) j = lenN sh j - m := by rw [len_set hj, Int.toNat_natCast]
        have key : da = joN (sh.set j (m : Int)) (alA sh da j (tkL (lenN sh j) m)) (sh.set j ((lenN sh j - m : Nat) : Int)) (alA sh da j (drL (lenN sh j) m)) j := by
          refine jo_ext o ?_ ?_ ?_
          · rw [c1, c2, c3, c4, hd, show m + (lenN sh j - m) = lenN sh j by omega]
          · rw [c1, c2, c3, c4]
            intro b i p hb hi hp
            have := alA_get (sh := sh) (da := da) (k := j) (ls := tkL (lenN sh j) m) (b := b) (i := i) (m := p) hb (by rw [tkL_length]; exact hi) hp
            rw [tkL_length, tk_get (by exact hi)] at this
            simp only [tkP, decide_eq_false (p := (m : Int) < 0) (by omega), cond_false, Int.zero_add, Int.natAbs_natCast] at this
            rw [decide_eq_true (by omega), decide_eq_true (by omega)] at this
            simp only [Bool.and_self, cond_true, atV, decide_eq_true (p := (0 : Int) ≤ (i : Int)) (by omega), Int.toNat_natCast] at this
            rw [this, show m + (lenN sh j - m) = lenN sh j by omega]
          · rw [c1, c2, c3, c4]
            intro b i p hb hi hp
            have := alA_get (sh := sh) (da := da) (k := j) (ls := drL (lenN sh j) m) (b := b) (i := i) (m := p) hb (by rw [drL_length]; exact hi) hp
            rw [drL_length, dr_get (by exact hi)] at this
            simp only [Int.toNat_natCast, Int.natAbs_natCast, atV, decide_eq_true (p := (0 : Int) ≤ ((m + i : Nat) : Int)) (by omega), cond_true] at this
            rw [this, show m + (lenN sh j - m) = lenN sh j by omega]
        have z0 : joS (sh.set j (m : Int)) (alA sh da j (tkL (lenN sh j) m)) (sh.set j ((lenN sh j - m : Nat) : Int)) (alA sh da j (drL (lenN sh j) m)) (j : Int) = sh := by simp only [joS, hjb, cond_true, Int.toNat_natCast, hS]
        have z1 : joD (sh.set j (m : Int)) (alA sh da j (tkL (lenN sh j) m)) (sh.set j ((lenN sh j - m : Nat) : Int)) (alA sh da j (drL (lenN sh j) m)) (j : Int) = da := by simp only [joD, hjb, cond_true, Int.toNat_natCast]; exact key.symm
        have lv := validA_len va
        have lw := validA_len vb
        have g5 := lt_of (xs := sh.set j (m : Int)) (by omega)
        have g6 := lt_of (xs := alA sh da j (tkL (lenN sh j) m)) (by omega)
        have g7 := lt_of (xs := sh.set j ((lenN sh j - m : Nat) : Int)) (by omega)
        have g8 := lt_of (xs := alA sh da j (drL (lenN sh j) m)) (by omega)
        rw [idx_nat hj]
        simp only [Bool.and_self, Bool.and_true, Bool.true_and, cond_true, cond_false, Bool.not_true, Bool.not_false, bne_self_eq_false, beq_self_eq_true, decide_true, eq_self, g1, g2, g5, g6, g7, g8, decide_eq_false n0, Option.bind_some, getD_get hj, ax.len, decide_eq_false n1, t1, t2, d1, d2, q1, q2, hjb, z0, z1]

end Go.Ab
