import Derived.Test.YtmonjjdcebboiacEn1
import Derived.Test.YtmonjjdcebboiacProg
import Derived.Test.YtmonjjdcebboiacChecked
open Go Go.Ab Go.Proofs
set_option maxRecDepth 100000
set_option linter.unusedVariables false
set_option linter.unusedSimpArgs false
namespace Go.Ab
namespace laws_FnNeighboursOf
noncomputable def E : Entry := ⟨6, true, false, fun | [.d (.ints .u8 bs)] => bytesB bs | _ => false, fun | [.d (.ints .u8 bs)] => ([.one ((.bool true), false)], []) | _ => ([], []), fun _ => [], false, fun _ => none⟩
end laws_FnNeighboursOf
namespace laws_FnNeighboursOf
noncomputable def X : List Entry := [spec_DrawNeighboursOf.E, impl_NeighboursOf.E, spec_NeighboursOf.E, laws_equalArray.E, impl_DropAxis.E, impl_Combine.E]
noncomputable def I : List Inl := [⟨6, Try.f6, ⟨[16, 22, 28, 55, 57, 58], [], [], [(8, [0, 1, 3, 2, 4, 5, 6, 7, 8, 9, 10, 11])], [], []⟩⟩]
theorem I_ok : ∀ i ∈ I, Try.prog.funcs[i.f]? = some i.fn ∧ (i.fn.name == "runtime.NumGoroutine") = false := by
  intro i hi
  simp only [I, List.mem_cons, List.not_mem_nil, or_false] at hi
  subst hi
  exact ⟨by kernel_rfl, by kernel_rfl⟩
theorem e (fuel : Nat) (p0 : List Int) : runF Try.prog X I 0 fuel 6 Try.f6 [.d (.ints .u8 p0)] =
  (bif (decide ((((p0.length : Nat) : Int) : Int) > 1048576)) then
  some ([.one ((.bool true), false)], [])
  else
  (bif bytesB p0 then
  (bif decide (((avS (cutC p0) 2)).length < 9223372036854775808) && decide (((avD (cutC p0) 2)).length < 9223372036854775808) then
  (bif decide (((avS (cutC p0) 2)).length < 9223372036854775808) && decide (((avD (cutC p0) 2)).length < 9223372036854775808) then
  (bif decide (((nbS ((anyOpV (cutC p0) 0)) ((avS (cutC p0) 2)) ((avD (cutC p0) 2)))).length < 9223372036854775808) && decide (((nbD ((anyOpV (cutC p0) 0)) ((avS (cutC p0) 2)) ((avD (cutC p0) 2)))).length < 9223372036854775808) && decide (((nbS ((anyOpV (cutC p0) 0)) ((avS (cutC p0) 2)) ((avD (cutC p0) 2)))).length < 9223372036854775808) && decide (((nbD ((anyOpV (cutC p0) 0)) ((avS (cutC p0) 2)) ((avD (cutC p0) 2)))).length < 9223372036854775808) then
  (bif (!(decide (((nbS ((anyOpV (cutC p0) 0)) ((avS (cutC p0) 2)) ((avD (cutC p0) 2)))) = ((nbS ((anyOpV (cutC p0) 0)) ((avS (cutC p0) 2)) ((avD (cutC p0) 2))))) && decide (((nbD ((anyOpV (cutC p0) 0)) ((avS (cutC p0) 2)) ((avD (cutC p0) 2)))) = ((nbD ((anyOpV (cutC p0) 0)) ((avS (cutC p0) 2)) ((avD (cutC p0) 2))))))) then
  (bif decide (((nbS ((anyOpV (cutC p0) 0)) ((avS (cutC p0) 2)) ((avD (cutC p0) 2)))).length < 9223372036854775808) && decide (((nbD ((anyOpV (cutC p0) 0)) ((avS (cutC p0) 2)) ((avD (cutC p0) 2)))).length < 9223372036854775808) && decide (((nbS ((anyOpV (cutC p0) 0)) ((avS (cutC p0) 2)) ((avD (cutC p0) 2)))).length < 9223372036854775808) && decide (((nbD ((anyOpV (cutC p0) 0)) ((avS (cutC p0) 2)) ((avD (cutC p0) 2)))).length < 9223372036854775808) then
  (bif (decide (((nbS ((anyOpV (cutC p0) 0)) ((avS (cutC p0) 2)) ((avD (cutC p0) 2)))) = ((nbS ((anyOpV (cutC p0) 0)) ((avS (cutC p0) 2)) ((avD (cutC p0) 2))))) && decide (((nbD ((anyOpV (cutC p0) 0)) ((avS (cutC p0) 2)) ((avD (cutC p0) 2)))) = ((nbD ((anyOpV (cutC p0) 0)) ((avS (cutC p0) 2)) ((avD (cutC p0) 2)))))) then
  some ([.one ((.bool ((nbB ((anyOpV (cutC p0) 0)) ((avS (cutC p0) 2)) ((avD (cutC p0) 2))) == (nbB ((anyOpV (cutC p0) 0)) ((avS (cutC p0) 2)) ((avD (cutC p0) 2))))), false)], [])
  else
  some ([.one ((.bool false), false)], []))
  else
  none)
  else
  (bif (!((nbB ((anyOpV (cutC p0) 0)) ((avS (cutC p0) 2)) ((avD (cutC p0) 2))) == (nbB ((anyOpV (cutC p0) 0)) ((avS (cutC p0) 2)) ((avD (cutC p0) 2))))) then
  (bif decide (((nbS ((anyOpV (cutC p0) 0)) ((avS (cutC p0) 2)) ((avD (cutC p0) 2)))).length < 9223372036854775808) && decide (((nbD ((anyOpV (cutC p0) 0)) ((avS (cutC p0) 2)) ((avD (cutC p0) 2)))).length < 9223372036854775808) && decide (((nbS ((anyOpV (cutC p0) 0)) ((avS (cutC p0) 2)) ((avD (cutC p0) 2)))).length < 9223372036854775808) && decide (((nbD ((anyOpV (cutC p0) 0)) ((avS (cutC p0) 2)) ((avD (cutC p0) 2)))).length < 9223372036854775808) then
  (bif (decide (((nbS ((anyOpV (cutC p0) 0)) ((avS (cutC p0) 2)) ((avD (cutC p0) 2)))) = ((nbS ((anyOpV (cutC p0) 0)) ((avS (cutC p0) 2)) ((avD (cutC p0) 2))))) && decide (((nbD ((anyOpV (cutC p0) 0)) ((avS (cutC p0) 2)) ((avD (cutC p0) 2)))) = ((nbD ((anyOpV (cutC p0) 0)) ((avS (cutC p0) 2)) ((avD (cutC p0) 2)))))) then
  some ([.one ((.bool ((nbB ((anyOpV (cutC p0) 0)) ((avS (cutC p0) 2)) ((avD (cutC p0) 2))) == (nbB ((anyOpV (cutC p0) 0)) ((avS (cutC p0) 2)) ((avD (cutC p0) 2))))), false)], [])
  else
  some ([.one ((.bool false), false)], []))
  else
  none)
  else
  (bif (!(nbB ((anyOpV (cutC p0) 0)) ((avS (cutC p0) 2)) ((avD (cutC p0) 2)))) then
  (bif decide (((nbS ((anyOpV (cutC p0) 0)) ((avS (cutC p0) 2)) ((avD (cutC p0) 2)))).length < 9223372036854775808) && decide (((nbD ((anyOpV (cutC p0) 0)) ((avS (cutC p0) 2)) ((avD (cutC p0) 2)))).length < 9223372036854775808) && decide (((nbS ((anyOpV (cutC p0) 0)) ((avS (cutC p0) 2)) ((avD (cutC p0) 2)))).length < 9223372036854775808) && decide (((nbD ((anyOpV (cutC p0) 0)) ((avS (cutC p0) 2)) ((avD (cutC p0) 2)))).length < 9223372036854775808) then
  (bif (decide (((nbS ((anyOpV (cutC p0) 0)) ((avS (cutC p0) 2)) ((avD (cutC p0) 2)))) = ((nbS ((anyOpV (cutC p0) 0)) ((avS (cutC p0) 2)) ((avD (cutC p0) 2))))) && decide (((nbD ((anyOpV (cutC p0) 0)) ((avS (cutC p0) 2)) ((avD (cutC p0) 2)))) = ((nbD ((anyOpV (cutC p0) 0)) ((avS (cutC p0) 2)) ((avD (cutC p0) 2)))))) then
  some ([.one ((.bool ((nbB ((anyOpV (cutC p0) 0)) ((avS (cutC p0) 2)) ((avD (cutC p0) 2))) == (nbB ((anyOpV (cutC p0) 0)) ((avS (cutC p0) 2)) ((avD (cutC p0) 2))))), false)], [])
  else
  some ([.one ((.bool false), false)], []))
  else
  none)
  else
  (bif decide (((avS (cutC p0) 2)).length < 9223372036854775808) && decide (((avD (cutC p0) 2)).length < 9223372036854775808) then
  (bif decide (((avS (cutC p0) 2)).length < 9223372036854775808) && decide (((avD (cutC p0) 2)).length < 9223372036854775808) then
  (bif decide (((drS ((avS (cutC p0) 2)) ((avD (cutC p0) 2)) 0 ((-1)))).length < 9223372036854775808) && decide (((drD ((avS (cutC p0) 2)) ((avD (cutC p0) 2)) 0 ((-1)))).length < 9223372036854775808) && decide (((drS ((avS (cutC p0) 2)) ((avD (cutC p0) 2)) 0 1)).length < 9223372036854775808) && decide (((drD ((avS (cutC p0) 2)) ((avD (cutC p0) 2)) 0 1)).length < 9223372036854775808) then
  (bif (comB ((anyOpV (cutC p0) 0)) ((drS ((avS (cutC p0) 2)) ((avD (cutC p0) 2)) 0 ((-1)))) ((drD ((avS (cutC p0) 2)) ((avD (cutC p0) 2)) 0 ((-1)))) ((drS ((avS (cutC p0) 2)) ((avD (cutC p0) 2)) 0 1)) ((drD ((avS (cutC p0) 2)) ((avD (cutC p0) 2)) 0 1))) then
  (bif decide (((comS ((anyOpV (cutC p0) 0)) ((drS ((avS (cutC p0) 2)) ((avD (cutC p0) 2)) 0 ((-1)))) ((drD ((avS (cutC p0) 2)) ((avD (cutC p0) 2)) 0 ((-1)))) ((drS ((avS (cutC p0) 2)) ((avD (cutC p0) 2)) 0 1)) ((drD ((avS (cutC p0) 2)) ((avD (cutC p0) 2)) 0 1)))).length < 9223372036854775808) && decide (((comD ((anyOpV (cutC p0) 0)) ((drS ((avS (cutC p0) 2)) ((avD (cutC p0) 2)) 0 ((-1)))) ((drD ((avS (cutC p0) 2)) ((avD (cutC p0) 2)) 0 ((-1)))) ((drS ((avS (cutC p0) 2)) ((avD (cutC p0) 2)) 0 1)) ((drD ((avS (cutC p0) 2)) ((avD (cutC p0) 2)) 0 1)))).length < 9223372036854775808) && decide (((nbS ((anyOpV (cutC p0) 0)) ((avS (cutC p0) 2)) ((avD (cutC p0) 2)))).length < 9223372036854775808) && decide (((nbD ((anyOpV (cutC p0) 0)) ((avS (cutC p0) 2)) ((avD (cutC p0) 2)))).length < 9223372036854775808) then
  some ([.one ((.bool (decide (((comS ((anyOpV (cutC p0) 0)) ((drS ((avS (cutC p0) 2)) ((avD (cutC p0) 2)) 0 ((-1)))) ((drD ((avS (cutC p0) 2)) ((avD (cutC p0) 2)) 0 ((-1)))) ((drS ((avS (cutC p0) 2)) ((avD (cutC p0) 2)) 0 1)) ((drD ((avS (cutC p0) 2)) ((avD (cutC p0) 2)) 0 1)))) = ((nbS ((anyOpV (cutC p0) 0)) ((avS (cutC p0) 2)) ((avD (cutC p0) 2))))) && decide (((comD ((anyOpV (cutC p0) 0)) ((drS ((avS (cutC p0) 2)) ((avD (cutC p0) 2)) 0 ((-1)))) ((drD ((avS (cutC p0) 2)) ((avD (cutC p0) 2)) 0 ((-1)))) ((drS ((avS (cutC p0) 2)) ((avD (cutC p0) 2)) 0 1)) ((drD ((avS (cutC p0) 2)) ((avD (cutC p0) 2)) 0 1)))) = ((nbD ((anyOpV (cutC p0) 0)) ((avS (cutC p0) 2)) ((avD (cutC p0) 2))))))), false)], [])
  else
  none)
  else
  some ([.one ((.bool false), false)], []))
  else
  none)
  else
  none)
  else
  none))))
  else
  none)
  else
  none)
  else
  none)
  else
  none)) := by kernel_rfl
end laws_FnNeighboursOf
theorem laws_FnNeighboursOf.ok_of (hX : ∀ E ∈ laws_FnNeighboursOf.X, CallSpec Try.prog E) (h : ∀ (bs : List Int), (bytesB bs) = true → ∃ fuel, runF Try.prog laws_FnNeighboursOf.X laws_FnNeighboursOf.I 0 fuel 6 Try.f6 [.d (.ints .u8 bs)] = some ([.one ((.bool true), false)], [])) : CallSpec Try.prog laws_FnNeighboursOf.E :=
  callSpec_of (d := 0) hX (by kernel_rfl) laws_FnNeighboursOf.I_ok (by kernel_rfl) (by kernel_rfl) (by kernel_rfl) (fun _ _ _ _ h => by dsimp only [laws_FnNeighboursOf.E] at h; cases h) (fun xs hp => by
    dsimp only [laws_FnNeighboursOf.E] at hp ⊢
    split at hp
    · exact h _ hp
    · cases hp)
theorem laws_FnNeighboursOf.ok : CallSpec Try.prog laws_FnNeighboursOf.E := laws_FnNeighboursOf.ok_of (by simp [laws_FnNeighboursOf.X, spec_DrawNeighboursOf.ok, impl_NeighboursOf.ok, spec_NeighboursOf.ok, laws_equalArray.ok, impl_DropAxis.ok, impl_Combine.ok]) fun bs h => by
  obtain ⟨F, hF⟩ : ∃ F : Nat, 4000 < F := ⟨4001, by omega⟩
  refine ⟨F, ?_⟩
  rw [laws_FnNeighboursOf.e]
  by_cases hl : ((bs.length : Nat) : Int) > 1048576
  · rw [decide_eq_true hl]; rfl
  rw [decide_eq_false hl, cond_false, h, cond_true]
  have r0 := cut_ok h (p := 0) (by omega) (by omega)
  have r2 := rd_le (q := 2) r0 (by omega) (by omega)
  obtain ⟨a1, a2, a3, a4⟩ := av_bd r2 (by omega)
  obtain ⟨sh, hsh⟩ : ∃ x, avS (cutC bs) 2 = x := ⟨_, rfl⟩
  obtain ⟨da, hda⟩ : ∃ x, avD (cutC bs) 2 = x := ⟨_, rfl⟩
  obtain ⟨op, hop⟩ : ∃ x, anyOpV (cutC bs) 0 = x := ⟨_, rfl⟩
  rw [hsh] at a1
  rw [hda] at a2
  have g1 := lt_of (xs := sh) (by omega)
  have g2 := lt_of (xs := da) (by omega)
  have w := nb_len op sh da
  have g3 := lt_of (xs := nbS op sh da) (by omega)
  have g4 := lt_of (xs := nbD op sh da) (by omega)
  simp only [hsh, hda, hop]
  cases hb : nbB op sh da with
  | false => simp only [Bool.and_self, Bool.and_true, Bool.true_and, cond_true, cond_false, Bool.not_true, Bool.not_false, bne_self_eq_false, beq_self_eq_true, decide_true, eq_self, g1, g2, g3, g4]
  | true =>
    have hb' := hb
    simp only [nbB, Bool.and_eq_true, decide_eq_true_eq] at hb'
    obtain ⟨⟨ho, hvc⟩, h0⟩ := hb'
    obtain ⟨hv, rfl, hl, ha⟩ := vcB_inv hvc
    have hvo := vcB_vec hvc
    have s1 : nbS op [((da.length : Nat) : Int)] da = [((da.length - 1 : Nat) : Int)] := by simp only [nbS, hb, cond_true]
    have s2 : nbD op [((da.length : Nat) : Int)] da = nbN op da := by simp only [nbD, hb, cond_true]
    obtain ⟨d1, d2⟩ := dr_vec hv 1 rfl
    obtain ⟨d3, d4⟩ := dr_vec hv (-1) rfl
    have q1 : ((1 : Int)).natAbs = 1 := rfl
    have q2 : ((-1 : Int)).natAbs = 1 := rfl
    have q3 : ((1 : Int)).toNat = 1 := rfl
    have q4 : ((-1 : Int)).toNat = 0 := rfl
    rw [q1] at d1 d2
    rw [q3] at d2
    rw [q2] at d3 d4
    rw [q4] at d4
    have v1 : vecOk (tab (da.length - 1) fun i => da.getD (0 + i) 0) = true := vec_part (by rw [tab_length]; omega) (tab_mem' (P := fun x => -1000000 ≤ x ∧ x ≤ 1000000) fun i _ => getD_all (P := fun x => -1000000 ≤ x ∧ x ≤ 1000000) (by omega) (allB_iff.1 ha) _)
    have v2 : vecOk (tab (da.length - 1) fun i => da.getD (1 + i) 0) = true := vec_part (by rw [tab_length]; omega) (tab_mem' (P := fun x => -1000000 ≤ x ∧ x ≤ 1000000) fun i _ => getD_all (P := fun x => -1000000 ≤ x ∧ x ≤ 1000000) (by omega) (allB_iff.1 ha) _)
    obtain ⟨c1, c2, c3⟩ := com_vec (op := op) ho (tab_length (da.length - 1) fun i => da.getD (0 + i) 0) (tab_length (da.length - 1) fun i => da.getD (1 + i) 0) (by omega) v1 v2
    have ec : (tab (da.length - 1) fun i => operF op ((tab (da.length - 1) fun i => da.getD (0 + i) 0).getD i 0) ((tab (da.length - 1) fun i => da.getD (1 + i) 0).getD i 0)) = nbN op da := by
      unfold nbN
      exact tab_congr fun i hi => by rw [tab_getD hi, tab_getD hi, Nat.zero_add, Nat.add_comm 1 i]
    rw [ec] at c3
    rw [s1] at g3
    rw [s2] at g4
    have g5 := lt_of (xs := tab (da.length - 1) fun i => da.getD (0 + i) 0) (by rw [tab_length]; omega)
    have g6 := lt_of (xs := tab (da.length - 1) fun i => da.getD (1 + i) 0) (by rw [tab_length]; omega)
    rw [d1, d2, d3, d4, s1, s2, c1, c2, c3]
    simp only [Bool.and_self, Bool.and_true, Bool.true_and, cond_true, cond_false, Bool.not_true, Bool.not_false, bne_self_eq_false, beq_self_eq_true, decide_true, eq_self, g1, g2, g3, g4, g5, g6]

namespace impl_NeutralOf
noncomputable def E : Entry := ⟨95, true, false, fun | [.d (.int .i64 op)] => true | _ => false, fun | [.d (.int .i64 op)] => ([.one ((.int .i64 (neuV op)), false)], []) | _ => ([], []), fun _ => [], false, fun _ => none⟩
end impl_NeutralOf
namespace impl_NeutralOf
noncomputable def X : List Entry := []
noncomputable def I : List Inl := [⟨95, Try.f95, ⟨[], [], [], [], [], []⟩⟩]
theorem I_ok : ∀ i ∈ I, Try.prog.funcs[i.f]? = some i.fn ∧ (i.fn.name == "runtime.NumGoroutine") = false := by
  intro i hi
  simp only [I, List.mem_cons, List.not_mem_nil, or_false] at hi
  subst hi
  exact ⟨by kernel_rfl, by kernel_rfl⟩
theorem e (fuel : Nat) (p0 : Int) : runF Try.prog X I 0 fuel 95 Try.f95 [.d (.int .i64 p0)] =
  (bif ((p0 : Int) == 3) then
  some ([.one ((.int .i64 1), false)], [])
  else
  (bif ((p0 : Int) == 6) then
  some ([.one ((.int .i64 1), false)], [])
  else
  (bif ((p0 : Int) == 4) then
  some ([.one ((.int .i64 1000000), false)], [])
  else
  (bif ((p0 : Int) == 5) then
  some ([.one ((.int .i64 (-1000000)), false)], [])
  else
  some ([.one ((.int .i64 0), false)], []))))) := by kernel_rfl
end impl_NeutralOf
theorem impl_NeutralOf.ok_of (hX : ∀ E ∈ impl_NeutralOf.X, CallSpec Try.prog E) (h : ∀ (op : Int), (true) = true → ∃ fuel, runF Try.prog impl_NeutralOf.X impl_NeutralOf.I 0 fuel 95 Try.f95 [.d (.int .i64 op)] = some ([.one ((.int .i64 (neuV op)), false)], [])) : CallSpec Try.prog impl_NeutralOf.E :=
  callSpec_of (d := 0) hX (by kernel_rfl) impl_NeutralOf.I_ok (by kernel_rfl) (by kernel_rfl) (by kernel_rfl) (fun _ _ _ _ h => by dsimp only [impl_NeutralOf.E] at h; cases h) (fun xs hp => by
    dsimp only [impl_NeutralOf.E] at hp ⊢
    split at hp
    · exact h _ hp
    · cases hp)
theorem impl_NeutralOf.ok : CallSpec Try.prog impl_NeutralOf.E := impl_NeutralOf.ok_of (by simp [impl_NeutralOf.X]) fun op _ => ⟨0, by
  rw [impl_NeutralOf.e]
  unfold neuV
  cases ho : opOk op with
  | true => rcases opOk_cases ho with rfl | rfl | rfl | rfl | rfl | rfl | rfl | rfl <;> rfl
  | false =>
    have h := opOk_no ho
    rw [show (op == 3) = false by simp; omega, show (op == 6) = false by simp; omega, show (op == 4) = false by simp; omega, show (op == 5) = false by simp; omega]
    rfl⟩

namespace impl_foldRight_int_int
noncomputable def E : Entry := ⟨96, true, false, fun | [.d (.ints .i64 xs), .d (.int .i64 s), .d (.fn false dom G)] => decide (xs.length < 9223372036854775808) && fdB dom G xs s | _ => false, fun | [.d (.ints .i64 xs), .d (.int .i64 s), .d (.fn false dom G)] => ([.one ((.int .i64 (foldW G xs s)), false)], []) | _ => ([], []), fun _ => [], false, fun _ => none⟩
end impl_foldRight_int_int
namespace impl_foldRight_int_int
noncomputable def X : List Entry := []
noncomputable def I : List Inl := [⟨96, Try.f96, ⟨[], [(1, [1, 2, 3, 7, 8, 9, 10, 11, 12, 13, 14, 15, 16, 17])], [], [], [], []⟩⟩, ⟨109, Try.f109, ⟨[], [], [(1, [1])], [], [], []⟩⟩, ⟨115, Try.f115, ⟨[], [(1000001, [2, 4, 5, 6, 7, 8, 9, 10, 11, 12, 13, 14, 15, 16, 17, 18])], [], [], [], []⟩⟩]
theorem I_ok : ∀ i ∈ I, Try.prog.funcs[i.f]? = some i.fn ∧ (i.fn.name == "runtime.NumGoroutine") = false := by
  intro i hi
  simp only [I, List.mem_cons, List.not_mem_nil, or_false] at hi
  rcases hi with rfl | rfl | rfl
  all_goals exact ⟨by kernel_rfl, by kernel_rfl⟩
noncomputable abbrev L0 (fuel n : Nat) (s : St) (k : Kont) := lAt Try.prog X I fuel true 3 false 115 (bodyOf Try.f115) [1, 0] n s k
noncomputable abbrev k0  (fuel : Nat) : Kont := (kAt Try.prog X I fuel true 3 false 115 (bodyOf Try.f115) [1, 0] [] (endFn Try.prog Try.f115 18 (kRange (kAt Try.prog X I fuel true 4 false 96 (bodyOf Try.f96) [1, 0, 1, 0] [] (endK Try.prog Try.f96)))))
noncomputable def t0 (p0 : List Int) (p2d : List Q → Bool) (p2g : List Q → Int) (x0q1 : Int) (x0q6 : Int) : St := ⟨[(.yld 1000000001), (.imm (.pbox [(.ints .i64 p0)])), .dead, (.imm (.int .i64 x0q1)), .dead, .dead, .dead, .dead, .dead, .dead, .dead, .dead, .dead, .dead, .dead, .dead, .dead, .dead, .dead], hOf [(1000000000, .dfr), (1000000001, (.loop 96 [(.imm (.ints .i64 p0)), .dead, .dead, .dead, (.ptr 1000000002 0 0), (.ptr 1000000003 0 0), (.imm (.int .i64 0)), .dead, .dead, (.imm (.ints .i64 p0)), (.imm (.clo 115 [(.pbox [(.ints .i64 p0)])])), .dead, .dead, .dead, .dead, .dead, .dead, .dead] [11, 12] (cAt (bodyOf Try.f96) [1, 0, 1, 0, 0]) (cAt (bodyOf Try.f96) [1, 0, 1, 0, 1]) .ready)), (1000000002, (.box [(.imm (.int .i64 x0q6))])), (1000000003, (.box [(.imm (.fn false p2d p2g))]))], [(.imm (.ints .i64 p0)), .dead, .dead, .dead, (.ptr 1000000002 0 0), (.ptr 1000000003 0 0), (.imm (.int .i64 0)), .dead, .dead, (.imm (.ints .i64 p0)), (.imm (.clo 115 [(.pbox [(.ints .i64 p0)])])), .dead, .dead, .dead, .dead, .dead, .dead, .dead, (.tup [(.dfr 1000000000)]), (.yld 1000000001)], []⟩
theorem e (fuel : Nat) (p0 : List Int) (p1 : Int) (p2d : List Q → Bool) (p2g : List Q → Int) : runF Try.prog X I 4 fuel 96 Try.f96 [.d (.ints .i64 p0), .d (.int .i64 p1), .d (.fn false p2d p2g)] =
  L0 fuel fuel (t0 p0 p2d p2g ((IntKind.wrap .i64 (((p0.length : Nat) : Int) - 1))) p1) (k0  fuel) := by kernel_rfl
theorem s0 (fuel n0 : Nat) (p0 : List Int) (p2d : List Q → Bool) (p2g : List Q → Int) (x0q1 : Int) (x0q6 : Int) : L0 fuel (n0 + 1) (t0 p0 p2d p2g x0q1 x0q6) (k0  fuel) =
  (bif (decide ((x0q1 : Int) ≥ 0)) then
  (idx x0q1 p0.length).bind fun j5 =>
  (p0[j5]?).bind fun v6 =>
  (bif (p2d [Q.i v6, Q.i x0q6]) then
  L0 fuel n0 (t0 p0 p2d p2g ((IntKind.wrap .i64 (x0q1 - 1))) ((p2g [Q.i v6, Q.i x0q6]))) (k0  fuel)
  else
  none)
  else
  some ([.one ((.int .i64 x0q6), false)], [])) := by kernel_rfl
end impl_foldRight_int_int
theorem impl_foldRight_int_int.ok_of (hX : ∀ E ∈ impl_foldRight_int_int.X, CallSpec Try.prog E) (h : ∀ (xs : List Int) (s : Int) (dom : List Q → Bool) (G : List Q → Int), (decide (xs.length < 9223372036854775808) && fdB dom G xs s) = true → ∃ fuel, runF Try.prog impl_foldRight_int_int.X impl_foldRight_int_int.I 4 fuel 96 Try.f96 [.d (.ints .i64 xs), .d (.int .i64 s), .d (.fn false dom G)] = some ([.one ((.int .i64 (foldW G xs s)), false)], [])) : CallSpec Try.prog impl_foldRight_int_int.E :=
  callSpec_of (d := 4) hX (by kernel_rfl) impl_foldRight_int_int.I_ok (by kernel_rfl) (by kernel_rfl) (by kernel_rfl) (fun _ _ _ _ h => by dsimp only [impl_foldRight_int_int.E] at h; cases h) (fun xs hp => by
    dsimp only [impl_foldRight_int_int.E] at hp ⊢
    split at hp
    · exact h _ _ _ _ hp
    · cases hp)
theorem impl_foldRight_int_int.ok : CallSpec Try.prog impl_foldRight_int_int.E := impl_foldRight_int_int.ok_of (by simp [impl_foldRight_int_int.X]) fun xs s dom G h => ⟨xs.length + 1, by
  simp only [Bool.and_eq_true, decide_eq_true_eq] at h
  rw [impl_foldRight_int_int.e, wS (by omega) (by omega), show ((xs.length : Nat) : Int) - 1 = ((xs.length : Nat) : Int) - 1 - ((0 : Nat) : Int) by omega]
  have hd : ∀ i, i < xs.length → fdB dom G (xs.drop i) s = true := by
    intro i hi
    clear hi
    induction i with
    | zero => simpa using h.2
    | succ i ih =>
      by_cases hl : i < xs.length
      · rw [dropS hl] at ih
        simp only [fdB, Bool.and_eq_true] at ih
        exact ih.1
      · rw [dropE (by omega)]; rfl
  refine run_loop (N := xs.length) (fun n j acc => impl_foldRight_int_int.L0 (xs.length + 1) n (impl_foldRight_int_int.t0 xs dom G (((xs.length : Nat) : Int) - 1 - (j : Int)) acc) (impl_foldRight_int_int.k0 (xs.length + 1))) (fun j acc => acc = foldW G (xs.drop (xs.length - j)) s) ?_ ?_ (xs.length + 1) 0 _ (by omega) (by omega) (by simp [foldW])
  · intro n acc ho
    rw [impl_foldRight_int_int.s0, decide_eq_false (by omega), ho, Nat.sub_self, List.drop_zero]
    rfl
  · intro n j acc hj ho
    obtain ⟨k, hk⟩ : ∃ k, xs.length - j = k + 1 := ⟨xs.length - j - 1, by omega⟩
    have hkl : k < xs.length := by omega
    have e1 : ((xs.length : Nat) : Int) - 1 - (j : Int) = (k : Int) := by omega
    have hdk := hd k hkl
    rw [dropS hkl] at hdk
    simp only [fdB, Bool.and_eq_true] at hdk
    have hg : xs.getD k 0 = xs[k] := by simp [hkl]
    rw [e1, impl_foldRight_int_int.s0, decide_eq_true (by omega), idx_nat hkl, wS (by omega) (by omega)]
    simp only [cond_true, Option.bind_some, getD_get hkl]
    rw [ho, hk, hg, hdk.2, cond_true]
    refine ⟨_, ?_, by rw [show ((xs.length : Nat) : Int) - 1 - ((j + 1 : Nat) : Int) = (k : Int) - 1 by omega]⟩
    rw [show xs.length - (j + 1) = k by omega, dropS hkl]
    rfl⟩

namespace impl_reductionOf_1
noncomputable def E : Entry := ⟨94, true, false, fun | [.d (.ints .i64 xs), .d (.pbox [(.int .i64 op)]), .d (.pbox [(.fn false dom G)])] => rdB dom G xs | _ => false, fun | [.d (.ints .i64 xs), .d (.pbox [(.int .i64 op)]), .d (.pbox [(.fn false dom G)])] => ([.one ((.int .i64 (redG op G xs)), false)], []) | _ => ([], []), fun _ => [], false, fun | [(.pbox [(.int .i64 op)]), (.pbox [(.fn false dom G)])] => some (false, (qlB dom G), (qlv (redG op G))) | _ => none⟩
end impl_reductionOf_1
namespace impl_reductionOf_1
noncomputable def X : List Entry := [impl_NeutralOf.E, impl_foldRight_int_int.E]
noncomputable def I : List Inl := [⟨94, Try.f94, ⟨[], [], [], [(4, [0, 1, 3, 4, 2, 5, 6, 7, 8, 9])], [], []⟩⟩]
theorem I_ok : ∀ i ∈ I, Try.prog.funcs[i.f]? = some i.fn ∧ (i.fn.name == "runtime.NumGoroutine") = false := by
  intro i hi
  simp only [I, List.mem_cons, List.not_mem_nil, or_false] at hi
  subst hi
  exact ⟨by kernel_rfl, by kernel_rfl⟩
theorem e (fuel : Nat) (p0 : List Int) (f0q0 : Int) (f1q0d : List Q → Bool) (f1q0g : List Q → Int) : runF Try.prog X I 0 fuel 94 Try.f94 [.d (.ints .i64 p0), .d (.pbox [(.int .i64 f0q0)]), .d (.pbox [(.fn false f1q0d f1q0g)])] =
  (bif (decide (((IntKind.wrap .i64 (((p0.length : Nat) : Int) - 1)) : Int) < 0)) then
  some ([.one ((.int .i64 (neuV f0q0)), false)], [])
  else
  (cutEnds p0.length (none) (some (.imm (.int .i64 (IntKind.wrap .i64 (((p0.length : Nat) : Int) - 1)))))).bind fun cq1 =>
  (idx (IntKind.wrap .i64 (((p0.length : Nat) : Int) - 1)) p0.length).bind fun j2 =>
  (p0[j2]?).bind fun v3 =>
  (bif decide ((((p0.drop cq1.1).take (cq1.2 - cq1.1))).length < 9223372036854775808) && fdB f1q0d f1q0g (((p0.drop cq1.1).take (cq1.2 - cq1.1))) v3 then
  some ([.one ((.int .i64 (foldW f1q0g (((p0.drop cq1.1).take (cq1.2 - cq1.1))) v3)), false)], [])
  else
  none)) := by kernel_rfl
end impl_reductionOf_1
theorem impl_reductionOf_1.ok_of (hX : ∀ E ∈ impl_reductionOf_1.X, CallSpec Try.prog E) (hfn : ∀ ds rb dom G, impl_reductionOf_1.E.fnOf ds = some (rb, dom, G) → ∀ qs, dom qs = true → impl_reductionOf_1.E.m ((qs.map fun q => .d q.d) ++ ds.map .d) = some ([.one (fnD rb (G qs), false)], [])) (h : ∀ (xs : List Int) (op : Int) (dom : List Q → Bool) (G : List Q → Int), (rdB dom G xs) = true → ∃ fuel, runF Try.prog impl_reductionOf_1.X impl_reductionOf_1.I 0 fuel 94 Try.f94 [.d (.ints .i64 xs), .d (.pbox [(.int .i64 op)]), .d (.pbox [(.fn false dom G)])] = some ([.one ((.int .i64 (redG op G xs)), false)], [])) : CallSpec Try.prog impl_reductionOf_1.E :=
  callSpec_of (d := 0) hX (by kernel_rfl) impl_reductionOf_1.I_ok (by kernel_rfl) (by kernel_rfl) (by kernel_rfl) hfn (fun xs hp => by
    dsimp only [impl_reductionOf_1.E] at hp ⊢
    split at hp
    · exact h _ _ _ _ hp
    · cases hp)
theorem impl_reductionOf_1.ok : CallSpec Try.prog impl_reductionOf_1.E := impl_reductionOf_1.ok_of (by simp [impl_reductionOf_1.X, impl_NeutralOf.ok, impl_foldRight_int_int.ok]) (fun ds rb dom G h qs hq => by
  dsimp only [impl_reductionOf_1.E] at h
  split at h
  case h_2 => cases h
  cases h
  match qs, hq with
  | [.l xs], hq =>
    show Entry.m impl_reductionOf_1.E [.d (.ints .i64 xs), _, _] = _
    simp only [Entry.m, impl_reductionOf_1.E]
    rw [show rdB _ _ xs = true from hq]
    rfl) fun xs op dom G h => ⟨0, by
  simp only [rdB, Bool.and_eq_true, decide_eq_true_eq] at h
  rw [impl_reductionOf_1.e, wS (by omega) (by omega)]
  unfold redG
  by_cases h0 : xs.length = 0
  · rw [decide_eq_true (by omega), decide_eq_true h0]; rfl
  · obtain ⟨k, hk⟩ : ∃ k, xs.length = k + 1 := ⟨xs.length - 1, by omega⟩
    have e1 : ((xs.length : Nat) : Int) - 1 = (k : Int) := by omega
    have hkl : k < xs.length := by omega
    have e2 : xs.length - 1 = k := by omega
    rw [e2] at h
    rw [decide_eq_false (by omega), decide_eq_false h0, cond_false, e1, cut_hi (by omega), idx_nat hkl]
    simp only [Option.bind_some, getD_get hkl, List.drop_zero, Nat.sub_zero]
    rw [decide_eq_true (by simp; omega), h.2, e2]
    rfl⟩

namespace impl_reductionOf
noncomputable def E : Entry := ⟨62, true, false, fun | [.d (.int .i64 op)] => true | _ => false, fun | [.d (.int .i64 op)] => ([.one (.nilf, false)], []) | _ => ([], []), fun | [.d (.int .i64 op)] => [(opOk op, ([.one ((.fn false ql ((qlv (redF op)))), false)], []))] | _ => [], false, fun _ => none⟩
end impl_reductionOf
namespace impl_reductionOf
noncomputable def X : List Entry := [impl_functionOfTwo_f.E, impl_reductionOf_1.E]
noncomputable def I : List Inl := [⟨62, Try.f62, ⟨[], [], [(4, [1, 3])], [], [], []⟩⟩]
theorem I_ok : ∀ i ∈ I, Try.prog.funcs[i.f]? = some i.fn ∧ (i.fn.name == "runtime.NumGoroutine") = false := by
  intro i hi
  simp only [I, List.mem_cons, List.not_mem_nil, or_false] at hi
  subst hi
  exact ⟨by kernel_rfl, by kernel_rfl⟩
theorem e (fuel : Nat) (p0 : Int) : runF Try.prog X I 0 fuel 62 Try.f62 [.d (.int .i64 p0)] =
  (bif opOk p0 then
  some ([.one ((.fn false ((qlB q2 ((q2v (operF p0))))) ((qlv (redG p0 ((q2v (operF p0))))))), false)], [])
  else
  some ([.one (.nilf, false)], [])) := by kernel_rfl
end impl_reductionOf
theorem impl_reductionOf.ok_of (hX : ∀ E ∈ impl_reductionOf.X, CallSpec Try.prog E) (h : ∀ (op : Int), (true) = true → ∃ fuel, runF Try.prog impl_reductionOf.X impl_reductionOf.I 0 fuel 62 Try.f62 [.d (.int .i64 op)] = some (bif opOk op then ([.one ((.fn false ql ((qlv (redF op)))), false)], []) else ([.one (.nilf, false)], []))) : CallSpec Try.prog impl_reductionOf.E :=
  callSpec_of (d := 0) hX (by kernel_rfl) impl_reductionOf.I_ok (by kernel_rfl) (by kernel_rfl) (by kernel_rfl) (fun _ _ _ _ h => by dsimp only [impl_reductionOf.E] at h; cases h) (fun xs hp => by
    dsimp only [impl_reductionOf.E] at hp ⊢
    split at hp
    · exact h _ hp
    · cases hp)
theorem impl_reductionOf.ok : CallSpec Try.prog impl_reductionOf.E := impl_reductionOf.ok_of (by simp [impl_reductionOf.X, impl_functionOfTwo_f.ok, impl_reductionOf_1.ok]) fun op _ => ⟨0, by
  rw [impl_reductionOf.e, qlB_q2, redG_eq]
  cases opOk op <;> rfl⟩

namespace impl_layoutOf_v
noncomputable def E : Entry := ⟨63, false, false, fun | [.d (.ints .i64 sh)] => decide (sh.length < 9223372036854775808) && validS sh | _ => false, fun | [.d (.ints .i64 sh)] => ([.agg [(.junk, false), ((.int .i64 (strd sh 0)), false), ((.int .i64 (strd sh 1)), false), ((.int .i64 (strd sh 2)), false), ((.int .i64 (volW sh)), false)], .one ((.bool true), false)], []) | _ => ([], []), fun _ => [], true, fun _ => none⟩
end impl_layoutOf_v
theorem impl_layoutOf_v.ok : CallSpec Try.prog impl_layoutOf_v.E := CallSpec.le impl_layoutOf_j.ok rfl (fun _ _ _ _ h => by dsimp only [impl_layoutOf_v.E] at h; cases h) fun xs h => by
  dsimp only [impl_layoutOf_v.E] at h
  split at h
  case h_2 => simp at h
  rename_i sh
  rw [Bool.and_eq_true] at h
  refine ⟨h.1, ?_⟩
  simp only [Entry.r, impl_layoutOf_v.E, impl_layoutOf_j.E, pickR, h.2]
  refine ⟨.agg rfl (fun i h1 h2 => ?_) (.same .nil), rfl⟩
  match i, h1 with
  | 0, _ | 1, _ | 2, _ | 3, _ | 4, _ => exact .inl rfl

namespace impl_lineOf
noncomputable def E : Entry := ⟨65, false, false, fun | [.d (.agg [(.ints .i64 sh), (.ints .i64 da)]), .d (.int .i64 k), .d (.int .i64 n)] => axB sh da k && lnB sh k n | _ => false, fun | [.d (.agg [(.ints .i64 sh), (.ints .i64 da)]), .d (.int .i64 k), .d (.int .i64 n)] => ([.one ((.ints .i64 (lnN sh da k n)), true)], []) | _ => ([], []), fun _ => [], true, fun _ => none⟩
end impl_lineOf
namespace impl_lineOf
noncomputable def X : List Entry := [impl_layoutOf.E]
noncomputable def I : List Inl := [⟨65, Try.f65, ⟨[16], [(1000006, [0, 1, 2, 4, 5, 6, 7, 8, 12, 13, 14, 15, 16, 17, 18, 19, 20, 21, 22, 23, 24, 25, 26, 27, 28, 29, 30, 31, 32, 33, 34, 35, 36, 37, 38, 39, 40, 41, 44, 45, 46, 47, 48, 49, 50, 51, 52, 53, 54, 55, 56, 57, 58, 59])], [], [(4, [0, 1, 2, 3, 4, 5, 8, 9, 10, 6, 7, 11, 12])], [], []⟩⟩]
theorem I_ok : ∀ i ∈ I, Try.prog.funcs[i.f]? = some i.fn ∧ (i.fn.name == "runtime.NumGoroutine") = false := by
  intro i hi
  simp only [I, List.mem_cons, List.not_mem_nil, or_false] at hi
  subst hi
  exact ⟨by kernel_rfl, by kernel_rfl⟩
noncomputable abbrev L0 (fuel n : Nat) (s : St) (k : Kont) := lAt Try.prog X I fuel true 0 false 65 (bodyOf Try.f65) [1, 1, 1, 1, 1, 0, 1, 0] n s k
noncomputable abbrev k0  (fuel : Nat) : Kont := (kAt Try.prog X I fuel true 0 false 65 (bodyOf Try.f65) [1, 1, 1, 1, 1, 0, 1, 0] [] (endK Try.prog Try.f65))
noncomputable def t0 (p0q0 : List Int) (p0q1 : List Int) (x0q0 : Int) (x0q1 : Int) (x0q2 : Int) (x0q3 : Int) (x0q6 : List Int) : St := ⟨[.dead, .dead, .dead, (.ptr 1000000000 0 0), .dead, .dead, .dead, .dead, .dead, (.imm (.int .i64 x0q0)), (.all 1000000001 1), (.imm (.int .i64 x0q1)), .dead, .dead, .dead, .dead, .dead, .dead, .dead, .dead, .dead, .dead, .dead, .dead, .dead, .dead, .dead, .dead, .dead, .dead, .dead, .dead, .dead, .dead, .dead, .dead, .dead, .dead, .dead, .dead, .dead, .dead, (.imm (.int .i64 x0q2)), (.imm (.int .i64 x0q3)), .dead, .dead, .dead, .dead, .dead, .dead, .dead, .dead, .dead, .dead, .dead, .dead, .dead, .dead, .dead, .dead], hOf [(1000000000, (.box [(.imm (.ints .i64 p0q0)), (.imm (.ints .i64 p0q1))])), (1000000001, (.ints .i64 x0q6))], [], []⟩
theorem e (fuel : Nat) (p0q0 : List Int) (p0q1 : List Int) (p1 : Int) (p2 : Int) : runF Try.prog X I 0 fuel 65 Try.f65 [.d (.agg [(.ints .i64 p0q0), (.ints .i64 p0q1)]), .d (.int .i64 p1), .d (.int .i64 p2)] =
  (bif decide (p0q0.length < 9223372036854775808) then
  (bif validS p0q0 then
  (bif decide (p1 = ((0 : Nat) : Int)) then
  (idx p1 p0q0.length).bind fun j17 =>
  (p0q0[j17]?).bind fun v18 =>
  (bif decide (0 ≤ (v18 : Int)) && decide ((v18 : Int) ≤ v18) && decide ((v18 : Int) ≤ 1152921504606846976) && decide (((8 : Nat) : Int) * v18 ≤ 281474976710656) then
  (bif decide (((strd p0q0 0) : Int) = 0) then
  none
  else
  (bif decide (((strd p0q0 0) : Int) = 0) then
  none
  else
  L0 fuel fuel (t0 p0q0 p0q1 ((strd p0q0 0)) ((IntKind.wrap .i64 ((IntKind.wrap .i64 ((IntKind.wrap .i64 ((IntKind.wrap .i64 (Int.tdiv p2 (strd p0q0 0))) * (strd p0q0 0))) * (((List.replicate (v18).toNat (0 : Int)).length : Nat) : Int))) + (Int.tmod p2 (strd p0q0 0))))) ((((List.replicate (v18).toNat (0 : Int)).length : Nat) : Int)) 0 ((List.replicate (v18).toNat (0 : Int)))) (k0  fuel)))
  else
  none)
  else
  (bif decide (p1 = ((1 : Nat) : Int)) then
  (idx p1 p0q0.length).bind fun j15 =>
  (p0q0[j15]?).bind fun v16 =>
  (bif decide (0 ≤ (v16 : Int)) && decide ((v16 : Int) ≤ v16) && decide ((v16 : Int) ≤ 1152921504606846976) && decide (((8 : Nat) : Int) * v16 ≤ 281474976710656) then
  (bif decide (((strd p0q0 1) : Int) = 0) then
  none
  else
  (bif decide (((strd p0q0 1) : Int) = 0) then
  none
  else
  L0 fuel fuel (t0 p0q0 p0q1 ((strd p0q0 1)) ((IntKind.wrap .i64 ((IntKind.wrap .i64 ((IntKind.wrap .i64 ((IntKind.wrap .i64 (Int.tdiv p2 (strd p0q0 1))) * (strd p0q0 1))) * (((List.replicate (v16).toNat (0 : Int)).length : Nat) : Int))) + (Int.tmod p2 (strd p0q0 1))))) ((((List.replicate (v16).toNat (0 : Int)).length : Nat) : Int)) 0 ((List.replicate (v16).toNat (0 : Int)))) (k0  fuel)))
  else
  none)
  else
  (bif decide (p1 = ((2 : Nat) : Int)) then
  (idx p1 p0q0.length).bind fun j13 =>
  (p0q0[j13]?).bind fun v14 =>
  (bif decide (0 ≤ (v14 : Int)) && decide ((v14 : Int) ≤ v14) && decide ((v14 : Int) ≤ 1152921504606846976) && decide (((8 : Nat) : Int) * v14 ≤ 281474976710656) then
  (bif decide (((strd p0q0 2) : Int) = 0) then
  none
  else
  (bif decide (((strd p0q0 2) : Int) = 0) then
  none
  else
  L0 fuel fuel (t0 p0q0 p0q1 ((strd p0q0 2)) ((IntKind.wrap .i64 ((IntKind.wrap .i64 ((IntKind.wrap .i64 ((IntKind.wrap .i64 (Int.tdiv p2 (strd p0q0 2))) * (strd p0q0 2))) * (((List.replicate (v14).toNat (0 : Int)).length : Nat) : Int))) + (Int.tmod p2 (strd p0q0 2))))) ((((List.replicate (v14).toNat (0 : Int)).length : Nat) : Int)) 0 ((List.replicate (v14).toNat (0 : Int)))) (k0  fuel)))
  else
  none)
  else
  none)))
  else
  (bif decide (p1 = ((0 : Nat) : Int)) then
  (idx p1 p0q0.length).bind fun j11 =>
  (p0q0[j11]?).bind fun v12 =>
  (bif decide (0 ≤ (v12 : Int)) && decide ((v12 : Int) ≤ v12) && decide ((v12 : Int) ≤ 1152921504606846976) && decide (((8 : Nat) : Int) * v12 ≤ 281474976710656) then
  (bif decide ((0 : Int) = 0) then
  none
  else
  (bif decide ((0 : Int) = 0) then
  none
  else
  L0 fuel fuel (t0 p0q0 p0q1 0 ((IntKind.wrap .i64 ((IntKind.wrap .i64 ((IntKind.wrap .i64 ((IntKind.wrap .i64 (Int.tdiv p2 0)) * 0)) * (((List.replicate (v12).toNat (0 : Int)).length : Nat) : Int))) + (Int.tmod p2 0)))) ((((List.replicate (v12).toNat (0 : Int)).length : Nat) : Int)) 0 ((List.replicate (v12).toNat (0 : Int)))) (k0  fuel)))
  else
  none)
  else
  (bif decide (p1 = ((1 : Nat) : Int)) then
  (idx p1 p0q0.length).bind fun j9 =>
  (p0q0[j9]?).bind fun v10 =>
  (bif decide (0 ≤ (v10 : Int)) && decide ((v10 : Int) ≤ v10) && decide ((v10 : Int) ≤ 1152921504606846976) && decide (((8 : Nat) : Int) * v10 ≤ 281474976710656) then
  (bif decide ((0 : Int) = 0) then
  none
  else
  (bif decide ((0 : Int) = 0) then
  none
  else
  L0 fuel fuel (t0 p0q0 p0q1 0 ((IntKind.wrap .i64 ((IntKind.wrap .i64 ((IntKind.wrap .i64 ((IntKind.wrap .i64 (Int.tdiv p2 0)) * 0)) * (((List.replicate (v10).toNat (0 : Int)).length : Nat) : Int))) + (Int.tmod p2 0)))) ((((List.replicate (v10).toNat (0 : Int)).length : Nat) : Int)) 0 ((List.replicate (v10).toNat (0 : Int)))) (k0  fuel)))
  else
  none)
  else
  (bif decide (p1 = ((2 : Nat) : Int)) then
  (idx p1 p0q0.length).bind fun j1 =>
  (p0q0[j1]?).bind fun v2 =>
  (bif decide (0 ≤ (v2 : Int)) && decide ((v2 : Int) ≤ v2) && decide ((v2 : Int) ≤ 1152921504606846976) && decide (((8 : Nat) : Int) * v2 ≤ 281474976710656) then
  (bif decide ((0 : Int) = 0) then
  none
  else
  (bif decide ((0 : Int) = 0) then
  none
  else
  L0 fuel fuel (t0 p0q0 p0q1 0 ((IntKind.wrap .i64 ((IntKind.wrap .i64 ((IntKind.wrap .i64 ((IntKind.wrap .i64 (Int.tdiv p2 0)) * 0)) * (((List.replicate (v2).toNat (0 : Int)).length : Nat) : Int))) + (Int.tmod p2 0)))) ((((List.replicate (v2).toNat (0 : Int)).length : Nat) : Int)) 0 ((List.replicate (v2).toNat (0 : Int)))) (k0  fuel)))
  else
  none)
  else
  none))))
  else
  none) := by kernel_rfl
theorem s0 (fuel n0 : Nat) (p0q0 : List Int) (p0q1 : List Int) (x0q0 : Int) (x0q1 : Int) (x0q2 : Int) (x0q3 : Int) (x0q6 : List Int) : L0 fuel (n0 + 1) (t0 p0q0 p0q1 x0q0 x0q1 x0q2 x0q3 x0q6) (k0  fuel) =
  (bif (decide ((x0q3 : Int) < x0q2)) then
  (idx (IntKind.wrap .i64 (x0q1 + (IntKind.wrap .i64 (x0q3 * x0q0)))) p0q1.length).bind fun j6 =>
  (p0q1[j6]?).bind fun v7 =>
  (idx x0q3 x0q6.length).bind fun j8 =>
  (bif decide (j8 < x0q6.length) then
  L0 fuel n0 (t0 p0q0 p0q1 x0q0 x0q1 x0q2 ((IntKind.wrap .i64 (x0q3 + 1))) ((x0q6.set j8 v7))) (k0  fuel)
  else
  none)
  else
  some ([.one ((.ints .i64 x0q6), true)], [])) := by kernel_rfl
end impl_lineOf
theorem impl_lineOf.ok_of (hX : ∀ E ∈ impl_lineOf.X, CallSpec Try.prog E) (h : ∀ (sh : List Int) (da : List Int) (k : Int) (n : Int), (axB sh da k && lnB sh k n) = true → ∃ fuel, runF Try.prog impl_lineOf.X impl_lineOf.I 0 fuel 65 Try.f65 [.d (.agg [(.ints .i64 sh), (.ints .i64 da)]), .d (.int .i64 k), .d (.int .i64 n)] = some ([.one ((.ints .i64 (lnN sh da k n)), true)], [])) : CallSpec Try.prog impl_lineOf.E :=
  callSpec_of (d := 0) hX (by kernel_rfl) impl_lineOf.I_ok (by kernel_rfl) (by kernel_rfl) (by kernel_rfl) (fun _ _ _ _ h => by dsimp only [impl_lineOf.E] at h; cases h) (fun xs hp => by
    dsimp only [impl_lineOf.E] at hp ⊢
    split at hp
    · exact h _ _ _ _ hp
    · cases hp)
theorem impl_lineOf.loop (fuel : Nat) (sh da : List Int) (k i m : Nat) (ax : Ax sh k) (hd : da.length = befN sh k * lenN sh k * behN sh k) (hi : i < befN sh k) (hm : m < behN sh k) (hf : 60 < fuel) :
    impl_lineOf.L0 fuel fuel (impl_lineOf.t0 sh da ((behN sh k : Nat) : Int) ((i * behN sh k * lenN sh k + m : Nat) : Int) ((lenN sh k : Nat) : Int) 0 (List.replicate (lenN sh k) 0)) (impl_lineOf.k0 fuel) = some ([.one ((.ints .i64 (lnD (lenN sh k) (behN sh k) da i m)), true)], []) := by
  have hL := ax.len_le
  have hlk := ax.lt
  have hle := ax.le
  have hA := lnD_length (lenN sh k) (behN sh k) da i m
  refine run_loop (N := lenN sh k) (fun n j out => impl_lineOf.L0 fuel n (impl_lineOf.t0 sh da ((behN sh k : Nat) : Int) ((i * behN sh k * lenN sh k + m : Nat) : Int) ((lenN sh k : Nat) : Int) (j : Int) out) (impl_lineOf.k0 fuel)) (fun j out => out = part (lnD (lenN sh k) (behN sh k) da i m) j) ?_ ?_ fuel 0 _ (by omega) (by omega) (by rw [part_zero, hA])
  · intro n out ho
    rw [show lenN sh k = (lnD (lenN sh k) (behN sh k) da i m).length from hA.symm] at ho
    simp only [hA] at ho
    have hall := part_all (lnD (lenN sh k) (behN sh k) da i m)
    rw [hA] at hall
    rw [hall] at ho
    rw [impl_lineOf.s0, decide_eq_false (by omega), ho]
    rfl
  · intro n j out hj ho
    have hol : out.length = lenN sh k := by rw [ho, part_length (by omega), hA]
    obtain ⟨e1, _, _, _⟩ := enc3 hi hj hm
    have hix : i * behN sh k * lenN sh k + m + j * behN sh k = (i * lenN sh k + j) * behN sh k + m := by
      rw [Nat.add_mul, Nat.mul_right_comm]; omega
    rw [impl_lineOf.s0, dlt hj, cond_true, wMul (by omega), wAdd (by omega), hix, idx_nat (by omega), idx_nat (by omega), w1 (by omega)]
    simp only [Option.bind_some, getD_get (show (i * lenN sh k + j) * behN sh k + m < da.length by omega)]
    rw [decide_eq_true (by omega), cond_true]
    refine ⟨_, ?_, rfl⟩
    rw [ho, part_set (by omega)]
    exact tab_getD hj
theorem impl_lineOf.ok : CallSpec Try.prog impl_lineOf.E := impl_lineOf.ok_of (by simp [impl_lineOf.X, impl_layoutOf.ok]) fun sh da k n h => by
  obtain ⟨F, hF⟩ : ∃ F : Nat, 60 < F := ⟨61, by omega⟩
  refine ⟨F, ?_⟩
  simp only [Bool.and_eq_true, lnB, decide_eq_true_eq] at h
  obtain ⟨j, rfl, hj, hv, ax, hd, hl⟩ := axB_inv h.1
  rw [Int.toNat_natCast] at h
  have hB := validA_inv hv
  have hr := ax.rank
  have hL := ax.len_le
  have hM := ax.beh_le
  have hBe := ax.bef_le
  have hst := strd_beh ax
  obtain ⟨n', rfl⟩ : ∃ n' : Nat, n = n' := ⟨n.toNat, by omega⟩
  have hn : n' < befN sh j * behN sh j := by omega
  obtain ⟨d1, d2, d3⟩ := dec2 hn
  have hbm : befN sh j * behN sh j ≤ 3600 * 3600 := Nat.mul_le_mul hBe hM
  have hdm : n' / behN sh j * behN sh j ≤ 3600 * 3600 := by omega
  have hdl : n' / behN sh j * behN sh j * lenN sh j ≤ 3600 * 3600 * 60 := Nat.mul_le_mul hdm hL
  have key := impl_lineOf.loop F sh da j (n' / behN sh j) (n' % behN sh j) ax hd d1 d2 (by omega)
  rw [impl_lineOf.e, lt_of (by omega), cond_true, hB.1, cond_true]
  simp only [lnN, lnK, Int.toNat_natCast]
  have main : ∀ m, m = strd sh j → ((idx (j : Int) sh.length).bind fun j17 => (sh[j17]?).bind fun v18 =>
      (bif decide (0 ≤ (v18 : Int)) && decide ((v18 : Int) ≤ v18) && decide ((v18 : Int) ≤ 1152921504606846976) && decide (((8 : Nat) : Int) * v18 ≤ 281474976710656) then
      (bif decide ((m : Int) = 0) then none else (bif decide ((m : Int) = 0) then none else
      impl_lineOf.L0 F F (impl_lineOf.t0 sh da m ((IntKind.wrap .i64 ((IntKind.wrap .i64 ((IntKind.wrap .i64 ((IntKind.wrap .i64 (Int.tdiv (n' : Int) m)) * m)) * (((List.replicate (v18).toNat (0 : Int)).length : Nat) : Int))) + (Int.tmod (n' : Int) m)))) ((((List.replicate (v18).toNat (0 : Int)).length : Nat) : Int)) 0 ((List.replicate (v18).toNat (0 : Int)))) (impl_lineOf.k0 F)))
      else none)) = some ([.one ((.ints .i64 (lnD (lenN sh j) (behN sh j) da (n' / behN sh j) (n' % behN sh j))), true)], []) := by
    rintro m rfl
    rw [idx_nat hj]
    simp only [Option.bind_some, getD_get hj, ax.len]
    rw [mkOk (by omega) (by omega), cond_true, hst, decide_eq_false (by omega), cond_false, cond_false, Int.toNat_natCast, List.length_replicate, tdivN, tmodN, wN (n := n' / behN sh j) (by omega), wMul (by omega), wMul (by omega), wAdd (by omega)]
    exact key
  match j, main, hj with
  | 0, main, _ => rw [decide_eq_true (p := ((0 : Nat) : Int) = ((0 : Nat) : Int)) rfl, cond_true]; exact main _ rfl
  | 1, main, _ => rw [decide_eq_false (p := ((1 : Nat) : Int) = ((0 : Nat) : Int)) (by omega), cond_false, decide_eq_true (p := ((1 : Nat) : Int) = ((1 : Nat) : Int)) rfl, cond_true]; exact main _ rfl
  | 2, main, _ => rw [decide_eq_false (p := ((2 : Nat) : Int) = ((0 : Nat) : Int)) (by omega), cond_false, decide_eq_false (p := ((2 : Nat) : Int) = ((1 : Nat) : Int)) (by omega), cond_false, decide_eq_true (p := ((2 : Nat) : Int) = ((2 : Nat) : Int)) rfl, cond_true]; exact main _ rfl
  | j + 3, _, hj => exact absurd hj (by omega)

namespace impl_ScanAxis_1
noncomputable def E : Entry := ⟨64, true, false, fun | [.d (.int .i64 n), .d (.pbox [(.int .i64 st)]), .d (.pbox [(.int .i64 len)]), .d (.pbox [(.ints .i64 sh), (.ints .i64 da)]), .d (.pbox [(.int .i64 k)]), .d (.pbox [(.fn false dom G)])] => scP dom sh da k len st n | _ => false, fun | [.d (.int .i64 n), .d (.pbox [(.int .i64 st)]), .d (.pbox [(.int .i64 len)]), .d (.pbox [(.ints .i64 sh), (.ints .i64 da)]), .d (.pbox [(.int .i64 k)]), .d (.pbox [(.fn false dom G)])] => ([.one ((.int .i64 (G [.l (scL sh da k n.toNat)])), false)], []) | _ => ([], []), fun _ => [], false, fun _ => none⟩
end impl_ScanAxis_1
namespace impl_ScanAxis_1
noncomputable def X : List Entry := [impl_lineOf.E]
noncomputable def I : List Inl := [⟨64, Try.f64, ⟨[28], [], [], [(2, [2, 9, 0, 1, 3, 4, 5, 6, 7, 8, 10, 11, 12, 13, 14]), (3, [1, 2, 3, 0, 4, 5, 6])], [], []⟩⟩]
theorem I_ok : ∀ i ∈ I, Try.prog.funcs[i.f]? = some i.fn ∧ (i.fn.name == "runtime.NumGoroutine") = false := by
  intro i hi
  simp only [I, List.mem_cons, List.not_mem_nil, or_false] at hi
  subst hi
  exact ⟨by kernel_rfl, by kernel_rfl⟩
theorem e (fuel : Nat) (p0 : Int) (f0q0 : Int) (f1q0 : Int) (f2q0 : List Int) (f2q1 : List Int) (f3q0 : Int) (f4q0d : List Q → Bool) (f4q0g : List Q → Int) : runF Try.prog X I 0 fuel 64 Try.f64 [.d (.int .i64 p0), .d (.pbox [(.int .i64 f0q0)]), .d (.pbox [(.int .i64 f1q0)]), .d (.pbox [(.ints .i64 f2q0), (.ints .i64 f2q1)]), .d (.pbox [(.int .i64 f3q0)]), .d (.pbox [(.fn false f4q0d f4q0g)])] =
  (bif decide ((f0q0 : Int) = 0) then
  none
  else
  (bif decide ((f1q0 : Int) = 0) then
  none
  else
  (bif decide ((f0q0 : Int) = 0) then
  none
  else
  (bif decide ((f1q0 : Int) = 0) then
  none
  else
  (bif decide ((f0q0 : Int) = 0) then
  none
  else
  (bif axB f2q0 f2q1 f3q0 && lnB f2q0 f3q0 ((IntKind.wrap .i64 ((IntKind.wrap .i64 ((IntKind.wrap .i64 (Int.tdiv (IntKind.wrap .i64 (Int.tdiv p0 f0q0)) f1q0)) * f0q0)) + (Int.tmod p0 f0q0)))) then
  (cutEnds (lnN f2q0 f2q1 f3q0 ((IntKind.wrap .i64 ((IntKind.wrap .i64 ((IntKind.wrap .i64 (Int.tdiv (IntKind.wrap .i64 (Int.tdiv p0 f0q0)) f1q0)) * f0q0)) + (Int.tmod p0 f0q0))))).length (none) (some (.imm (.int .i64 (IntKind.wrap .i64 ((Int.tmod (IntKind.wrap .i64 (Int.tdiv p0 f0q0)) f1q0) + 1)))))).bind fun cq1 =>
  (bif decide (cq1.1 + (cq1.2 - cq1.1) ≤ (lnN f2q0 f2q1 f3q0 ((IntKind.wrap .i64 ((IntKind.wrap .i64 ((IntKind.wrap .i64 (Int.tdiv (IntKind.wrap .i64 (Int.tdiv p0 f0q0)) f1q0)) * f0q0)) + (Int.tmod p0 f0q0))))).length) then
  (bif (f4q0d [Q.l (((lnN f2q0 f2q1 f3q0 ((IntKind.wrap .i64 ((IntKind.wrap .i64 ((IntKind.wrap .i64 (Int.tdiv (IntKind.wrap .i64 (Int.tdiv p0 f0q0)) f1q0)) * f0q0)) + (Int.tmod p0 f0q0))))).drop cq1.1).take (cq1.2 - cq1.1))]) then
  some ([.one ((.int .i64 (f4q0g [Q.l (((lnN f2q0 f2q1 f3q0 ((IntKind.wrap .i64 ((IntKind.wrap .i64 ((IntKind.wrap .i64 (Int.tdiv (IntKind.wrap .i64 (Int.tdiv p0 f0q0)) f1q0)) * f0q0)) + (Int.tmod p0 f0q0))))).drop cq1.1).take (cq1.2 - cq1.1))])), false)], [])
  else
  none)
  else
  none)
  else
  none)))))) := by kernel_rfl
end impl_ScanAxis_1
theorem impl_ScanAxis_1.ok_of (hX : ∀ E ∈ impl_ScanAxis_1.X, CallSpec Try.prog E) (h : ∀ (n : Int) (st : Int) (len : Int) (sh : List Int) (da : List Int) (k : Int) (dom : List Q → Bool) (G : List Q → Int), (scP dom sh da k len st n) = true → ∃ fuel, runF Try.prog impl_ScanAxis_1.X impl_ScanAxis_1.I 0 fuel 64 Try.f64 [.d (.int .i64 n), .d (.pbox [(.int .i64 st)]), .d (.pbox [(.int .i64 len)]), .d (.pbox [(.ints .i64 sh), (.ints .i64 da)]), .d (.pbox [(.int .i64 k)]), .d (.pbox [(.fn false dom G)])] = some ([.one ((.int .i64 (G [.l (scL sh da k n.toNat)])), false)], [])) : CallSpec Try.prog impl_ScanAxis_1.E :=
  callSpec_of (d := 0) hX (by kernel_rfl) impl_ScanAxis_1.I_ok (by kernel_rfl) (by kernel_rfl) (by kernel_rfl) (fun _ _ _ _ h => by dsimp only [impl_ScanAxis_1.E] at h; cases h) (fun xs hp => by
    dsimp only [impl_ScanAxis_1.E] at hp ⊢
    split at hp
    · exact h _ _ _ _ _ _ _ _ hp
    · cases hp)
theorem impl_ScanAxis_1.ok : CallSpec Try.prog impl_ScanAxis_1.E := impl_ScanAxis_1.ok_of (by simp [impl_ScanAxis_1.X, impl_lineOf.ok]) fun n st len sh da k dom G h => ⟨0, by
  simp only [scP, Bool.and_eq_true, decide_eq_true_eq] at h
  obtain ⟨⟨⟨⟨⟨hb, rfl⟩, rfl⟩, h0⟩, h1⟩, hd⟩ := h
  obtain ⟨n', rfl⟩ : ∃ n' : Nat, n = n' := ⟨n.toNat, by omega⟩
  obtain ⟨j, rfl, hj, hv, ax, hl, _⟩ := axB_inv hb
  have hL := ax.len_le
  have hM := ax.beh_le
  have hle := ax.le
  simp only [scL, Int.toNat_natCast] at hd ⊢
  have hn : n' < befN sh j * lenN sh j * behN sh j := by omega
  obtain ⟨d1, d2, d3, d4⟩ := dec3 hn
  obtain ⟨e1, e2, e3⟩ := enc2 d1 d3
  have hbm : befN sh j * behN sh j ≤ 3600 * 3600 := Nat.mul_le_mul ax.bef_le hM
  have hdm : n' / behN sh j ≤ n' := Nat.div_le_self _ _
  have hdl : n' / behN sh j / lenN sh j ≤ n' / behN sh j := Nat.div_le_self _ _
  have f1 := wN (n := n' / behN sh j) (by omega)
  have f2 := wN (n := n' / behN sh j / lenN sh j) (by omega)
  have f3 := wMul (a := n' / behN sh j / lenN sh j) (b := behN sh j) (by omega)
  have f4 := wAdd (a := n' / behN sh j / lenN sh j * behN sh j) (b := n' % behN sh j) (by omega)
  have f5 := w1 (j := n' / behN sh j % lenN sh j) (by omega)
  have hln : lnB sh j ((n' / behN sh j / lenN sh j * behN sh j + n' % behN sh j : Nat) : Int) = true := by
    simp only [lnB, Int.toNat_natCast, Bool.and_eq_true, decide_eq_true_eq]; omega
  have hlv : lnN sh da j ((n' / behN sh j / lenN sh j * behN sh j + n' % behN sh j : Nat) : Int) = lnK sh da j (n' / behN sh j / lenN sh j) (n' % behN sh j) := by
    simp only [lnN, Int.toNat_natCast, e2, e3]
  have hlen : (lnK sh da (j : Int) (n' / behN sh j / lenN sh j) (n' % behN sh j)).length = lenN sh j := by rw [lnK_length, Int.toNat_natCast]
  have c1 := cut_hi (n := lenN sh j) (k := n' / behN sh j % lenN sh j + 1) (by omega)
  have p1 : ¬ (((behN sh j : Nat) : Int) = 0) := by omega
  have p2 : ¬ (((lenN sh j : Nat) : Int) = 0) := by omega
  have p3 : 0 + (n' / behN sh j % lenN sh j + 1) ≤ lenN sh j := by omega
  rw [impl_ScanAxis_1.e]
  simp only [tdivN, tmodN, f1, f2, f3, f4, f5, hb, hln, hlv, hlen, c1, Bool.and_self, cond_true, Option.bind_some, List.drop_zero, Nat.sub_zero]
  rw [decide_eq_false p1, decide_eq_false p2, cond_false, cond_false, cond_false, cond_false, cond_false, decide_eq_true p3, cond_true, hd]
  rfl⟩

namespace impl_ScanAxis
noncomputable def E : Entry := ⟨24, false, false, fun | [.d (.int .i64 op), .d (.agg [(.ints .i64 sh), (.ints .i64 da)]), .d (.int .i64 k)] => decide (sh.length < 9223372036854775808) && decide (da.length < 9223372036854775808) | _ => false, fun | [.d (.int .i64 op), .d (.agg [(.ints .i64 sh), (.ints .i64 da)]), .d (.int .i64 k)] => ([.agg [((.ints .i64 (scS op sh da k)), true), ((.ints .i64 (scD op sh da k)), true)]], []) | _ => ([], []), fun _ => [], true, fun _ => none⟩
end impl_ScanAxis
namespace impl_ScanAxis
noncomputable def X : List Entry := [impl_reductionOf.E, impl_axisLength.E, impl_layoutOf_v.E, impl_copyList.E, impl_ScanAxis_1.E]
noncomputable def I : List Inl := [⟨24, Try.f24, ⟨[33, 43, 45], [(7, [0, 1, 2, 3, 9, 10, 11, 13, 14, 15, 16, 17, 18, 19, 20, 21, 22, 23, 24, 25, 26, 27, 28, 29, 30, 31, 32, 33, 34, 35, 36, 37, 38, 39, 40, 41, 42, 43, 44, 45, 46, 47, 48])], [(7, [12, 8, 4, 5, 7])], [], [], []⟩⟩, ⟨40, Try.f40, ⟨[12], [(1000006, [2, 3, 5, 6, 7, 9, 10, 11, 12, 13, 14, 15, 16, 17, 18, 19, 20, 21, 24, 25, 26, 27, 28, 29, 30, 31, 32, 33, 34, 35])], [], [], [], []⟩⟩]
theorem I_ok : ∀ i ∈ I, Try.prog.funcs[i.f]? = some i.fn ∧ (i.fn.name == "runtime.NumGoroutine") = false := by
  intro i hi
  simp only [I, List.mem_cons, List.not_mem_nil, or_false] at hi
  rcases hi with rfl | rfl
  all_goals exact ⟨by kernel_rfl, by kernel_rfl⟩
noncomputable abbrev L0 (fuel n : Nat) (s : St) (k : Kont) := lAt Try.prog X I fuel true 3 false 40 (bodyOf Try.f40) [1, 1, 1, 1, 0, 1, 0] n s k
noncomputable abbrev k0  (fuel : Nat) : Kont := (kAt Try.prog X I fuel true 3 false 40 (bodyOf Try.f40) [1, 1, 1, 1, 0, 1, 0] [] (endFn Try.prog Try.f40 49 (kOp Try.prog X I fuel true 4 24 (cAt (bodyOf Try.f24) [1, 1, 1, 1, 1, 1, 0]) 4 (kAt Try.prog X I fuel true 4 false 24 (bodyOf Try.f24) [1, 1, 1, 1, 1, 1, 0] [] (endK Try.prog Try.f24)))))
noncomputable def t0 (p1q0 : List Int) (p1q1 : List Int) (p2 : Int) (p0 : Int) (x0q0 : Int) (x0q8 : Int) (x0q10 : List Int) (x0q17 : Int) (x0q21 : Int) : St := ⟨[(.all 1000000001 1), (.imm (.clo 64 [(.pbox [(.int .i64 x0q0)]), (.pbox [(.int .i64 (axL p1q0 p1q1 p2))]), (.pbox [(.ints .i64 p1q0), (.ints .i64 p1q1)]), (.pbox [(.int .i64 p2)]), (.pbox [(.fn false ql ((qlv (redF p0))))])])), .dead, .dead, (.ptr 1000000002 0 0), .dead, .dead, .dead, (.all 1000000003 1), .dead, .dead, .dead, .dead, .dead, .dead, .dead, .dead, .dead, .dead, .dead, .dead, .dead, (.imm (.int .i64 (((List.replicate ((volW p1q0)).toNat (0 : Int)).length : Nat) : Int))), (.imm (.int .i64 x0q8)), .dead, .dead, .dead, .dead, .dead, .dead, .dead, .dead, .dead, .dead, .dead, .dead], hOf [(1000000000, (.box [(.imm .nils), (.imm .nils)])), (1000000001, (.ints .i64 p1q0)), (1000000002, (.box [(.imm .nils), (.imm .nils)])), (1000000003, (.ints .i64 x0q10))], [.dead, .dead, .dead, .dead, (.dptr [(.ints .i64 p1q0), (.ints .i64 p1q1)] 0), (.dptr [(.int .i64 p2)] 0), (.ptr 1000000000 0 0), (.dptr [(.fn false ql ((qlv (redF p0))))] 0), (.dptr [(.int .i64 (axL p1q0 p1q1 p2))] 0), .dead, .dead, .dead, (.dptr [(.int .i64 x0q17)] 0), .dead, .dead, .dead, .dead, .dead, .dead, .dead, .dead, .dead, .dead, .dead, .dead, .dead, .dead, .dead, .dead, .dead, .dead, .dead, .dead, .dead, .dead, .dead, .dead, .dead, .dead, .dead, .dead, (.dptr [(.ints .i64 p1q0), (.ints .i64 p1q1)] 0), (.imm (.ints .i64 p1q0)), (.all 1000000001 1), (.imm (.clo 64 [(.pbox [(.int .i64 x0q21)]), (.pbox [(.int .i64 (axL p1q0 p1q1 p2))]), (.pbox [(.ints .i64 p1q0), (.ints .i64 p1q1)]), (.pbox [(.int .i64 p2)]), (.pbox [(.fn false ql ((qlv (redF p0))))])])), .dead, .dead, .dead, .dead, (.tup [])], []⟩
theorem e (fuel : Nat) (p0 : Int) (p1q0 : List Int) (p1q1 : List Int) (p2 : Int) : runF Try.prog X I 4 fuel 24 Try.f24 [.d (.int .i64 p0), .d (.agg [(.ints .i64 p1q0), (.ints .i64 p1q1)]), .d (.int .i64 p2)] =
  (bif opOk p0 then
  (bif decide (p1q0.length < 9223372036854775808) && decide (p1q1.length < 9223372036854775808) then
  (bif (!(axB p1q0 p1q1 p2)) then
  some ([.agg [((.ints .i64 []), true), ((.ints .i64 []), true)]], [])
  else
  (bif decide (p1q0.length < 9223372036854775808) && validS p1q0 then
  (bif decide (p2 = ((0 : Nat) : Int)) then
  (bif szB p1q0 then
  (bif decide (p1q0.length < 9223372036854775808) && validS p1q0 then
  (bif decide (0 ≤ ((volW p1q0) : Int)) && decide (((volW p1q0) : Int) ≤ (volW p1q0)) && decide (((volW p1q0) : Int) ≤ 1152921504606846976) && decide (((8 : Nat) : Int) * (volW p1q0) ≤ 281474976710656) then
  L0 fuel fuel (t0 p1q0 p1q1 p2 p0 ((strd p1q0 0)) 0 ((List.replicate ((volW p1q0)).toNat (0 : Int))) ((strd p1q0 0)) ((strd p1q0 0))) (k0  fuel)
  else
  none)
  else
  none)
  else
  none)
  else
  (bif decide (p2 = ((1 : Nat) : Int)) then
  (bif szB p1q0 then
  (bif decide (p1q0.length < 9223372036854775808) && validS p1q0 then
  (bif decide (0 ≤ ((volW p1q0) : Int)) && decide (((volW p1q0) : Int) ≤ (volW p1q0)) && decide (((volW p1q0) : Int) ≤ 1152921504606846976) && decide (((8 : Nat) : Int) * (volW p1q0) ≤ 281474976710656) then
  L0 fuel fuel (t0 p1q0 p1q1 p2 p0 ((strd p1q0 1)) 0 ((List.replicate ((volW p1q0)).toNat (0 : Int))) ((strd p1q0 1)) ((strd p1q0 1))) (k0  fuel)
  else
  none)
  else
  none)
  else
  none)
  else
  (bif decide (p2 = ((2 : Nat) : Int)) then
  (bif szB p1q0 then
  (bif decide (p1q0.length < 9223372036854775808) && validS p1q0 then
  (bif decide (0 ≤ ((volW p1q0) : Int)) && decide (((volW p1q0) : Int) ≤ (volW p1q0)) && decide (((volW p1q0) : Int) ≤ 1152921504606846976) && decide (((8 : Nat) : Int) * (volW p1q0) ≤ 281474976710656) then
  L0 fuel fuel (t0 p1q0 p1q1 p2 p0 ((strd p1q0 2)) 0 ((List.replicate ((volW p1q0)).toNat (0 : Int))) ((strd p1q0 2)) ((strd p1q0 2))) (k0  fuel)
  else
  none)
  else
  none)
  else
  none)
  else
  none)))
  else
  none))
  else
  none)
  else
  (bif decide (p1q0.length < 9223372036854775808) && decide (p1q1.length < 9223372036854775808) then
  some ([.agg [((.ints .i64 []), true), ((.ints .i64 []), true)]], [])
  else
  none)) := by kernel_rfl
theorem s0 (fuel n0 : Nat) (p1q0 : List Int) (p1q1 : List Int) (p2 : Int) (p0 : Int) (x0q0 : Int) (x0q8 : Int) (x0q10 : List Int) (x0q17 : Int) (x0q21 : Int) : L0 fuel (n0 + 1) (t0 p1q0 p1q1 p2 p0 x0q0 x0q8 x0q10 x0q17 x0q21) (k0  fuel) =
  (bif (decide ((x0q8 : Int) < (((List.replicate ((volW p1q0)).toNat (0 : Int)).length : Nat) : Int))) then
  (bif scP ql p1q0 p1q1 p2 ((axL p1q0 p1q1 p2)) x0q0 x0q8 then
  (idx x0q8 x0q10.length).bind fun j2 =>
  (bif decide (j2 < x0q10.length) then
  L0 fuel n0 (t0 p1q0 p1q1 p2 p0 x0q0 ((IntKind.wrap .i64 (x0q8 + 1))) ((x0q10.set j2 (((qlv (redF p0))) [.l (scL p1q0 p1q1 p2 x0q8.toNat)]))) x0q17 x0q21) (k0  fuel)
  else
  none)
  else
  none)
  else
  some ([.agg [((.ints .i64 p1q0), true), ((.ints .i64 x0q10), true)]], [])) := by kernel_rfl
end impl_ScanAxis
theorem impl_ScanAxis.ok_of (hX : ∀ E ∈ impl_ScanAxis.X, CallSpec Try.prog E) (h : ∀ (op : Int) (sh : List Int) (da : List Int) (k : Int), (decide (sh.length < 9223372036854775808) && decide (da.length < 9223372036854775808)) = true → ∃ fuel, runF Try.prog impl_ScanAxis.X impl_ScanAxis.I 4 fuel 24 Try.f24 [.d (.int .i64 op), .d (.agg [(.ints .i64 sh), (.ints .i64 da)]), .d (.int .i64 k)] = some ([.agg [((.ints .i64 (scS op sh da k)), true), ((.ints .i64 (scD op sh da k)), true)]], [])) : CallSpec Try.prog impl_ScanAxis.E :=
  callSpec_of (d := 4) hX (by kernel_rfl) impl_ScanAxis.I_ok (by kernel_rfl) (by kernel_rfl) (by kernel_rfl) (fun _ _ _ _ h => by dsimp only [impl_ScanAxis.E] at h; cases h) (fun xs hp => by
    dsimp only [impl_ScanAxis.E] at hp ⊢
    split at hp
    · exact h _ _ _ _ hp
    · cases hp)
theorem impl_ScanAxis.loop (fuel : Nat) (op : Int) (sh da : List Int) (k : Nat) (st : Int) (hst : st = ((behN sh k : Nat) : Int)) (hv : validA sh da = true) (hk : k < sh.length) (hf : 60 < fuel) :
    impl_ScanAxis.L0 fuel fuel (impl_ScanAxis.t0 sh da (k : Int) op st 0 (List.replicate (volW sh).toNat 0) st st) (impl_ScanAxis.k0 fuel) = some ([.agg [((.ints .i64 sh), true), ((.ints .i64 (scN op sh da k)), true)]], []) := by
  have ax := ax_of (validA_inv hv).1 hk
  have hL := ax.len_le
  have hvol : (volW sh).toNat = da.length := by have := (validA_inv hv).2.1; omega
  have h60 := (validA_len hv).2
  have hA : (scN op sh da k).length = da.length := by simp only [scN, tab_length]
  have hax := ax_data hv hk
  have haxl : axL sh da (k : Int) = ((lenN sh k : Nat) : Int) := by
    simp only [axL, axB_of hv hk, cond_true, Int.toNat_natCast, ax.len]
  rw [hvol]
  refine run_loop (N := da.length) (fun n j out => impl_ScanAxis.L0 fuel n (impl_ScanAxis.t0 sh da (k : Int) op st (j : Int) out st st) (impl_ScanAxis.k0 fuel)) (fun j out => out = part (scN op sh da k) j) ?_ ?_ fuel 0 _ (by omega) (by omega) (by rw [part_zero, hA])
  · intro n out ho
    have hall := part_all (scN op sh da k)
    rw [hA] at hall
    rw [hall] at ho
    rw [impl_ScanAxis.s0]
    simp only [hvol, List.length_replicate]
    rw [dge (by omega), cond_false, ho]
  · intro n j out hj ho
    have hol : out.length = da.length := by rw [ho, part_length (by omega), hA]
    have hn : j < befN sh k * lenN sh k * behN sh k := by omega
    obtain ⟨d1, d2, d3, d4⟩ := dec3 hn
    have hsc : (scL sh da (k : Int) j).length ≤ 60 := by
      simp only [scL, List.length_take, lnK_length, Int.toNat_natCast]; omega
    have hq : scP ql sh da (k : Int) ((lenN sh k : Nat) : Int) st (j : Int) = true := by
      simp only [scP, axB_of hv hk, hst, Int.toNat_natCast, ql]
      simp
      omega
    rw [impl_ScanAxis.s0]
    simp only [hvol, List.length_replicate, haxl]
    rw [dlt hj, cond_true, hq, idx_nat (by omega), w1 (by omega)]
    simp only [cond_true, Option.bind_some, Int.toNat_natCast]
    rw [decide_eq_true (by omega), cond_true]
    refine ⟨_, ?_, rfl⟩
    rw [ho, part_set (by omega)]
    simp only [scN]
    rw [tab_getD hj]
    rfl
theorem impl_ScanAxis.ok : CallSpec Try.prog impl_ScanAxis.E := impl_ScanAxis.ok_of (by simp [impl_ScanAxis.X, impl_reductionOf.ok, impl_axisLength.ok, impl_copyList.ok, impl_layoutOf_v.ok, impl_ScanAxis_1.ok]) fun op sh da k h => by
  obtain ⟨F, hF⟩ : ∃ F : Nat, 60 < F := ⟨61, by omega⟩
  refine ⟨F, ?_⟩
  rw [impl_ScanAxis.e, h]
  unfold scS scD scB
  cases ho : opOk op with
  | false => rfl
  | true =>
    cases hb : axB sh da k with
    | false => rfl
    | true =>
      obtain ⟨j, rfl, hj, hv, ax, hd, hl⟩ := axB_inv hb
      have hr := ax.rank
      have hs := (validA_inv hv).1
      have hvb := vol_bd hs
      have hst := strd_beh ax
      simp only [Bool.not_true, cond_true, cond_false, Bool.true_and]
      rw [lt_of (by omega), hs, szB_of (by omega), mkOk hvb.1 (by omega)]
      simp only [Bool.and_self, cond_true]
      match j, hj, hst with
      | 0, hj, hst => rw [decide_eq_true (p := ((0 : Nat) : Int) = ((0 : Nat) : Int)) rfl, cond_true]; exact impl_ScanAxis.loop F op sh da 0 _ hst hv hj hF
      | 1, hj, hst => rw [decide_eq_false (p := ((1 : Nat) : Int) = ((0 : Nat) : Int)) (by omega), cond_false, decide_eq_true (p := ((1 : Nat) : Int) = ((1 : Nat) : Int)) rfl, cond_true]; exact impl_ScanAxis.loop F op sh da 1 _ hst hv hj hF
      | 2, hj, hst => rw [decide_eq_false (p := ((2 : Nat) : Int) = ((0 : Nat) : Int)) (by omega), cond_false, decide_eq_false (p := ((2 : Nat) : Int) = ((1 : Nat) : Int)) (by omega), cond_false, decide_eq_true (p := ((2 : Nat) : Int) = ((2 : Nat) : Int)) rfl, cond_true]; exact impl_ScanAxis.loop F op sh da 2 _ hst hv hj hF
      | j + 3, hj, _ => exact absurd hj (by omega)

namespace impl_functionOfOne_1
noncomputable def E : Entry := ⟨97, true, false, fun | [.d (.int .i64 n)] => true | _ => false, fun | [.d (.int .i64 n)] => ([.one ((.int .i64 (IntKind.wrap .i64 (0 - n))), false)], []) | _ => ([], []), fun _ => [], false, fun _ => none⟩
end impl_functionOfOne_1
namespace impl_functionOfOne_1
noncomputable def X : List Entry := []
noncomputable def I : List Inl := [⟨97, Try.f97, ⟨[], [], [], [], [], []⟩⟩]
theorem I_ok : ∀ i ∈ I, Try.prog.funcs[i.f]? = some i.fn ∧ (i.fn.name == "runtime.NumGoroutine") = false := by
  intro i hi
  simp only [I, List.mem_cons, List.not_mem_nil, or_false] at hi
  subst hi
  exact ⟨by kernel_rfl, by kernel_rfl⟩
theorem e (fuel : Nat) (p0 : Int) : runF Try.prog X I 0 fuel 97 Try.f97 [.d (.int .i64 p0)] =
  some ([.one ((.int .i64 (IntKind.wrap .i64 (0 - p0))), false)], []) := by kernel_rfl
end impl_functionOfOne_1
theorem impl_functionOfOne_1.ok_of (hX : ∀ E ∈ impl_functionOfOne_1.X, CallSpec Try.prog E) (h : ∀ (n : Int), (true) = true → ∃ fuel, runF Try.prog impl_functionOfOne_1.X impl_functionOfOne_1.I 0 fuel 97 Try.f97 [.d (.int .i64 n)] = some ([.one ((.int .i64 (IntKind.wrap .i64 (0 - n))), false)], [])) : CallSpec Try.prog impl_functionOfOne_1.E :=
  callSpec_of (d := 0) hX (by kernel_rfl) impl_functionOfOne_1.I_ok (by kernel_rfl) (by kernel_rfl) (by kernel_rfl) (fun _ _ _ _ h => by dsimp only [impl_functionOfOne_1.E] at h; cases h) (fun xs hp => by
    dsimp only [impl_functionOfOne_1.E] at hp ⊢
    split at hp
    · exact h _ hp
    · cases hp)
theorem impl_functionOfOne_1.ok : CallSpec Try.prog impl_functionOfOne_1.E := impl_functionOfOne_1.ok_of (by simp [impl_functionOfOne_1.X]) fun n _ => ⟨0, by rw [impl_functionOfOne_1.e]⟩

namespace cmp_isNaN_int
noncomputable def E : Entry := ⟨110, true, false, fun | [.d (.int .i64 x)] => true | _ => false, fun | [.d (.int .i64 x)] => ([.one ((.bool false), false)], []) | _ => ([], []), fun _ => [], false, fun _ => none⟩
end cmp_isNaN_int
namespace cmp_isNaN_int
noncomputable def X : List Entry := []
noncomputable def I : List Inl := [⟨110, Try.f110, ⟨[], [], [], [], [], []⟩⟩]
theorem I_ok : ∀ i ∈ I, Try.prog.funcs[i.f]? = some i.fn ∧ (i.fn.name == "runtime.NumGoroutine") = false := by
  intro i hi
  simp only [I, List.mem_cons, List.not_mem_nil, or_false] at hi
  subst hi
  exact ⟨by kernel_rfl, by kernel_rfl⟩
theorem e (fuel : Nat) (p0 : Int) : runF Try.prog X I 0 fuel 110 Try.f110 [.d (.int .i64 p0)] =
  some ([.one ((.bool ((p0 : Int) != p0)), false)], []) := by kernel_rfl
end cmp_isNaN_int
theorem cmp_isNaN_int.ok_of (hX : ∀ E ∈ cmp_isNaN_int.X, CallSpec Try.prog E) (h : ∀ (x : Int), (true) = true → ∃ fuel, runF Try.prog cmp_isNaN_int.X cmp_isNaN_int.I 0 fuel 110 Try.f110 [.d (.int .i64 x)] = some ([.one ((.bool false), false)], [])) : CallSpec Try.prog cmp_isNaN_int.E :=
  callSpec_of (d := 0) hX (by kernel_rfl) cmp_isNaN_int.I_ok (by kernel_rfl) (by kernel_rfl) (by kernel_rfl) (fun _ _ _ _ h => by dsimp only [cmp_isNaN_int.E] at h; cases h) (fun xs hp => by
    dsimp only [cmp_isNaN_int.E] at hp ⊢
    split at hp
    · exact h _ hp
    · cases hp)
theorem cmp_isNaN_int.ok : CallSpec Try.prog cmp_isNaN_int.E := cmp_isNaN_int.ok_of (by simp [cmp_isNaN_int.X]) fun x _ => ⟨0, by rw [cmp_isNaN_int.e, bne_self_eq_false]⟩

namespace cmp_Compare_int
noncomputable def E : Entry := ⟨99, true, false, fun | [.d (.int .i64 x), .d (.int .i64 y)] => true | _ => false, fun | [.d (.int .i64 x), .d (.int .i64 y)] => ([.one ((.int .i64 (cmpV x y)), false)], []) | _ => ([], []), fun _ => [], false, fun _ => none⟩
end cmp_Compare_int
namespace cmp_Compare_int
noncomputable def X : List Entry := [cmp_isNaN_int.E]
noncomputable def I : List Inl := [⟨99, Try.f99, ⟨[], [], [], [], [], []⟩⟩]
theorem I_ok : ∀ i ∈ I, Try.prog.funcs[i.f]? = some i.fn ∧ (i.fn.name == "runtime.NumGoroutine") = false := by
  intro i hi
  simp only [I, List.mem_cons, List.not_mem_nil, or_false] at hi
  subst hi
  exact ⟨by kernel_rfl, by kernel_rfl⟩
theorem e (fuel : Nat) (p0 : Int) (p1 : Int) : runF Try.prog X I 0 fuel 99 Try.f99 [.d (.int .i64 p0), .d (.int .i64 p1)] =
  (bif (decide ((p0 : Int) < p1)) then
  some ([.one ((.int .i64 (-1)), false)], [])
  else
  (bif (decide ((p0 : Int) > p1)) then
  some ([.one ((.int .i64 1), false)], [])
  else
  some ([.one ((.int .i64 0), false)], []))) := by kernel_rfl
end cmp_Compare_int
theorem cmp_Compare_int.ok_of (hX : ∀ E ∈ cmp_Compare_int.X, CallSpec Try.prog E) (h : ∀ (x : Int) (y : Int), (true) = true → ∃ fuel, runF Try.prog cmp_Compare_int.X cmp_Compare_int.I 0 fuel 99 Try.f99 [.d (.int .i64 x), .d (.int .i64 y)] = some ([.one ((.int .i64 (cmpV x y)), false)], [])) : CallSpec Try.prog cmp_Compare_int.E :=
  callSpec_of (d := 0) hX (by kernel_rfl) cmp_Compare_int.I_ok (by kernel_rfl) (by kernel_rfl) (by kernel_rfl) (fun _ _ _ _ h => by dsimp only [cmp_Compare_int.E] at h; cases h) (fun xs hp => by
    dsimp only [cmp_Compare_int.E] at hp ⊢
    split at hp
    · exact h _ _ hp
    · cases hp)
theorem cmp_Compare_int.ok : CallSpec Try.prog cmp_Compare_int.E := cmp_Compare_int.ok_of (by simp [cmp_Compare_int.X, cmp_isNaN_int.ok]) fun x y _ => ⟨0, by
  rw [cmp_Compare_int.e]
  unfold cmpV
  cases decide (x < y) <;> cases decide (x > y) <;> rfl⟩

namespace impl_functionOfOne_2
noncomputable def E : Entry := ⟨98, true, false, fun | [.d (.int .i64 n)] => true | _ => false, fun | [.d (.int .i64 n)] => ([.one ((.int .i64 (sgnV n)), false)], []) | _ => ([], []), fun _ => [], false, fun _ => none⟩
end impl_functionOfOne_2
namespace impl_functionOfOne_2
noncomputable def X : List Entry := [cmp_Compare_int.E]
noncomputable def I : List Inl := [⟨98, Try.f98, ⟨[], [], [], [], [], []⟩⟩]
theorem I_ok : ∀ i ∈ I, Try.prog.funcs[i.f]? = some i.fn ∧ (i.fn.name == "runtime.NumGoroutine") = false := by
  intro i hi
  simp only [I, List.mem_cons, List.not_mem_nil, or_false] at hi
  subst hi
  exact ⟨by kernel_rfl, by kernel_rfl⟩
theorem e (fuel : Nat) (p0 : Int) : runF Try.prog X I 0 fuel 98 Try.f98 [.d (.int .i64 p0)] =
  some ([.one ((.int .i64 (cmpV p0 0)), false)], []) := by kernel_rfl
end impl_functionOfOne_2
theorem impl_functionOfOne_2.ok_of (hX : ∀ E ∈ impl_functionOfOne_2.X, CallSpec Try.prog E) (h : ∀ (n : Int), (true) = true → ∃ fuel, runF Try.prog impl_functionOfOne_2.X impl_functionOfOne_2.I 0 fuel 98 Try.f98 [.d (.int .i64 n)] = some ([.one ((.int .i64 (sgnV n)), false)], [])) : CallSpec Try.prog impl_functionOfOne_2.E :=
  callSpec_of (d := 0) hX (by kernel_rfl) impl_functionOfOne_2.I_ok (by kernel_rfl) (by kernel_rfl) (by kernel_rfl) (fun _ _ _ _ h => by dsimp only [impl_functionOfOne_2.E] at h; cases h) (fun xs hp => by
    dsimp only [impl_functionOfOne_2.E] at hp ⊢
    split at hp
    · exact h _ hp
    · cases hp)
theorem impl_functionOfOne_2.ok : CallSpec Try.prog impl_functionOfOne_2.E := impl_functionOfOne_2.ok_of (by simp [impl_functionOfOne_2.X, cmp_Compare_int.ok]) fun n _ => ⟨0, by rw [impl_functionOfOne_2.e, sgn_cmp]⟩

namespace impl_functionOfOne_3
noncomputable def E : Entry := ⟨100, true, false, fun | [.d (.int .i64 n)] => true | _ => false, fun | [.d (.int .i64 n)] => ([.one ((.int .i64 (tInt (n == 0))), false)], []) | _ => ([], []), fun _ => [], false, fun _ => none⟩
end impl_functionOfOne_3
namespace impl_functionOfOne_3
noncomputable def X : List Entry := [impl_truth.E]
noncomputable def I : List Inl := [⟨100, Try.f100, ⟨[], [], [], [], [], []⟩⟩]
theorem I_ok : ∀ i ∈ I, Try.prog.funcs[i.f]? = some i.fn ∧ (i.fn.name == "runtime.NumGoroutine") = false := by
  intro i hi
  simp only [I, List.mem_cons, List.not_mem_nil, or_false] at hi
  subst hi
  exact ⟨by kernel_rfl, by kernel_rfl⟩
theorem e (fuel : Nat) (p0 : Int) : runF Try.prog X I 0 fuel 100 Try.f100 [.d (.int .i64 p0)] =
  some ([.one ((.int .i64 (tInt (((p0 : Int) == 0)))), false)], []) := by kernel_rfl
end impl_functionOfOne_3
theorem impl_functionOfOne_3.ok_of (hX : ∀ E ∈ impl_functionOfOne_3.X, CallSpec Try.prog E) (h : ∀ (n : Int), (true) = true → ∃ fuel, runF Try.prog impl_functionOfOne_3.X impl_functionOfOne_3.I 0 fuel 100 Try.f100 [.d (.int .i64 n)] = some ([.one ((.int .i64 (tInt (n == 0))), false)], [])) : CallSpec Try.prog impl_functionOfOne_3.E :=
  callSpec_of (d := 0) hX (by kernel_rfl) impl_functionOfOne_3.I_ok (by kernel_rfl) (by kernel_rfl) (by kernel_rfl) (fun _ _ _ _ h => by dsimp only [impl_functionOfOne_3.E] at h; cases h) (fun xs hp => by
    dsimp only [impl_functionOfOne_3.E] at hp ⊢
    split at hp
    · exact h _ hp
    · cases hp)
theorem impl_functionOfOne_3.ok : CallSpec Try.prog impl_functionOfOne_3.E := impl_functionOfOne_3.ok_of (by simp [impl_functionOfOne_3.X, impl_truth.ok]) fun n _ => ⟨0, by rw [impl_functionOfOne_3.e]⟩

namespace impl_functionOfOne
noncomputable def E : Entry := ⟨66, true, false, fun | [.d (.int .i64 fn)] => true | _ => false, fun | [.d (.int .i64 fn)] => ([.one (.nilf, false)], []) | _ => ([], []), fun | [.d (.int .i64 fn)] => [(decide (fn = 1), ([.one ((.clo 97 []), false)], [])), (decide (fn = 2), ([.one ((.clo 60 []), false)], [])), (decide (fn = 3), ([.one ((.clo 98 []), false)], [])), (decide (fn = 4), ([.one ((.clo 100 []), false)], []))] | _ => [], false, fun _ => none⟩
end impl_functionOfOne
namespace impl_functionOfOne
noncomputable def X : List Entry := []
noncomputable def I : List Inl := [⟨66, Try.f66, ⟨[], [], [], [], [], []⟩⟩]
theorem I_ok : ∀ i ∈ I, Try.prog.funcs[i.f]? = some i.fn ∧ (i.fn.name == "runtime.NumGoroutine") = false := by
  intro i hi
  simp only [I, List.mem_cons, List.not_mem_nil, or_false] at hi
  subst hi
  exact ⟨by kernel_rfl, by kernel_rfl⟩
theorem e (fuel : Nat) (p0 : Int) : runF Try.prog X I 0 fuel 66 Try.f66 [.d (.int .i64 p0)] =
  (bif (decide ((p0 : Int) < 0)) then
  some ([.one (.nilf, false)], [])
  else
  (bif (decide ((p0 : Int) ≥ 5)) then
  some ([.one (.nilf, false)], [])
  else
  (bif decide (p0 = ((0 : Nat) : Int)) then
  some ([.one (.nilf, false)], [])
  else
  (bif decide (p0 = ((1 : Nat) : Int)) then
  some ([.one ((.clo 97 []), false)], [])
  else
  (bif decide (p0 = ((2 : Nat) : Int)) then
  some ([.one ((.clo 60 []), false)], [])
  else
  (bif decide (p0 = ((3 : Nat) : Int)) then
  some ([.one ((.clo 98 []), false)], [])
  else
  (bif decide (p0 = ((4 : Nat) : Int)) then
  some ([.one ((.clo 100 []), false)], [])
  else
  none))))))) := by kernel_rfl
end impl_functionOfOne
theorem impl_functionOfOne.ok_of (hX : ∀ E ∈ impl_functionOfOne.X, CallSpec Try.prog E) (h : ∀ (fn : Int), (true) = true → ∃ fuel, runF Try.prog impl_functionOfOne.X impl_functionOfOne.I 0 fuel 66 Try.f66 [.d (.int .i64 fn)] = some (bif decide (fn = 1) then ([.one ((.clo 97 []), false)], []) else (bif decide (fn = 2) then ([.one ((.clo 60 []), false)], []) else (bif decide (fn = 3) then ([.one ((.clo 98 []), false)], []) else (bif decide (fn = 4) then ([.one ((.clo 100 []), false)], []) else ([.one (.nilf, false)], [])))))) : CallSpec Try.prog impl_functionOfOne.E :=
  callSpec_of (d := 0) hX (by kernel_rfl) impl_functionOfOne.I_ok (by kernel_rfl) (by kernel_rfl) (by kernel_rfl) (fun _ _ _ _ h => by dsimp only [impl_functionOfOne.E] at h; cases h) (fun xs hp => by
    dsimp only [impl_functionOfOne.E] at hp ⊢
    split at hp
    · exact h _ hp
    · cases hp)
theorem impl_functionOfOne.ok : CallSpec Try.prog impl_functionOfOne.E := impl_functionOfOne.ok_of (by simp [impl_functionOfOne.X]) fun fn _ => ⟨0, by
  rw [impl_functionOfOne.e]
  cases ho : fnOk fn with
  | true => rcases fnOk_cases ho with rfl | rfl | rfl | rfl <;> rfl
  | false =>
    have h := fnOk_no ho
    rw [decide_eq_false (p := fn = 1) (by omega), decide_eq_false (p := fn = 2) (by omega), decide_eq_false (p := fn = 3) (by omega), decide_eq_false (p := fn = 4) (by omega)]
    by_cases h1 : fn < 0
    · rw [decide_eq_true h1]; rfl
    · by_cases h2 : fn ≥ 5
      · rw [decide_eq_false h1, decide_eq_true h2]; rfl
      · have : fn = 0 := by omega
        subst this
        rfl⟩

namespace impl_MapArray
noncomputable def E : Entry := ⟨25, false, false, fun | [.d (.int .i64 fn), .d (.agg [(.ints .i64 sh), (.ints .i64 da)])] => decide (sh.length < 9223372036854775808) && decide (da.length < 9223372036854775808) | _ => false, fun | [.d (.int .i64 fn), .d (.agg [(.ints .i64 sh), (.ints .i64 da)])] => ([.agg [((.ints .i64 (mapS fn sh da)), true), ((.ints .i64 (mapD fn sh da)), true)]], []) | _ => ([], []), fun _ => [], true, fun _ => none⟩
end impl_MapArray
namespace impl_MapArray
noncomputable def X : List Entry := [impl_functionOfOne.E, impl_ValidArray.E, impl_functionOfOne_3.E, impl_copyList.E, impl_functionOfOne_2.E, impl_absolute.E, impl_functionOfOne_1.E]
noncomputable def I : List Inl := [⟨25, Try.f25, ⟨[40], [(1000006, [0, 1, 2, 7, 8, 9, 10, 11, 12, 13, 14, 15, 16, 17, 18, 19, 20, 21, 22, 23, 27, 28, 29, 30, 31, 32, 33, 34, 35, 36, 37, 38, 39, 40, 41, 42])], [], [], [], []⟩⟩]
theorem I_ok : ∀ i ∈ I, Try.prog.funcs[i.f]? = some i.fn ∧ (i.fn.name == "runtime.NumGoroutine") = false := by
  intro i hi
  simp only [I, List.mem_cons, List.not_mem_nil, or_false] at hi
  subst hi
  exact ⟨by kernel_rfl, by kernel_rfl⟩
noncomputable abbrev L0 (fuel n : Nat) (s : St) (k : Kont) := lAt Try.prog X I fuel true 0 false 25 (bodyOf Try.f25) [1, 1, 1, 1, 0, 1, 0] n s k
noncomputable abbrev k0  (fuel : Nat) : Kont := (kAt Try.prog X I fuel true 0 false 25 (bodyOf Try.f25) [1, 1, 1, 1, 0, 1, 0] [] (endK Try.prog Try.f25))
noncomputable def t0 (p1q1 : List Int) (p1q0 : List Int) (x0q2 : Int) (x0q5 : List Int) : St := ⟨[.dead, .dead, .dead, (.ptr 1000000000 0 0), (.ptr 1000000001 0 0), (.imm (.clo 100 [])), (.all 1000000002 1), .dead, .dead, .dead, .dead, .dead, .dead, .dead, .dead, .dead, .dead, .dead, .dead, .dead, .dead, .dead, .dead, .dead, (.imm (.ints .i64 p1q1)), (.imm (.int .i64 ((p1q1.length : Nat) : Int))), (.imm (.int .i64 x0q2)), .dead, .dead, .dead, .dead, .dead, .dead, .dead, .dead, .dead, .dead, .dead, .dead, .dead, .dead, .dead, .dead], hOf [(1000000000, (.box [(.imm (.ints .i64 p1q0)), (.imm (.ints .i64 p1q1))])), (1000000001, (.box [(.imm .nils), (.imm .nils)])), (1000000002, (.ints .i64 x0q5))], [], []⟩
noncomputable abbrev L1 (fuel n : Nat) (s : St) (k : Kont) := lAt Try.prog X I fuel true 0 false 25 (bodyOf Try.f25) [1, 1, 1, 1, 0, 1, 0] n s k
noncomputable abbrev k1  (fuel : Nat) : Kont := (kAt Try.prog X I fuel true 0 false 25 (bodyOf Try.f25) [1, 1, 1, 1, 0, 1, 0] [] (endK Try.prog Try.f25))
noncomputable def t1 (p1q1 : List Int) (p1q0 : List Int) (x1q2 : Int) (x1q5 : List Int) : St := ⟨[.dead, .dead, .dead, (.ptr 1000000000 0 0), (.ptr 1000000001 0 0), (.imm (.clo 98 [])), (.all 1000000002 1), .dead, .dead, .dead, .dead, .dead, .dead, .dead, .dead, .dead, .dead, .dead, .dead, .dead, .dead, .dead, .dead, .dead, (.imm (.ints .i64 p1q1)), (.imm (.int .i64 ((p1q1.length : Nat) : Int))), (.imm (.int .i64 x1q2)), .dead, .dead, .dead, .dead, .dead, .dead, .dead, .dead, .dead, .dead, .dead, .dead, .dead, .dead, .dead, .dead], hOf [(1000000000, (.box [(.imm (.ints .i64 p1q0)), (.imm (.ints .i64 p1q1))])), (1000000001, (.box [(.imm .nils), (.imm .nils)])), (1000000002, (.ints .i64 x1q5))], [], []⟩
noncomputable abbrev L2 (fuel n : Nat) (s : St) (k : Kont) := lAt Try.prog X I fuel true 0 false 25 (bodyOf Try.f25) [1, 1, 1, 1, 0, 1, 0] n s k
noncomputable abbrev k2  (fuel : Nat) : Kont := (kAt Try.prog X I fuel true 0 false 25 (bodyOf Try.f25) [1, 1, 1, 1, 0, 1, 0] [] (endK Try.prog Try.f25))
noncomputable def t2 (p1q1 : List Int) (p1q0 : List Int) (x2q2 : Int) (x2q5 : List Int) : St := ⟨[.dead, .dead, .dead, (.ptr 1000000000 0 0), (.ptr 1000000001 0 0), (.imm (.clo 60 [])), (.all 1000000002 1), .dead, .dead, .dead, .dead, .dead, .dead, .dead, .dead, .dead, .dead, .dead, .dead, .dead, .dead, .dead, .dead, .dead, (.imm (.ints .i64 p1q1)), (.imm (.int .i64 ((p1q1.length : Nat) : Int))), (.imm (.int .i64 x2q2)), .dead, .dead, .dead, .dead, .dead, .dead, .dead, .dead, .dead, .dead, .dead, .dead, .dead, .dead, .dead, .dead], hOf [(1000000000, (.box [(.imm (.ints .i64 p1q0)), (.imm (.ints .i64 p1q1))])), (1000000001, (.box [(.imm .nils), (.imm .nils)])), (1000000002, (.ints .i64 x2q5))], [], []⟩
noncomputable abbrev L3 (fuel n : Nat) (s : St) (k : Kont) := lAt Try.prog X I fuel true 0 false 25 (bodyOf Try.f25) [1, 1, 1, 1, 0, 1, 0] n s k
noncomputable abbrev k3  (fuel : Nat) : Kont := (kAt Try.prog X I fuel true 0 false 25 (bodyOf Try.f25) [1, 1, 1, 1, 0, 1, 0] [] (endK Try.prog Try.f25))
noncomputable def t3 (p1q1 : List Int) (p1q0 : List Int) (x3q2 : Int) (x3q5 : List Int) : St := ⟨[.dead, .dead, .dead, (.ptr 1000000000 0 0), (.ptr 1000000001 0 0), (.imm (.clo 97 [])), (.all 1000000002 1), .dead, .dead, .dead, .dead, .dead, .dead, .dead, .dead, .dead, .dead, .dead, .dead, .dead, .dead, .dead, .dead, .dead, (.imm (.ints .i64 p1q1)), (.imm (.int .i64 ((p1q1.length : Nat) : Int))), (.imm (.int .i64 x3q2)), .dead, .dead, .dead, .dead, .dead, .dead, .dead, .dead, .dead, .dead, .dead, .dead, .dead, .dead, .dead, .dead], hOf [(1000000000, (.box [(.imm (.ints .i64 p1q0)), (.imm (.ints .i64 p1q1))])), (1000000001, (.box [(.imm .nils), (.imm .nils)])), (1000000002, (.ints .i64 x3q5))], [], []⟩
theorem e (fuel : Nat) (p0 : Int) (p1q0 : List Int) (p1q1 : List Int) : runF Try.prog X I 0 fuel 25 Try.f25 [.d (.int .i64 p0), .d (.agg [(.ints .i64 p1q0), (.ints .i64 p1q1)])] =
  (bif decide (p0 = 1) then
  (bif decide (p1q0.length < 9223372036854775808) && decide (p1q1.length < 9223372036854775808) then
  (bif (!(validA p1q0 p1q1)) then
  some ([.agg [((.ints .i64 []), true), ((.ints .i64 []), true)]], [])
  else
  (bif decide (0 ≤ (((p1q1.length : Nat) : Int) : Int)) && decide ((((p1q1.length : Nat) : Int) : Int) ≤ ((p1q1.length : Nat) : Int)) && decide ((((p1q1.length : Nat) : Int) : Int) ≤ 1152921504606846976) && decide (((8 : Nat) : Int) * ((p1q1.length : Nat) : Int) ≤ 281474976710656) then
  L3 fuel fuel (t3 p1q1 p1q0 0 ((List.replicate (((p1q1.length : Nat) : Int)).toNat (0 : Int)))) (k3  fuel)
  else
  none))
  else
  none)
  else
  (bif decide (p0 = 2) then
  (bif decide (p1q0.length < 9223372036854775808) && decide (p1q1.length < 9223372036854775808) then
  (bif (!(validA p1q0 p1q1)) then
  some ([.agg [((.ints .i64 []), true), ((.ints .i64 []), true)]], [])
  else
  (bif decide (0 ≤ (((p1q1.length : Nat) : Int) : Int)) && decide ((((p1q1.length : Nat) : Int) : Int) ≤ ((p1q1.length : Nat) : Int)) && decide ((((p1q1.length : Nat) : Int) : Int) ≤ 1152921504606846976) && decide (((8 : Nat) : Int) * ((p1q1.length : Nat) : Int) ≤ 281474976710656) then
  L2 fuel fuel (t2 p1q1 p1q0 0 ((List.replicate (((p1q1.length : Nat) : Int)).toNat (0 : Int)))) (k2  fuel)
  else
  none))
  else
  none)
  else
  (bif decide (p0 = 3) then
  (bif decide (p1q0.length < 9223372036854775808) && decide (p1q1.length < 9223372036854775808) then
  (bif (!(validA p1q0 p1q1)) then
  some ([.agg [((.ints .i64 []), true), ((.ints .i64 []), true)]], [])
  else
  (bif decide (0 ≤ (((p1q1.length : Nat) : Int) : Int)) && decide ((((p1q1.length : Nat) : Int) : Int) ≤ ((p1q1.length : Nat) : Int)) && decide ((((p1q1.length : Nat) : Int) : Int) ≤ 1152921504606846976) && decide (((8 : Nat) : Int) * ((p1q1.length : Nat) : Int) ≤ 281474976710656) then
  L1 fuel fuel (t1 p1q1 p1q0 0 ((List.replicate (((p1q1.length : Nat) : Int)).toNat (0 : Int)))) (k1  fuel)
  else
  none))
  else
  none)
  else
  (bif decide (p0 = 4) then
  (bif decide (p1q0.length < 9223372036854775808) && decide (p1q1.length < 9223372036854775808) then
  (bif (!(validA p1q0 p1q1)) then
  some ([.agg [((.ints .i64 []), true), ((.ints .i64 []), true)]], [])
  else
  (bif decide (0 ≤ (((p1q1.length : Nat) : Int) : Int)) && decide ((((p1q1.length : Nat) : Int) : Int) ≤ ((p1q1.length : Nat) : Int)) && decide ((((p1q1.length : Nat) : Int) : Int) ≤ 1152921504606846976) && decide (((8 : Nat) : Int) * ((p1q1.length : Nat) : Int) ≤ 281474976710656) then
  L0 fuel fuel (t0 p1q1 p1q0 0 ((List.replicate (((p1q1.length : Nat) : Int)).toNat (0 : Int)))) (k0  fuel)
  else
  none))
  else
  none)
  else
  some ([.agg [((.ints .i64 []), true), ((.ints .i64 []), true)]], []))))) := by kernel_rfl
theorem s0 (fuel n0 : Nat) (p1q1 : List Int) (p1q0 : List Int) (x0q2 : Int) (x0q5 : List Int) : L0 fuel (n0 + 1) (t0 p1q1 p1q0 x0q2 x0q5) (k0  fuel) =
  (bif (decide ((x0q2 : Int) < ((p1q1.length : Nat) : Int))) then
  (idx x0q2 p1q1.length).bind fun j7 =>
  (p1q1[j7]?).bind fun v8 =>
  (idx x0q2 x0q5.length).bind fun j9 =>
  (bif decide (j9 < x0q5.length) then
  L0 fuel n0 (t0 p1q1 p1q0 ((IntKind.wrap .i64 (x0q2 + 1))) ((x0q5.set j9 (tInt (v8 == 0))))) (k0  fuel)
  else
  none)
  else
  (bif szB p1q0 then
  some ([.agg [((.ints .i64 p1q0), true), ((.ints .i64 x0q5), true)]], [])
  else
  none)) := by kernel_rfl
theorem s1 (fuel n1 : Nat) (p1q1 : List Int) (p1q0 : List Int) (x1q2 : Int) (x1q5 : List Int) : L1 fuel (n1 + 1) (t1 p1q1 p1q0 x1q2 x1q5) (k1  fuel) =
  (bif (decide ((x1q2 : Int) < ((p1q1.length : Nat) : Int))) then
  (idx x1q2 p1q1.length).bind fun j16 =>
  (p1q1[j16]?).bind fun v17 =>
  (idx x1q2 x1q5.length).bind fun j18 =>
  (bif decide (j18 < x1q5.length) then
  L1 fuel n1 (t1 p1q1 p1q0 ((IntKind.wrap .i64 (x1q2 + 1))) ((x1q5.set j18 (sgnV v17)))) (k1  fuel)
  else
  none)
  else
  (bif szB p1q0 then
  some ([.agg [((.ints .i64 p1q0), true), ((.ints .i64 x1q5), true)]], [])
  else
  none)) := by kernel_rfl
theorem s2 (fuel n2 : Nat) (p1q1 : List Int) (p1q0 : List Int) (x2q2 : Int) (x2q5 : List Int) : L2 fuel (n2 + 1) (t2 p1q1 p1q0 x2q2 x2q5) (k2  fuel) =
  (bif (decide ((x2q2 : Int) < ((p1q1.length : Nat) : Int))) then
  (idx x2q2 p1q1.length).bind fun j25 =>
  (p1q1[j25]?).bind fun v26 =>
  (idx x2q2 x2q5.length).bind fun j27 =>
  (bif decide (j27 < x2q5.length) then
  L2 fuel n2 (t2 p1q1 p1q0 ((IntKind.wrap .i64 (x2q2 + 1))) ((x2q5.set j27 (absV v26)))) (k2  fuel)
  else
  none)
  else
  (bif szB p1q0 then
  some ([.agg [((.ints .i64 p1q0), true), ((.ints .i64 x2q5), true)]], [])
  else
  none)) := by kernel_rfl
theorem s3 (fuel n3 : Nat) (p1q1 : List Int) (p1q0 : List Int) (x3q2 : Int) (x3q5 : List Int) : L3 fuel (n3 + 1) (t3 p1q1 p1q0 x3q2 x3q5) (k3  fuel) =
  (bif (decide ((x3q2 : Int) < ((p1q1.length : Nat) : Int))) then
  (idx x3q2 p1q1.length).bind fun j34 =>
  (p1q1[j34]?).bind fun v35 =>
  (idx x3q2 x3q5.length).bind fun j36 =>
  (bif decide (j36 < x3q5.length) then
  L3 fuel n3 (t3 p1q1 p1q0 ((IntKind.wrap .i64 (x3q2 + 1))) ((x3q5.set j36 (IntKind.wrap .i64 (0 - v35))))) (k3  fuel)
  else
  none)
  else
  (bif szB p1q0 then
  some ([.agg [((.ints .i64 p1q0), true), ((.ints .i64 x3q5), true)]], [])
  else
  none)) := by kernel_rfl
end impl_MapArray
theorem impl_MapArray.ok_of (hX : ∀ E ∈ impl_MapArray.X, CallSpec Try.prog E) (h : ∀ (fn : Int) (sh : List Int) (da : List Int), (decide (sh.length < 9223372036854775808) && decide (da.length < 9223372036854775808)) = true → ∃ fuel, runF Try.prog impl_MapArray.X impl_MapArray.I 0 fuel 25 Try.f25 [.d (.int .i64 fn), .d (.agg [(.ints .i64 sh), (.ints .i64 da)])] = some ([.agg [((.ints .i64 (mapS fn sh da)), true), ((.ints .i64 (mapD fn sh da)), true)]], [])) : CallSpec Try.prog impl_MapArray.E :=
  callSpec_of (d := 0) hX (by kernel_rfl) impl_MapArray.I_ok (by kernel_rfl) (by kernel_rfl) (by kernel_rfl) (fun _ _ _ _ h => by dsimp only [impl_MapArray.E] at h; cases h) (fun xs hp => by
    dsimp only [impl_MapArray.E] at hp ⊢
    split at hp
    · exact h _ _ _ hp
    · cases hp)
theorem impl_MapArray.loop3 (fuel : Nat) (sh da : List Int) (hv : validA sh da = true) : ∀ (m n j : Nat) (out : List Int), da.length - j = m → m < n → j ≤ da.length → out.length = da.length → out.take j = tab j (fun i => mapF 1 (da.getD i 0)) →
    impl_MapArray.L3 fuel n (impl_MapArray.t3 da sh (j : Int) out) (impl_MapArray.k3 fuel) = some ([.agg [(.ints .i64 (mapS 1 sh da), true), (.ints .i64 (mapD 1 sh da), true)]], []) := by
  have hl := validA_len hv
  intro m
  induction m with
  | zero =>
    intro n j out h1 h2 h3 h4 h5
    obtain ⟨n, rfl⟩ : ∃ n', n = n' + 1 := ⟨n - 1, by omega⟩
    have e1 := fill_end (n := da.length) h4 (by rw [show j = da.length by omega] at h5; exact h5)
    rw [impl_MapArray.s3, dge (by omega), szB_of (xs := sh) (by omega), e1]
    simp [mapS, mapD, mapB, fnOk, hv]
  | succ m ih =>
    intro n j out h1 h2 h3 h4 h5
    obtain ⟨n, rfl⟩ : ∃ n', n = n' + 1 := ⟨n - 1, by omega⟩
    have hj : j < da.length := by omega
    have hj2 : j < out.length := by omega
    rw [impl_MapArray.s3, dlt hj, idx_nat hj, idx_nat hj2, w1 (by omega)]
    simp only [cond_true, Option.bind_some, getS hj, hj2, decide_true]
    have e2 := fill_step (f := fun i => mapF 1 (da.getD i 0)) hj h4 h5
    have e3 : mapF 1 (da.getD j 0) = (fun n => IntKind.wrap .i64 (0 - n)) da[j] := by
      have : da.getD j 0 = da[j] := by simp [hj]
      rw [this]
      rfl
    rw [e3] at e2
    exact ih n (j + 1) _ (by omega) (by omega) (by omega) (by simpa using h4) e2
theorem impl_MapArray.loop2 (fuel : Nat) (sh da : List Int) (hv : validA sh da = true) : ∀ (m n j : Nat) (out : List Int), da.length - j = m → m < n → j ≤ da.length → out.length = da.length → out.take j = tab j (fun i => mapF 2 (da.getD i 0)) →
    impl_MapArray.L2 fuel n (impl_MapArray.t2 da sh (j : Int) out) (impl_MapArray.k2 fuel) = some ([.agg [(.ints .i64 (mapS 2 sh da), true), (.ints .i64 (mapD 2 sh da), true)]], []) := by
  have hl := validA_len hv
  intro m
  induction m with
  | zero =>
    intro n j out h1 h2 h3 h4 h5
    obtain ⟨n, rfl⟩ : ∃ n', n = n' + 1 := ⟨n - 1, by omega⟩
    have e1 := fill_end (n := da.length) h4 (by rw [show j = da.length by omega] at h5; exact h5)
    rw [impl_MapArray.s2, dge (by omega), szB_of (xs := sh) (by omega), e1]
    simp [mapS, mapD, mapB, fnOk, hv]
  | succ m ih =>
    intro n j out h1 h2 h3 h4 h5
    obtain ⟨n, rfl⟩ : ∃ n', n = n' + 1 := ⟨n - 1, by omega⟩
    have hj : j < da.length := by omega
    have hj2 : j < out.length := by omega
    rw [impl_MapArray.s2, dlt hj, idx_nat hj, idx_nat hj2, w1 (by omega)]
    simp only [cond_true, Option.bind_some, getS hj, hj2, decide_true]
    have e2 := fill_step (f := fun i => mapF 2 (da.getD i 0)) hj h4 h5
    have e3 : mapF 2 (da.getD j 0) = (absV) da[j] := by
      have : da.getD j 0 = da[j] := by simp [hj]
      rw [this]
      rfl
    rw [e3] at e2
    exact ih n (j + 1) _ (by omega) (by omega) (by omega) (by simpa using h4) e2
theorem impl_MapArray.loop1 (fuel : Nat) (sh da : List Int) (hv : validA sh da = true) : ∀ (m n j : Nat) (out : List Int), da.length - j = m → m < n → j ≤ da.length → out.length = da.length → out.take j = tab j (fun i => mapF 3 (da.getD i 0)) →
    impl_MapArray.L1 fuel n (impl_MapArray.t1 da sh (j : Int) out) (impl_MapArray.k1 fuel) = some ([.agg [(.ints .i64 (mapS 3 sh da), true), (.ints .i64 (mapD 3 sh da), true)]], []) := by
  have hl := validA_len hv
  intro m
  induction m with
  | zero =>
    intro n j out h1 h2 h3 h4 h5
    obtain ⟨n, rfl⟩ : ∃ n', n = n' + 1 := ⟨n - 1, by omega⟩
    have e1 := fill_end (n := da.length) h4 (by rw [show j = da.length by omega] at h5; exact h5)
    rw [impl_MapArray.s1, dge (by omega), szB_of (xs := sh) (by omega), e1]
    simp [mapS, mapD, mapB, fnOk, hv]
  | succ m ih =>
    intro n j out h1 h2 h3 h4 h5
    obtain ⟨n, rfl⟩ : ∃ n', n = n' + 1 := ⟨n - 1, by omega⟩
    have hj : j < da.length := by omega
    have hj2 : j < out.length := by omega
    rw [impl_MapArray.s1, dlt hj, idx_nat hj, idx_nat hj2, w1 (by omega)]
    simp only [cond_true, Option.bind_some, getS hj, hj2, decide_true]
    have e2 := fill_step (f := fun i => mapF 3 (da.getD i 0)) hj h4 h5
    have e3 : mapF 3 (da.getD j 0) = (sgnV) da[j] := by
      have : da.getD j 0 = da[j] := by simp [hj]
      rw [this]
      rfl
    rw [e3] at e2
    exact ih n (j + 1) _ (by omega) (by omega) (by omega) (by simpa using h4) e2
theorem impl_MapArray.loop0 (fuel : Nat) (sh da : List Int) (hv : validA sh da = true) : ∀ (m n j : Nat) (out : List Int), da.length - j = m → m < n → j ≤ da.length → out.length = da.length → out.take j = tab j (fun i => mapF 4 (da.getD i 0)) →
    impl_MapArray.L0 fuel n (impl_MapArray.t0 da sh (j : Int) out) (impl_MapArray.k0 fuel) = some ([.agg [(.ints .i64 (mapS 4 sh da), true), (.ints .i64 (mapD 4 sh da), true)]], []) := by
  have hl := validA_len hv
  intro m
  induction m with
  | zero =>
    intro n j out h1 h2 h3 h4 h5
    obtain ⟨n, rfl⟩ : ∃ n', n = n' + 1 := ⟨n - 1, by omega⟩
    have e1 := fill_end (n := da.length) h4 (by rw [show j = da.length by omega] at h5; exact h5)
    rw [impl_MapArray.s0, dge (by omega), szB_of (xs := sh) (by omega), e1]
    simp [mapS, mapD, mapB, fnOk, hv]
  | succ m ih =>
    intro n j out h1 h2 h3 h4 h5
    obtain ⟨n, rfl⟩ : ∃ n', n = n' + 1 := ⟨n - 1, by omega⟩
    have hj : j < da.length := by omega
    have hj2 : j < out.length := by omega
    rw [impl_MapArray.s0, dlt hj, idx_nat hj, idx_nat hj2, w1 (by omega)]
    simp only [cond_true, Option.bind_some, getS hj, hj2, decide_true]
    have e2 := fill_step (f := fun i => mapF 4 (da.getD i 0)) hj h4 h5
    have e3 : mapF 4 (da.getD j 0) = (fun n => tInt (n == 0)) da[j] := by
      have : da.getD j 0 = da[j] := by simp [hj]
      rw [this]
      rfl
    rw [e3] at e2
    exact ih n (j + 1) _ (by omega) (by omega) (by omega) (by simpa using h4) e2
theorem impl_MapArray.ok : CallSpec Try.prog impl_MapArray.E := impl_MapArray.ok_of (by simp [impl_MapArray.X, impl_functionOfOne.ok, impl_ValidArray.ok, impl_functionOfOne_1.ok, impl_functionOfOne_2.ok, impl_functionOfOne_3.ok, impl_absolute.ok, impl_copyList.ok]) fun fn sh da h => by
  refine ⟨da.length + 1, ?_⟩
  rw [impl_MapArray.e, h]
  cases hf : fnOk fn with
  | false =>
    have hn := fnOk_no hf
    rw [decide_eq_false (p := fn = 1) (by omega), decide_eq_false (p := fn = 2) (by omega), decide_eq_false (p := fn = 3) (by omega), decide_eq_false (p := fn = 4) (by omega)]
    simp [mapS, mapD, mapB, hf]
  | true =>
    cases hv : validA sh da with
    | false => rcases fnOk_cases hf with rfl | rfl | rfl | rfl <;> simp [mapS, mapD, mapB, hv]
    | true =>
      have hl := validA_len hv
      have hm := mkOk (n := ((da.length : Nat) : Int)) (by omega) (by omega)
      rcases fnOk_cases hf with rfl | rfl | rfl | rfl
      · rw [hm]
        exact impl_MapArray.loop3 (da.length + 1) sh da hv da.length (da.length + 1) 0 _ (by omega) (by omega) (by omega) (by simp) (by simp [tab])
      · rw [hm]
        exact impl_MapArray.loop2 (da.length + 1) sh da hv da.length (da.length + 1) 0 _ (by omega) (by omega) (by omega) (by simp) (by simp [tab])
      · rw [hm]
        exact impl_MapArray.loop1 (da.length + 1) sh da hv da.length (da.length + 1) 0 _ (by omega) (by omega) (by omega) (by simp) (by simp [tab])
      · rw [hm]
        exact impl_MapArray.loop0 (da.length + 1) sh da hv da.length (da.length + 1) 0 _ (by omega) (by omega) (by omega) (by simp) (by simp [tab])

namespace laws_FnNeighboursOfScan
noncomputable def E : Entry := ⟨7, true, false, fun | [.d (.ints .u8 bs)] => bytesB bs | _ => false, fun | [.d (.ints .u8 bs)] => ([.one ((.bool true), false)], []) | _ => ([], []), fun _ => [], false, fun _ => none⟩
end laws_FnNeighboursOfScan
namespace laws_FnNeighboursOfScan
noncomputable def X : List Entry := [spec_DrawNeighboursOf.E, impl_NeighboursOf.E, spec_NeighboursOf.E, laws_equalArray.E, impl_ScanAxis.E, impl_MapArray.E, impl_DropAxis.E]
noncomputable def I : List Inl := [⟨7, Try.f7, ⟨[17, 23, 29, 76, 77, 83, 85], [(1000009, [0, 1, 2, 3, 5, 6, 7, 8, 10, 11, 12, 13, 14, 15, 16, 17, 18, 19, 20, 21, 22, 23, 24, 25, 26, 27, 28, 29, 30, 31, 32, 33, 34, 35, 36, 37, 38, 39, 40, 41, 42, 43, 44, 45, 46, 47, 48, 49, 50, 51, 52, 53, 54, 55, 56, 57, 58, 59, 60, 61, 62, 63, 64, 65, 66, 67, 68, 69, 70, 71, 72, 73, 74, 75, 76, 77, 78, 79, 80, 81, 82, 83, 84, 85, 86, 87])], [], [(14, [0, 1, 2, 4, 3, 5, 6, 7, 8])], [], []⟩⟩]
theorem I_ok : ∀ i ∈ I, Try.prog.funcs[i.f]? = some i.fn ∧ (i.fn.name == "runtime.NumGoroutine") = false := by
  intro i hi
  simp only [I, List.mem_cons, List.not_mem_nil, or_false] at hi
  subst hi
  exact ⟨by kernel_rfl, by kernel_rfl⟩
noncomputable abbrev L0 (fuel n : Nat) (s : St) (k : Kont) := lAt Try.prog X I fuel true 0 false 7 (bodyOf Try.f7) [1, 1, 1, 1, 1, 1, 0, 1, 0] n s k
noncomputable abbrev k0  (fuel : Nat) : Kont := (kAt Try.prog X I fuel true 0 false 7 (bodyOf Try.f7) [1, 1, 1, 1, 1, 1, 0, 1, 0] [] (endK Try.prog Try.f7))
noncomputable def t0 (p0 : List Int) (x0q0 : Int) : St := ⟨[.dead, .dead, .dead, .dead, (.ptr 1000000000 0 0), .dead, .dead, .dead, .dead, (.imm (.int .i64 x0q0)), .dead, .dead, .dead, .dead, .dead, .dead, .dead, .dead, .dead, .dead, .dead, .dead, .dead, .dead, .dead, .dead, .dead, .dead, .dead, .dead, .dead, .dead, .dead, .dead, .dead, .dead, .dead, .dead, .dead, .dead, .dead, .dead, .dead, .dead, .dead, .dead, .dead, .dead, .dead, .dead, .dead, .dead, .dead, .dead, .dead, .dead, .dead, .dead, .dead, .dead, .dead, .dead, .dead, .dead, .dead, .dead, .dead, .dead, .dead, .dead, .dead, .dead, .dead, .dead, .dead, .dead, .dead, .dead, .dead, .dead, .dead, .dead, .dead, .dead, .dead, .dead, .dead, .dead], hOf [(1000000000, (.box [(.imm (.ints .i64 (avS (cutC p0) 2))), (.imm (.ints .i64 (avD (cutC p0) 2)))]))], [], []⟩
theorem e (fuel : Nat) (p0 : List Int) : runF Try.prog X I 0 fuel 7 Try.f7 [.d (.ints .u8 p0)] =
  (bif (decide ((((p0.length : Nat) : Int) : Int) > 1048576)) then
  some ([.one ((.bool true), false)], [])
  else
  (bif bytesB p0 then
  (bif decide (((avS (cutC p0) 2)).length < 9223372036854775808) && decide (((avD (cutC p0) 2)).length < 9223372036854775808) then
  (bif decide (((avS (cutC p0) 2)).length < 9223372036854775808) && decide (((avD (cutC p0) 2)).length < 9223372036854775808) then
  (bif decide (((nbS ((anyOpV (cutC p0) 0)) ((avS (cutC p0) 2)) ((avD (cutC p0) 2)))).length < 9223372036854775808) && decide (((nbD ((anyOpV (cutC p0) 0)) ((avS (cutC p0) 2)) ((avD (cutC p0) 2)))).length < 9223372036854775808) && decide (((nbS ((anyOpV (cutC p0) 0)) ((avS (cutC p0) 2)) ((avD (cutC p0) 2)))).length < 9223372036854775808) && decide (((nbD ((anyOpV (cutC p0) 0)) ((avS (cutC p0) 2)) ((avD (cutC p0) 2)))).length < 9223372036854775808) then
  (bif (!(decide (((nbS ((anyOpV (cutC p0) 0)) ((avS (cutC p0) 2)) ((avD (cutC p0) 2)))) = ((nbS ((anyOpV (cutC p0) 0)) ((avS (cutC p0) 2)) ((avD (cutC p0) 2))))) && decide (((nbD ((anyOpV (cutC p0) 0)) ((avS (cutC p0) 2)) ((avD (cutC p0) 2)))) = ((nbD ((anyOpV (cutC p0) 0)) ((avS (cutC p0) 2)) ((avD (cutC p0) 2))))))) then
  (bif decide (((nbS ((anyOpV (cutC p0) 0)) ((avS (cutC p0) 2)) ((avD (cutC p0) 2)))).length < 9223372036854775808) && decide (((nbD ((anyOpV (cutC p0) 0)) ((avS (cutC p0) 2)) ((avD (cutC p0) 2)))).length < 9223372036854775808) && decide (((nbS ((anyOpV (cutC p0) 0)) ((avS (cutC p0) 2)) ((avD (cutC p0) 2)))).length < 9223372036854775808) && decide (((nbD ((anyOpV (cutC p0) 0)) ((avS (cutC p0) 2)) ((avD (cutC p0) 2)))).length < 9223372036854775808) then
  (bif (decide (((nbS ((anyOpV (cutC p0) 0)) ((avS (cutC p0) 2)) ((avD (cutC p0) 2)))) = ((nbS ((anyOpV (cutC p0) 0)) ((avS (cutC p0) 2)) ((avD (cutC p0) 2))))) && decide (((nbD ((anyOpV (cutC p0) 0)) ((avS (cutC p0) 2)) ((avD (cutC p0) 2)))) = ((nbD ((anyOpV (cutC p0) 0)) ((avS (cutC p0) 2)) ((avD (cutC p0) 2)))))) then
  some ([.one ((.bool ((nbB ((anyOpV (cutC p0) 0)) ((avS (cutC p0) 2)) ((avD (cutC p0) 2))) == (nbB ((anyOpV (cutC p0) 0)) ((avS (cutC p0) 2)) ((avD (cutC p0) 2))))), false)], [])
  else
  some ([.one ((.bool false), false)], []))
  else
  none)
  else
  (bif (!((nbB ((anyOpV (cutC p0) 0)) ((avS (cutC p0) 2)) ((avD (cutC p0) 2))) == (nbB ((anyOpV (cutC p0) 0)) ((avS (cutC p0) 2)) ((avD (cutC p0) 2))))) then
  (bif decide (((nbS ((anyOpV (cutC p0) 0)) ((avS (cutC p0) 2)) ((avD (cutC p0) 2)))).length < 9223372036854775808) && decide (((nbD ((anyOpV (cutC p0) 0)) ((avS (cutC p0) 2)) ((avD (cutC p0) 2)))).length < 9223372036854775808) && decide (((nbS ((anyOpV (cutC p0) 0)) ((avS (cutC p0) 2)) ((avD (cutC p0) 2)))).length < 9223372036854775808) && decide (((nbD ((anyOpV (cutC p0) 0)) ((avS (cutC p0) 2)) ((avD (cutC p0) 2)))).length < 9223372036854775808) then
  (bif (decide (((nbS ((anyOpV (cutC p0) 0)) ((avS (cutC p0) 2)) ((avD (cutC p0) 2)))) = ((nbS ((anyOpV (cutC p0) 0)) ((avS (cutC p0) 2)) ((avD (cutC p0) 2))))) && decide (((nbD ((anyOpV (cutC p0) 0)) ((avS (cutC p0) 2)) ((avD (cutC p0) 2)))) = ((nbD ((anyOpV (cutC p0) 0)) ((avS (cutC p0) 2)) ((avD (cutC p0) 2)))))) then
  some ([.one ((.bool ((nbB ((anyOpV (cutC p0) 0)) ((avS (cutC p0) 2)) ((avD (cutC p0) 2))) == (nbB ((anyOpV (cutC p0) 0)) ((avS (cutC p0) 2)) ((avD (cutC p0) 2))))), false)], [])
  else
  some ([.one ((.bool false), false)], []))
  else
  none)
  else
  (bif (!(nbB ((anyOpV (cutC p0) 0)) ((avS (cutC p0) 2)) ((avD (cutC p0) 2)))) then
  (bif decide (((nbS ((anyOpV (cutC p0) 0)) ((avS (cutC p0) 2)) ((avD (cutC p0) 2)))).length < 9223372036854775808) && decide (((nbD ((anyOpV (cutC p0) 0)) ((avS (cutC p0) 2)) ((avD (cutC p0) 2)))).length < 9223372036854775808) && decide (((nbS ((anyOpV (cutC p0) 0)) ((avS (cutC p0) 2)) ((avD (cutC p0) 2)))).length < 9223372036854775808) && decide (((nbD ((anyOpV (cutC p0) 0)) ((avS (cutC p0) 2)) ((avD (cutC p0) 2)))).length < 9223372036854775808) then
  (bif (decide (((nbS ((anyOpV (cutC p0) 0)) ((avS (cutC p0) 2)) ((avD (cutC p0) 2)))) = ((nbS ((anyOpV (cutC p0) 0)) ((avS (cutC p0) 2)) ((avD (cutC p0) 2))))) && decide (((nbD ((anyOpV (cutC p0) 0)) ((avS (cutC p0) 2)) ((avD (cutC p0) 2)))) = ((nbD ((anyOpV (cutC p0) 0)) ((avS (cutC p0) 2)) ((avD (cutC p0) 2)))))) then
  some ([.one ((.bool ((nbB ((anyOpV (cutC p0) 0)) ((avS (cutC p0) 2)) ((avD (cutC p0) 2))) == (nbB ((anyOpV (cutC p0) 0)) ((avS (cutC p0) 2)) ((avD (cutC p0) 2))))), false)], [])
  else
  some ([.one ((.bool false), false)], []))
  else
  none)
  else
  L0 fuel fuel (t0 p0 0) (k0  fuel))))
  else
  none)
  else
  none)
  else
  none)
  else
  none)) := by kernel_rfl
theorem s0 (fuel n0 : Nat) (p0 : List Int) (x0q0 : Int) : L0 fuel (n0 + 1) (t0 p0 x0q0) (k0  fuel) =
  (bif (decide ((x0q0 : Int) < (((avD (cutC p0) 2).length : Nat) : Int))) then
  (idx x0q0 (avD (cutC p0) 2).length).bind fun j9 =>
  ((avD (cutC p0) 2)[j9]?).bind fun v10 =>
  (bif (decide ((v10 : Int) > 10000)) then
  some ([.one ((.bool true), false)], [])
  else
  (idx x0q0 (avD (cutC p0) 2).length).bind fun j11 =>
  ((avD (cutC p0) 2)[j11]?).bind fun v12 =>
  (bif (decide ((v12 : Int) < (-10000))) then
  some ([.one ((.bool true), false)], [])
  else
  L0 fuel n0 (t0 p0 ((IntKind.wrap .i64 (x0q0 + 1)))) (k0  fuel)))
  else
  (bif decide (((avS (cutC p0) 2)).length < 9223372036854775808) && decide (((avD (cutC p0) 2)).length < 9223372036854775808) then
  (bif decide (((scS 1 ((avS (cutC p0) 2)) ((avD (cutC p0) 2)) 0)).length < 9223372036854775808) && decide (((scD 1 ((avS (cutC p0) 2)) ((avD (cutC p0) 2)) 0)).length < 9223372036854775808) then
  (bif (nbB 2 ((scS 1 ((avS (cutC p0) 2)) ((avD (cutC p0) 2)) 0)) ((scD 1 ((avS (cutC p0) 2)) ((avD (cutC p0) 2)) 0))) then
  (bif decide (((nbS 2 ((scS 1 ((avS (cutC p0) 2)) ((avD (cutC p0) 2)) 0)) ((scD 1 ((avS (cutC p0) 2)) ((avD (cutC p0) 2)) 0)))).length < 9223372036854775808) && decide (((nbD 2 ((scS 1 ((avS (cutC p0) 2)) ((avD (cutC p0) 2)) 0)) ((scD 1 ((avS (cutC p0) 2)) ((avD (cutC p0) 2)) 0)))).length < 9223372036854775808) then
  (bif decide (((avS (cutC p0) 2)).length < 9223372036854775808) && decide (((avD (cutC p0) 2)).length < 9223372036854775808) then
  (bif decide (((mapS 1 ((nbS 2 ((scS 1 ((avS (cutC p0) 2)) ((avD (cutC p0) 2)) 0)) ((scD 1 ((avS (cutC p0) 2)) ((avD (cutC p0) 2)) 0)))) ((nbD 2 ((scS 1 ((avS (cutC p0) 2)) ((avD (cutC p0) 2)) 0)) ((scD 1 ((avS (cutC p0) 2)) ((avD (cutC p0) 2)) 0)))))).length < 9223372036854775808) && decide (((mapD 1 ((nbS 2 ((scS 1 ((avS (cutC p0) 2)) ((avD (cutC p0) 2)) 0)) ((scD 1 ((avS (cutC p0) 2)) ((avD (cutC p0) 2)) 0)))) ((nbD 2 ((scS 1 ((avS (cutC p0) 2)) ((avD (cutC p0) 2)) 0)) ((scD 1 ((avS (cutC p0) 2)) ((avD (cutC p0) 2)) 0)))))).length < 9223372036854775808) && decide (((drS ((avS (cutC p0) 2)) ((avD (cutC p0) 2)) 0 1)).length < 9223372036854775808) && decide (((drD ((avS (cutC p0) 2)) ((avD (cutC p0) 2)) 0 1)).length < 9223372036854775808) then
  some ([.one ((.bool (decide (((mapS 1 ((nbS 2 ((scS 1 ((avS (cutC p0) 2)) ((avD (cutC p0) 2)) 0)) ((scD 1 ((avS (cutC p0) 2)) ((avD (cutC p0) 2)) 0)))) ((nbD 2 ((scS 1 ((avS (cutC p0) 2)) ((avD (cutC p0) 2)) 0)) ((scD 1 ((avS (cutC p0) 2)) ((avD (cutC p0) 2)) 0)))))) = ((drS ((avS (cutC p0) 2)) ((avD (cutC p0) 2)) 0 1))) && decide (((mapD 1 ((nbS 2 ((scS 1 ((avS (cutC p0) 2)) ((avD (cutC p0) 2)) 0)) ((scD 1 ((avS (cutC p0) 2)) ((avD (cutC p0) 2)) 0)))) ((nbD 2 ((scS 1 ((avS (cutC p0) 2)) ((avD (cutC p0) 2)) 0)) ((scD 1 ((avS (cutC p0) 2)) ((avD (cutC p0) 2)) 0)))))) = ((drD ((avS (cutC p0) 2)) ((avD (cutC p0) 2)) 0 1))))), false)], [])
  else
  none)
  else
  none)
  else
  none)
  else
  some ([.one ((.bool false), false)], []))
  else
  none)
  else
  none)) := by kernel_rfl
end laws_FnNeighboursOfScan
theorem laws_FnNeighboursOfScan.ok_of (hX : ∀ E ∈ laws_FnNeighboursOfScan.X, CallSpec Try.prog E) (h : ∀ (bs : List Int), (bytesB bs) = true → ∃ fuel, runF Try.prog laws_FnNeighboursOfScan.X laws_FnNeighboursOfScan.I 0 fuel 7 Try.f7 [.d (.ints .u8 bs)] = some ([.one ((.bool true), false)], [])) : CallSpec Try.prog laws_FnNeighboursOfScan.E :=
  callSpec_of (d := 0) hX (by kernel_rfl) laws_FnNeighboursOfScan.I_ok (by kernel_rfl) (by kernel_rfl) (by kernel_rfl) (fun _ _ _ _ h => by dsimp only [laws_FnNeighboursOfScan.E] at h; cases h) (fun xs hp => by
    dsimp only [laws_FnNeighboursOfScan.E] at hp ⊢
    split at hp
    · exact h _ hp
    · cases hp)
theorem laws_FnNeighboursOfScan.ok : CallSpec Try.prog laws_FnNeighboursOfScan.E := laws_FnNeighboursOfScan.ok_of (by simp [laws_FnNeighboursOfScan.X, spec_DrawNeighboursOf.ok, impl_NeighboursOf.ok, spec_NeighboursOf.ok, laws_equalArray.ok, impl_ScanAxis.ok, impl_MapArray.ok, impl_DropAxis.ok]) fun bs h => by
  obtain ⟨F, hF⟩ : ∃ F : Nat, 4000 < F := ⟨4001, by omega⟩
  refine ⟨F, ?_⟩
  rw [laws_FnNeighboursOfScan.e]
  by_cases hl : ((bs.length : Nat) : Int) > 1048576
  · rw [decide_eq_true hl]; rfl
  rw [decide_eq_false hl, cond_false, h, cond_true]
  have r0 := cut_ok h (p := 0) (by omega) (by omega)
  have r2 := rd_le (q := 2) r0 (by omega) (by omega)
  obtain ⟨a1, a2, a3, a4⟩ := av_bd r2 (by omega)
  obtain ⟨sh, hsh⟩ : ∃ x, avS (cutC bs) 2 = x := ⟨_, rfl⟩
  obtain ⟨da, hda⟩ : ∃ x, avD (cutC bs) 2 = x := ⟨_, rfl⟩
  obtain ⟨op, hop⟩ : ∃ x, anyOpV (cutC bs) 0 = x := ⟨_, rfl⟩
  rw [hsh] at a1
  rw [hda] at a2
  have g1 := lt_of (xs := sh) (by omega)
  have g2 := lt_of (xs := da) (by omega)
  have w := nb_len op sh da
  have g3 := lt_of (xs := nbS op sh da) (by omega)
  have g4 := lt_of (xs := nbD op sh da) (by omega)
  simp only [hsh, hda, hop]
  cases hb : nbB op sh da with
  | false => simp only [Bool.and_self, Bool.and_true, Bool.true_and, cond_true, cond_false, Bool.not_true, Bool.not_false, bne_self_eq_false, beq_self_eq_true, decide_true, eq_self, g1, g2, g3, g4]
  | true =>
    have hb' := hb
    simp only [nbB, Bool.and_eq_true, decide_eq_true_eq] at hb'
    obtain ⟨⟨ho, hvc⟩, h0⟩ := hb'
    obtain ⟨hv, rfl, hl, ha⟩ := vcB_inv hvc
    have hvo := vcB_vec hvc
    have s1 : nbS op [((da.length : Nat) : Int)] da = [((da.length - 1 : Nat) : Int)] := by simp only [nbS, hb, cond_true]
    have s2 : nbD op [((da.length : Nat) : Int)] da = nbN op da := by simp only [nbD, hb, cond_true]
    obtain ⟨d1, d2⟩ := dr_vec hv 1 rfl
    obtain ⟨d3, d4⟩ := dr_vec hv (-1) rfl
    have q1 : ((1 : Int)).natAbs = 1 := rfl
    have q2 : ((-1 : Int)).natAbs = 1 := rfl
    have q3 : ((1 : Int)).toNat = 1 := rfl
    have q4 : ((-1 : Int)).toNat = 0 := rfl
    rw [q1] at d1 d2
    rw [q3] at d2
    rw [q2] at d3 d4
    rw [q4] at d4
    simp only [Bool.and_self, Bool.and_true, Bool.true_and, cond_true, cond_false, Bool.not_true, Bool.not_false, bne_self_eq_false, beq_self_eq_true, decide_true, eq_self, g1, g2, g3, g4]
    refine cnt_loop (N := da.length) (fun m i (_ : Unit) => laws_FnNeighboursOfScan.L0 F m (laws_FnNeighboursOfScan.t0 bs (i : Int)) (laws_FnNeighboursOfScan.k0 F)) (fun j _ => ∀ i, i < j → -10000 ≤ da.getD i 0 ∧ da.getD i 0 ≤ 10000) ?_ ?_ F 0 () (by omega) (by omega) (fun i hi => by omega)
    · intro m _ hI
      have hm : ∀ x ∈ da, -10000 ≤ x ∧ x ≤ 10000 := fun x hx => by
        obtain ⟨i, hi, rfl⟩ := List.getElem_of_mem hx
        rw [gEd hi]
        exact hI i hi
      obtain ⟨c1, c2⟩ := scan_vec hv
      have hvs := sc_valid (op := 1) (sh := [((da.length : Nat) : Int)]) (da := da) (k := 0) (by simp [scB, axB, hv, axOk, opOk])
      have c2' : scD 1 [((da.length : Nat) : Int)] da 0 = scN 1 [((da.length : Nat) : Int)] da 0 := by
        have hsb : scB 1 [((da.length : Nat) : Int)] da 0 = true := by simp [scB, axB, hv, axOk, opOk]
        simp only [scD, hsb, cond_true]
      have hvs2 : validA [((da.length : Nat) : Int)] (tab da.length fun n => redF 1 (da.take (n + 1))) = true := by rw [← c2, c2']; exact hvs
      obtain ⟨sc, hsc⟩ : ∃ x, (tab da.length fun n => redF 1 (da.take (n + 1))) = x := ⟨_, rfl⟩
      have hscl : sc.length = da.length := by rw [← hsc, tab_length]
      rw [hsc] at c2 hvs2
      have hvc2 : vcB [((da.length : Nat) : Int)] sc = true := by simp [vcB, hvs2]
      have hb2 : nbB 2 [((da.length : Nat) : Int)] sc = true := by
        have o2 : opOk 2 = true := rfl
        simp only [nbB, o2, hvc2, Bool.and_self, Bool.true_and, decide_eq_true_eq]
        omega
      have t1 : nbS 2 [((da.length : Nat) : Int)] sc = [((da.length - 1 : Nat) : Int)] := by simp only [nbS, hb2, cond_true, hscl]
      have t2 : nbD 2 [((da.length : Nat) : Int)] sc = tab (da.length - 1) fun i => - da.getD (i + 1) 0 := by
        simp only [nbD, hb2, cond_true, nbN, hscl]
        refine tab_congr fun i hi => ?_
        rw [← hsc, tab_getD (by omega), tab_getD (by omega)]
        exact nb_scan hl hm (by omega)
      have hneg : ∀ i, -10000 ≤ da.getD i 0 ∧ da.getD i 0 ≤ 10000 := fun i => getD_all (P := fun x => -10000 ≤ x ∧ x ≤ 10000) (by omega) hm i
      have hvn : validA [((da.length - 1 : Nat) : Int)] (tab (da.length - 1) fun i => - da.getD (i + 1) 0) = true := by
        have := validA_vec (xs := tab (da.length - 1) fun i => - da.getD (i + 1) 0) (vec_part (by rw [tab_length]; omega) (tab_mem' (P := fun x => -1000000 ≤ x ∧ x ≤ 1000000) fun i _ => by have := hneg (i + 1); omega))
        rwa [tab_length] at this
      have hmb : mapB 1 [((da.length - 1 : Nat) : Int)] (tab (da.length - 1) fun i => - da.getD (i + 1) 0) = true := by
        have o1 : fnOk 1 = true := rfl
        simp only [mapB, o1, hvn, Bool.and_self]
      have m1 : mapS 1 [((da.length - 1 : Nat) : Int)] (tab (da.length - 1) fun i => - da.getD (i + 1) 0) = [((da.length - 1 : Nat) : Int)] := by simp only [mapS, hmb, cond_true]
      have m2 : mapD 1 [((da.length - 1 : Nat) : Int)] (tab (da.length - 1) fun i => - da.getD (i + 1) 0) = tab (da.length - 1) fun i => da.getD (1 + i) 0 := by
        simp only [mapD, hmb, cond_true, tab_length]
        refine tab_congr fun i hi => ?_
        rw [tab_getD hi, Nat.add_comm 1 i]
        have := hneg (i + 1)
        show IntKind.wrap .i64 (0 - - da.getD (i + 1) 0) = _
        rw [wS (by omega) (by omega)]; omega
      have f1 := lt_of (xs := sc) (by omega)
      have f2 := lt_of (xs := ([((da.length - 1 : Nat) : Int)] : List Int)) (by simp)
      have f3 := lt_of (xs := tab (da.length - 1) fun i => - da.getD (i + 1) 0) (by rw [tab_length]; omega)
      have f4 := lt_of (xs := tab (da.length - 1) fun i => da.getD (1 + i) 0) (by rw [tab_length]; omega)
      rw [laws_FnNeighboursOfScan.s0]
      simp only [hsh, hda, hop]
      rw [dge (by omega), cond_false, c1, c2, hb2, t1, t2, m1, m2, d1, d2]
      simp only [Bool.and_self, Bool.and_true, Bool.true_and, cond_true, cond_false, Bool.not_true, Bool.not_false, bne_self_eq_false, beq_self_eq_true, decide_true, eq_self, g1, g2, f1, f2, f3, f4]
    · intro m j _ hj hI
      rw [laws_FnNeighboursOfScan.s0]
      simp only [hsh, hda, hop]
      rw [dlt hj, cond_true, idx_nat hj]
      simp only [Option.bind_some, getD_get hj]
      by_cases c1 : da.getD j 0 > 10000
      · refine .inl ?_
        rw [decide_eq_true c1]; rfl
      by_cases c2 : da.getD j 0 < -10000
      · refine .inl ?_
        rw [decide_eq_false c1, decide_eq_true c2]; rfl
      rw [decide_eq_false c1, decide_eq_false c2, w1 (by omega)]
      refine .inr ⟨(), fun i hi => ?_, rfl⟩
      by_cases hij : i = j
      · subst hij; omega
      · exact hI i (by omega)

namespace impl_WindowsOf
noncomputable def E : Entry := ⟨15, false, false, fun | [.d (.agg [(.ints .i64 sh), (.ints .i64 da)]), .d (.int .i64 n)] => decide (sh.length < 9223372036854775808) && decide (da.length < 9223372036854775808) | _ => false, fun | [.d (.agg [(.ints .i64 sh), (.ints .i64 da)]), .d (.int .i64 n)] => ([.agg [((.ints .i64 (wiS sh da n)), true), ((.ints .i64 (wiD sh da n)), true)], .one ((.bool (wiB sh da n)), false)], []) | _ => ([], []), fun _ => [], true, fun _ => none⟩
end impl_WindowsOf
namespace impl_WindowsOf
noncomputable def X : List Entry := [impl_isVector.E, impl_layoutOf_j.E]
noncomputable def I : List Inl := [⟨15, Try.f15, ⟨[11, 22], [(1, [0, 1, 5, 6, 7, 8, 9, 10, 11, 12, 13, 14, 15, 16, 17, 18, 19, 20, 21, 22, 23, 24]), (4, [0, 1, 2, 5, 7, 8, 9, 10, 11, 12, 13, 14, 15, 16, 17, 18, 19, 20, 21, 22, 23, 24])], [(4, [6, 3])], [], [], []⟩⟩, ⟨39, Try.f39, ⟨[], [(1000005, [0, 3, 4, 5, 7, 8, 9, 10, 11, 12, 13, 14, 15, 16, 17, 18, 19, 20, 21, 22, 23, 24, 25, 26, 27, 28, 29, 30, 33, 34, 35, 36, 37, 38, 39, 40, 41, 42, 43, 44, 45, 46])], [], [], [], []⟩⟩, ⟨40, Try.f40, ⟨[12], [(1000006, [2, 3, 5, 6, 7, 9, 10, 11, 12, 13, 14, 15, 16, 17, 18, 19, 20, 21, 24, 25, 26, 27, 28, 29, 30, 31, 32, 33, 34, 35])], [], [], [], []⟩⟩, ⟨41, Try.f41, ⟨[], [], [], [(1, [1, 6, 0, 2, 3, 4, 5, 7, 8, 9, 10, 11])], [], []⟩⟩]
theorem I_ok : ∀ i ∈ I, Try.prog.funcs[i.f]? = some i.fn ∧ (i.fn.name == "runtime.NumGoroutine") = false := by
  intro i hi
  simp only [I, List.mem_cons, List.not_mem_nil, or_false] at hi
  rcases hi with rfl | rfl | rfl | rfl
  all_goals exact ⟨by kernel_rfl, by kernel_rfl⟩
noncomputable abbrev L0 (fuel n : Nat) (s : St) (k : Kont) := lAt Try.prog X I fuel true 3 false 39 (bodyOf Try.f39) [1, 1, 1, 0, 1, 0] n s k
noncomputable abbrev k0  (fuel : Nat) : Kont := (kAt Try.prog X I fuel true 3 false 39 (bodyOf Try.f39) [1, 1, 1, 0, 1, 0] [] (endFn Try.prog Try.f39 25 (kOp Try.prog X I fuel true 4 15 (cAt (bodyOf Try.f15) [1, 0]) 2 (kAt Try.prog X I fuel true 4 false 15 (bodyOf Try.f15) [1, 0] [] (endK Try.prog Try.f15)))))
noncomputable def t0 (p1 : Int) (p0q1 : List Int) (p0q0 : List Int) (x0q2 : Int) (x0q8 : List D) : St := ⟨[.dead, (.imm (.int .i64 p1)), (.ptr 1000000003 0 0), .dead, .dead, .dead, (.all 1000000004 1), .dead, .dead, .dead, .dead, .dead, .dead, .dead, .dead, .dead, .dead, .dead, .dead, .dead, .dead, .dead, .dead, .dead, .dead, .dead, .dead, .dead, .dead, .dead, .dead, (.imm (.int .i64 (((List.replicate ((IntKind.wrap .i64 ((IntKind.wrap .i64 (((p0q1.length : Nat) : Int) + 1)) - p1))).toNat (D.ints .i64 [])).length : Nat) : Int))), (.imm (.int .i64 x0q2)), .dead, .dead, .dead, .dead, .dead, .dead, .dead, .dead, .dead, .dead, .dead, .dead, .dead, .dead], hOf [(1000000000, (.box [(.imm (.ints .i64 p0q0)), (.imm (.ints .i64 p0q1))])), (1000000001, (.box [(.imm (.int .i64 p1))])), (1000000002, (.box [(.imm .nils), (.imm .nils)])), (1000000003, (.box [(.imm (.ints .i64 p0q0)), (.imm (.ints .i64 p0q1))])), (1000000004, (.ds 1 x0q8))], [.dead, .dead, (.ptr 1000000000 0 0), (.ptr 1000000001 0 0), (.ptr 1000000002 0 0), .dead, .dead, .dead, .dead, (.agg [(.imm (.ints .i64 p0q0)), (.imm (.ints .i64 p0q1))]), (.imm (.int .i64 p1)), .dead, .dead, .dead, .dead, .dead, .dead, .dead, .dead, .dead, .dead, .dead, .dead, .dead, .dead, (.tup [])], []⟩
noncomputable abbrev L1 (fuel n : Nat) (s : St) (k : Kont) := lAt Try.prog X I fuel true 3 false 40 (bodyOf Try.f40) [1, 1, 1, 1, 0, 1, 0] n s k
noncomputable abbrev k1  (fuel : Nat) : Kont := (kAt Try.prog X I fuel true 3 false 40 (bodyOf Try.f40) [1, 1, 1, 1, 0, 1, 0] [] (endFn Try.prog Try.f40 25 (kOp Try.prog X I fuel true 4 15 (cAt (bodyOf Try.f15) [1, 1, 1, 0]) 5 (kAt Try.prog X I fuel true 4 false 15 (bodyOf Try.f15) [1, 1, 1, 0] [] (endK Try.prog Try.f15)))))
noncomputable def t1 (p1 : Int) (x0q8 : List D) (x1q2 : Int) (x1q4 : List Int) : St := ⟨[(.all 1000000001 1), (.clo 41 [(.ptr 1000000002 0 0), (.dptr [(.int .i64 p1)] 0)]), .dead, .dead, (.ptr 1000000003 0 0), .dead, .dead, .dead, (.all 1000000004 1), .dead, .dead, .dead, .dead, .dead, .dead, .dead, .dead, .dead, .dead, .dead, .dead, .dead, (.imm (.int .i64 (((List.replicate ((volW ([((x0q8.length : Nat) : Int), p1]))).toNat (0 : Int)).length : Nat) : Int))), (.imm (.int .i64 x1q2)), .dead, .dead, .dead, .dead, .dead, .dead, .dead, .dead, .dead, .dead, .dead, .dead], hOf [(1000000000, (.box [(.imm .nils), (.imm .nils)])), (1000000001, (.ints .i64 [((x0q8.length : Nat) : Int), p1])), (1000000002, (.box [(.all 1000000005 1)])), (1000000003, (.box [(.imm .nils), (.imm .nils)])), (1000000004, (.ints .i64 x1q4)), (1000000005, (.ds 1 x0q8))], [.dead, .dead, .dead, (.dptr [(.int .i64 p1)] 0), (.ptr 1000000000 0 0), .dead, (.ptr 1000000002 0 0), .dead, .dead, .dead, .dead, .dead, .dead, .dead, .dead, .dead, .dead, (.all 1000000005 1), (.imm (.int .i64 ((x0q8.length : Nat) : Int))), (.imm (.int .i64 p1)), (.all 1000000001 1), (.clo 41 [(.ptr 1000000002 0 0), (.dptr [(.int .i64 p1)] 0)]), .dead, .dead, .dead, (.tup [])], []⟩
theorem e (fuel : Nat) (p0q0 : List Int) (p0q1 : List Int) (p1 : Int) : runF Try.prog X I 4 fuel 15 Try.f15 [.d (.agg [(.ints .i64 p0q0), (.ints .i64 p0q1)]), .d (.int .i64 p1)] =
  (bif decide (p0q0.length < 9223372036854775808) && decide (p0q1.length < 9223372036854775808) then
  (bif (!(vcB p0q0 p0q1)) then
  some ([.agg [((.ints .i64 []), true), ((.ints .i64 []), true)], .one ((.bool false), false)], [])
  else
  (bif (decide ((p1 : Int) < 1)) then
  some ([.agg [((.ints .i64 []), true), ((.ints .i64 []), true)], .one ((.bool false), false)], [])
  else
  (bif (decide ((p1 : Int) > (IntKind.wrap .i64 (((p0q1.length : Nat) : Int) + 1)))) then
  some ([.agg [((.ints .i64 []), true), ((.ints .i64 []), true)], .one ((.bool false), false)], [])
  else
  (bif decide (0 ≤ ((IntKind.wrap .i64 ((IntKind.wrap .i64 (((p0q1.length : Nat) : Int) + 1)) - p1)) : Int)) && decide (((IntKind.wrap .i64 ((IntKind.wrap .i64 (((p0q1.length : Nat) : Int) + 1)) - p1)) : Int) ≤ (IntKind.wrap .i64 ((IntKind.wrap .i64 (((p0q1.length : Nat) : Int) + 1)) - p1))) && decide (((IntKind.wrap .i64 ((IntKind.wrap .i64 (((p0q1.length : Nat) : Int) + 1)) - p1)) : Int) ≤ 1152921504606846976) && decide (((24 : Nat) : Int) * (IntKind.wrap .i64 ((IntKind.wrap .i64 (((p0q1.length : Nat) : Int) + 1)) - p1)) ≤ 281474976710656) then
  L0 fuel fuel (t0 p1 p0q1 p0q0 0 ((List.replicate ((IntKind.wrap .i64 ((IntKind.wrap .i64 (((p0q1.length : Nat) : Int) + 1)) - p1))).toNat (D.ints .i64 [])))) (k0  fuel)
  else
  none))))
  else
  none) := by kernel_rfl
theorem s0 (fuel n0 : Nat) (p1 : Int) (p0q1 : List Int) (p0q0 : List Int) (x0q2 : Int) (x0q8 : List D) : L0 fuel (n0 + 1) (t0 p1 p0q1 p0q0 x0q2 x0q8) (k0  fuel) =
  (bif (decide ((x0q2 : Int) < (((List.replicate ((IntKind.wrap .i64 ((IntKind.wrap .i64 (((p0q1.length : Nat) : Int) + 1)) - p1))).toNat (D.ints .i64 [])).length : Nat) : Int))) then
  (cutEnds p0q1.length (some (.imm (.int .i64 x0q2))) (some (.imm (.int .i64 (IntKind.wrap .i64 (x0q2 + p1)))))).bind fun cq30 =>
  (idx x0q2 x0q8.length).bind fun j31 =>
  (bif decide (j31 < x0q8.length) then
  L0 fuel n0 (t0 p1 p0q1 p0q0 ((IntKind.wrap .i64 (x0q2 + 1))) ((x0q8.set j31 (.ints .i64 ((p0q1.drop cq30.1).take (cq30.2 - cq30.1)))))) (k0  fuel)
  else
  none)
  else
  (bif decide (([((x0q8.length : Nat) : Int), p1]).length < 9223372036854775808) then
  (bif validS ([((x0q8.length : Nat) : Int), p1]) then
  (bif decide (0 ≤ ((volW ([((x0q8.length : Nat) : Int), p1])) : Int)) && decide (((volW ([((x0q8.length : Nat) : Int), p1])) : Int) ≤ (volW ([((x0q8.length : Nat) : Int), p1]))) && decide (((volW ([((x0q8.length : Nat) : Int), p1])) : Int) ≤ 1152921504606846976) && decide (((8 : Nat) : Int) * (volW ([((x0q8.length : Nat) : Int), p1])) ≤ 281474976710656) then
  L1 fuel fuel (t1 p1 x0q8 0 ((List.replicate ((volW ([((x0q8.length : Nat) : Int), p1]))).toNat (0 : Int)))) (k1  fuel)
  else
  none)
  else
  some ([.agg [((.ints .i64 []), true), ((.ints .i64 []), true)], .one ((.bool false), false)], []))
  else
  none)) := by kernel_rfl
theorem s1 (fuel n1 : Nat) (p1 : Int) (x0q8 : List D) (x1q2 : Int) (x1q4 : List Int) : L1 fuel (n1 + 1) (t1 p1 x0q8 x1q2 x1q4) (k1  fuel) =
  (bif (decide ((x1q2 : Int) < (((List.replicate ((volW ([((x0q8.length : Nat) : Int), p1]))).toNat (0 : Int)).length : Nat) : Int))) then
  (bif decide ((p1 : Int) = 0) then
  none
  else
  (idx (IntKind.wrap .i64 (Int.tdiv x1q2 p1)) x0q8.length).bind fun j37 =>
  (getI .i64 x0q8 j37).bind fun v38 =>
  (bif decide ((p1 : Int) = 0) then
  none
  else
  (idx (Int.tmod x1q2 p1) v38.length).bind fun j39 =>
  (v38[j39]?).bind fun v40 =>
  (idx x1q2 x1q4.length).bind fun j41 =>
  (bif decide (j41 < x1q4.length) then
  L1 fuel n1 (t1 p1 x0q8 ((IntKind.wrap .i64 (x1q2 + 1))) ((x1q4.set j41 v40))) (k1  fuel)
  else
  none)))
  else
  some ([.agg [((.ints .i64 [((x0q8.length : Nat) : Int), p1]), true), ((.ints .i64 x1q4), true)], .one ((.bool true), false)], [])) := by kernel_rfl
end impl_WindowsOf
theorem impl_WindowsOf.ok_of (hX : ∀ E ∈ impl_WindowsOf.X, CallSpec Try.prog E) (h : ∀ (sh : List Int) (da : List Int) (n : Int), (decide (sh.length < 9223372036854775808) && decide (da.length < 9223372036854775808)) = true → ∃ fuel, runF Try.prog impl_WindowsOf.X impl_WindowsOf.I 4 fuel 15 Try.f15 [.d (.agg [(.ints .i64 sh), (.ints .i64 da)]), .d (.int .i64 n)] = some ([.agg [((.ints .i64 (wiS sh da n)), true), ((.ints .i64 (wiD sh da n)), true)], .one ((.bool (wiB sh da n)), false)], [])) : CallSpec Try.prog impl_WindowsOf.E :=
  callSpec_of (d := 4) hX (by kernel_rfl) impl_WindowsOf.I_ok (by kernel_rfl) (by kernel_rfl) (by kernel_rfl) (fun _ _ _ _ h => by dsimp only [impl_WindowsOf.E] at h; cases h) (fun xs hp => by
    dsimp only [impl_WindowsOf.E] at hp ⊢
    split at hp
    · exact h _ _ _ hp
    · cases hp)
theorem impl_WindowsOf.ok : CallSpec Try.prog impl_WindowsOf.E := impl_WindowsOf.ok_of (by simp [impl_WindowsOf.X, impl_isVector.ok, impl_layoutOf_j.ok]) fun sh da n h => by
  obtain ⟨F, hF⟩ : ∃ F : Nat, 4000 < F := ⟨4001, by omega⟩
  refine ⟨F, ?_⟩
  rw [impl_WindowsOf.e, h, cond_true]
  cases hb : vcB sh da with
  | false => simp only [wiS, wiD, wiB, wiK, hb]; rfl
  | true =>
    obtain ⟨_, _, hl, _⟩ := vcB_inv hb
    by_cases hn1 : n < 1
    · have hK : wiK sh da n = false := by simp [wiK]; omega
      rw [decide_eq_true hn1]
      simp only [wiS, wiD, wiB, hK]; rfl
    by_cases hn2 : n > ((da.length + 1 : Nat) : Int)
    · have hK : wiK sh da n = false := by simp [wiK]; omega
      rw [decide_eq_false hn1, w1 (by omega), decide_eq_true hn2]
      simp only [wiS, wiD, wiB, hK]; rfl
    have hK : wiK sh da n = true := by simp [wiK, hb]; omega
    obtain ⟨k, rfl, k1, k2, _⟩ := wiK_inv hK
    have eC := wiC k2 hl
    have eW := w1 (j := da.length) (by omega)
    rw [decide_eq_false hn1, eW, decide_eq_false hn2]
    rw [eW] at eC
    rw [eC]
    have hXl := wiL_length da k
    simp only [Bool.not_true, cond_false]
    rw [decide_eq_true (p := (0:Int) ≤ ((da.length + 1 - k : Nat) : Int)) (by omega), decide_eq_true (p := ((da.length + 1 - k : Nat) : Int) ≤ ((da.length + 1 - k : Nat) : Int)) (by omega), decide_eq_true (p := ((da.length + 1 - k : Nat) : Int) ≤ 1152921504606846976) (by omega), decide_eq_true (p := ((24 : Nat) : Int) * ((da.length + 1 - k : Nat) : Int) ≤ 281474976710656) (by omega)]
    simp only [Bool.and_self, cond_true, Int.toNat_natCast]
    refine run_loop (N := da.length + 1 - k) (fun m j xs => impl_WindowsOf.L0 F m (impl_WindowsOf.t0 (k : Int) da sh (j : Int) xs) (impl_WindowsOf.k0 F)) (fun j xs => xs = partX (wiL da k) j) ?_ ?_ F 0 _ (by omega) (by omega) (by rw [partX_zero, hXl])
    · intro m xs hI
      rw [show partX (wiL da k) (da.length + 1 - k) = dL (wiL da k) by rw [← hXl]; exact partX_all _] at hI
      subst hI
      rw [impl_WindowsOf.s0, eW, eC]
      simp only [Int.toNat_natCast, List.length_replicate]
      rw [dge (by omega), cond_false]
      have hdl : (dL (wiL da k)).length = da.length + 1 - k := by rw [dL_length, hXl]
      simp only [hdl]
      rw [lt_of (by simp), cond_true]
      cases hs : validS ([((da.length + 1 - k : Nat) : Int), (k : Int)] : List Int) with
      | false =>
        have hB : wiB sh da (k : Int) = false := by simp only [wiB, hK, wiSh, Int.toNat_natCast, hs, Bool.and_false]
        simp only [wiS, wiD, hB]
        rfl
      | true =>
        have hB : wiB sh da (k : Int) = true := by simp only [wiB, hK, wiSh, Int.toNat_natCast, hs, Bool.and_self]
        have hvo := wi_vol (da := da) (n := k) (by unfold wiSh; rw [Int.toNat_natCast]; exact hs)
        have hvo1 := hvo.1
        unfold wiSh at hvo1
        rw [Int.toNat_natCast] at hvo1
        rw [hvo1]
        have hA := wiN_length da k
        rw [mkOk (by omega) (by omega), cond_true, cond_true, Int.toNat_natCast]
        simp only [wiS, wiD, hB, wiSh, Int.toNat_natCast]
        refine run_loop (N := (da.length + 1 - k) * k) (fun m2 i out => impl_WindowsOf.L1 F m2 (impl_WindowsOf.t1 (k : Int) (dL (wiL da k)) (i : Int) out) (impl_WindowsOf.k1 F)) (fun i out => out = part (wiN da k) i) ?_ ?_ F 0 _ (by omega) (by omega) (by rw [part_zero, hA])
        · intro m2 out hI
          have hall := part_all (wiN da k)
          rw [hA] at hall
          rw [hall] at hI
          rw [impl_WindowsOf.s1]
          simp only [hdl, hvo1, Int.toNat_natCast, List.length_replicate]
          rw [dge (by omega), cond_false, hI]
          rfl
        · intro m2 i out hi hI
          have hol : out.length = (da.length + 1 - k) * k := by rw [hI, part_length (by omega), hA]
          have hq : i / k < da.length + 1 - k := Nat.div_lt_of_lt_mul (by rw [Nat.mul_comm]; exact hi)
          have hm : i % k < k := Nat.mod_lt _ (by omega)
          have hwl := wpL_length (da := da) (n := k) (i := i / k) (by omega)
          have ed : Int.tdiv (i : Int) (k : Int) = ((i / k : Nat) : Int) := rfl
          have hg : (wpL da k (i / k))[i % k]? = some (da.getD (i / k + i % k) 0) := by
            rw [wpL_tab (by omega), tab_get hm]
          rw [impl_WindowsOf.s1]
          simp only [hdl, hvo1, Int.toNat_natCast, List.length_replicate]
          rw [dlt hi, cond_true, decide_eq_false (p := (k : Int) = 0) (by omega), cond_false, ed, wN (n := i / k) (by omega), idx_nat hq, tmodN, w1 (by omega)]
          simp only [Option.bind_some, getI_dL, wiL_get' hq, cond_false]
          rw [hwl, idx_nat hm, idx_nat (j := i) (by omega)]
          simp only [Option.bind_some, hg]
          rw [decide_eq_true (by omega), cond_true]
          refine ⟨_, ?_, rfl⟩
          rw [hI, part_set (by omega)]
          simp only [wiN]
          rw [tab_getD hi]
    · intro m j xs hj hI
      have hle : xs.length = da.length + 1 - k := by rw [hI, partX_length (by omega), hXl]
      rw [impl_WindowsOf.s0, eW, eC]
      simp only [Int.toNat_natCast, List.length_replicate]
      rw [dlt hj, cond_true, w1 (by omega), wAdd (by omega), cut_both (by omega) (by omega), idx_nat (by omega)]
      simp only [Option.bind_some]
      rw [decide_eq_true (by omega), cond_true, show (da.drop j).take (j + k - j) = wpL da k j by rw [Nat.add_sub_cancel_left]; rfl]
      exact ⟨_, by rw [hI, wiX_set (by omega)], rfl⟩

namespace slices_Concat_int_int
noncomputable def E : Entry := ⟨67, false, false, fun | [.d (.seq 1 [(.ints .i64 xs), (.ints .i64 ys)])] => szB xs && szB ys | _ => false, fun | [.d (.seq 1 [(.ints .i64 xs), (.ints .i64 ys)])] => ([.one ((.ints .i64 (xs ++ ys)), true)], []) | _ => ([], []), fun _ => [], true, fun _ => none⟩
end slices_Concat_int_int
namespace slices_Concat_int_int
noncomputable def X : List Entry := []
noncomputable def I : List Inl := [⟨67, Try.f67, ⟨[24], [(9, [1, 2, 4, 5, 6, 7, 8, 9, 10, 11, 12, 13, 14, 15, 16, 17, 18, 19, 20, 21, 22, 23, 24, 25, 26, 27, 28, 29, 30, 31, 32, 33, 34, 35]), (1000003, [1, 2, 4, 5, 6, 7, 8, 12, 13, 14, 15, 16, 17, 18, 19, 20, 21, 22, 23, 24, 25, 26, 27, 28, 29, 30, 31, 32, 33, 34, 35]), (1000011, [0, 1, 2, 3, 4, 5, 7, 8, 9, 10, 11, 12, 13, 14, 15, 16, 17, 18, 19, 20, 21, 22, 23, 24, 28, 29, 30, 31, 32, 33, 34, 35])], [], [], [], []⟩⟩, ⟨101, Try.f101, ⟨[], [], [], [], [], []⟩⟩]
theorem I_ok : ∀ i ∈ I, Try.prog.funcs[i.f]? = some i.fn ∧ (i.fn.name == "runtime.NumGoroutine") = false := by
  intro i hi
  simp only [I, List.mem_cons, List.not_mem_nil, or_false] at hi
  rcases hi with rfl | rfl
  all_goals exact ⟨by kernel_rfl, by kernel_rfl⟩
theorem e (p0e0 : List Int) (p0e1 : List Int) : runF Try.prog X I 4 8 67 Try.f67 [.d (.seq 1 [(.ints .i64 p0e0), (.ints .i64 p0e1)])] =
  (bif (decide (((IntKind.wrap .i64 (0 + ((p0e0.length : Nat) : Int))) : Int) < 0)) then
  none
  else
  (bif (decide (((IntKind.wrap .i64 ((IntKind.wrap .i64 (0 + ((p0e0.length : Nat) : Int))) + ((p0e1.length : Nat) : Int))) : Int) < 0)) then
  none
  else
  (bif (decide (((IntKind.wrap .i64 ((IntKind.wrap .i64 (0 + ((p0e0.length : Nat) : Int))) + ((p0e1.length : Nat) : Int))) : Int) < 0)) then
  none
  else
  (bif (decide (((IntKind.wrap .i64 ((IntKind.wrap .i64 ((IntKind.wrap .i64 (0 + ((p0e0.length : Nat) : Int))) + ((p0e1.length : Nat) : Int))) - 0)) : Int) > 0)) then
  (cutEnds 0 (none) (some (.imm (.int .i64 0)))).bind fun cq3 =>
  (bif decide (0 ≤ ((IntKind.wrap .i64 ((IntKind.wrap .i64 ((IntKind.wrap .i64 (0 + ((p0e0.length : Nat) : Int))) + ((p0e1.length : Nat) : Int))) - 0)) : Int)) && fits ((IntKind.wrap .i64 ((IntKind.wrap .i64 ((IntKind.wrap .i64 (0 + ((p0e0.length : Nat) : Int))) + ((p0e1.length : Nat) : Int))) - 0))).toNat 8 then
  (cutEnds (List.replicate ((IntKind.wrap .i64 ((IntKind.wrap .i64 ((IntKind.wrap .i64 (0 + ((p0e0.length : Nat) : Int))) + ((p0e1.length : Nat) : Int))) - 0))).toNat (0 : Int)).length (none) (some (.imm (.int .i64 0)))).bind fun cq4 =>
  (bif decide (cq4.1 = 0) && decide ((cq4.2 - cq4.1) ≤ (List.replicate ((IntKind.wrap .i64 ((IntKind.wrap .i64 ((IntKind.wrap .i64 (0 + ((p0e0.length : Nat) : Int))) + ((p0e1.length : Nat) : Int))) - 0))).toNat (0 : Int)).length) && fits ((cq4.2 - cq4.1) + p0e0.length) 8 then
  (bif fits (((List.replicate ((IntKind.wrap .i64 ((IntKind.wrap .i64 ((IntKind.wrap .i64 (0 + ((p0e0.length : Nat) : Int))) + ((p0e1.length : Nat) : Int))) - 0))).toNat (0 : Int)).take ((cq4.2 - cq4.1)) ++ p0e0).length + p0e1.length) 8 then
  some ([.one ((.ints .i64 (((List.replicate ((IntKind.wrap .i64 ((IntKind.wrap .i64 ((IntKind.wrap .i64 (0 + ((p0e0.length : Nat) : Int))) + ((p0e1.length : Nat) : Int))) - 0))).toNat (0 : Int)).take ((cq4.2 - cq4.1)) ++ p0e0) ++ p0e1)), true)], [])
  else
  none)
  else
  none)
  else
  none)
  else
  (bif fits p0e0.length 8 then
  (bif fits (p0e0.length + p0e1.length) 8 then
  some ([.one ((.ints .i64 (p0e0 ++ p0e1)), true)], [])
  else
  none)
  else
  none))))) := by kernel_rfl
end slices_Concat_int_int
theorem slices_Concat_int_int.ok_of (hX : ∀ E ∈ slices_Concat_int_int.X, CallSpec Try.prog E) (h : ∀ (xs : List Int) (ys : List Int), (szB xs && szB ys) = true → ∃ fuel, runF Try.prog slices_Concat_int_int.X slices_Concat_int_int.I 4 fuel 67 Try.f67 [.d (.seq 1 [(.ints .i64 xs), (.ints .i64 ys)])] = some ([.one ((.ints .i64 (xs ++ ys)), true)], [])) : CallSpec Try.prog slices_Concat_int_int.E :=
  callSpec_of (d := 4) hX (by kernel_rfl) slices_Concat_int_int.I_ok (by kernel_rfl) (by kernel_rfl) (by kernel_rfl) (fun _ _ _ _ h => by dsimp only [slices_Concat_int_int.E] at h; cases h) (fun xs hp => by
    dsimp only [slices_Concat_int_int.E] at hp ⊢
    split at hp
    · exact h _ _ hp
    · cases hp)
theorem slices_Concat_int_int.ok : CallSpec Try.prog slices_Concat_int_int.E := slices_Concat_int_int.ok_of (by simp [slices_Concat_int_int.X]) fun xs ys h => ⟨8, by
  simp only [Bool.and_eq_true] at h
  have h1 := szB_le h.1
  have h2 := szB_le h.2
  have e0 : IntKind.wrap .i64 (0 + ((xs.length : Nat) : Int)) = ((xs.length : Nat) : Int) := by rw [Int.zero_add, wN (by omega)]
  have e1 : IntKind.wrap .i64 (((xs.length : Nat) : Int) + ((ys.length : Nat) : Int)) = ((xs.length + ys.length : Nat) : Int) := wAdd (by omega)
  have e2 : IntKind.wrap .i64 (((xs.length + ys.length : Nat) : Int) - 0) = ((xs.length + ys.length : Nat) : Int) := by rw [Int.sub_zero, wN (by omega)]
  rw [slices_Concat_int_int.e, e0, e1, e2, decide_eq_false (p := ((xs.length : Nat) : Int) < 0) (by omega), decide_eq_false (p := ((xs.length + ys.length : Nat) : Int) < 0) (by omega), cond_false, cond_false, cond_false]
  by_cases h0 : ((xs.length + ys.length : Nat) : Int) > 0
  · rw [decide_eq_true h0, cond_true, Int.toNat_natCast, show (some (AV.imm (.int .i64 0)) : Option AV) = some (.imm (.int .i64 ((0 : Nat) : Int))) from rfl, cut_hi (Nat.le_refl 0), cut_hi (Nat.zero_le _)]
    simp only [Option.bind_some]
    rw [decide_eq_true (p := (0 : Int) ≤ ((xs.length + ys.length : Nat) : Int)) (by omega), fitsOk (by omega)]
    simp only [Nat.sub_self, List.take_zero, List.nil_append, Nat.zero_le, decide_true, Bool.and_self, Bool.true_and, cond_true, Nat.zero_add]
    rw [fitsOk (by omega), cond_true, fitsOk (by omega), cond_true]
  · rw [decide_eq_false h0, cond_false, fitsOk (by omega), cond_true, fitsOk (by omega), cond_true]⟩

namespace impl_ReduceAxis_1
noncomputable def E : Entry := ⟨68, true, false, fun | [.d (.int .i64 n), .d (.pbox [(.fn false dom G)]), .d (.pbox [(.ints .i64 sh), (.ints .i64 da)]), .d (.pbox [(.int .i64 k)])] => axB sh da k && lnB sh k n && dom [.l (lnN sh da k n)] | _ => false, fun | [.d (.int .i64 n), .d (.pbox [(.fn false dom G)]), .d (.pbox [(.ints .i64 sh), (.ints .i64 da)]), .d (.pbox [(.int .i64 k)])] => ([.one ((.int .i64 (G [.l (lnN sh da k n)])), false)], []) | _ => ([], []), fun _ => [], false, fun _ => none⟩
end impl_ReduceAxis_1
namespace impl_ReduceAxis_1
noncomputable def X : List Entry := [impl_lineOf.E]
noncomputable def I : List Inl := [⟨68, Try.f68, ⟨[10], [], [], [(1, [3, 0, 1, 2, 4, 5, 6])], [], []⟩⟩]
theorem I_ok : ∀ i ∈ I, Try.prog.funcs[i.f]? = some i.fn ∧ (i.fn.name == "runtime.NumGoroutine") = false := by
  intro i hi
  simp only [I, List.mem_cons, List.not_mem_nil, or_false] at hi
  subst hi
  exact ⟨by kernel_rfl, by kernel_rfl⟩
theorem e (fuel : Nat) (p0 : Int) (f0q0d : List Q → Bool) (f0q0g : List Q → Int) (f1q0 : List Int) (f1q1 : List Int) (f2q0 : Int) : runF Try.prog X I 0 fuel 68 Try.f68 [.d (.int .i64 p0), .d (.pbox [(.fn false f0q0d f0q0g)]), .d (.pbox [(.ints .i64 f1q0), (.ints .i64 f1q1)]), .d (.pbox [(.int .i64 f2q0)])] =
  (bif axB f1q0 f1q1 f2q0 && lnB f1q0 f2q0 p0 then
  (bif (f0q0d [Q.l ((lnN f1q0 f1q1 f2q0 p0))]) then
  some ([.one ((.int .i64 (f0q0g [Q.l ((lnN f1q0 f1q1 f2q0 p0))])), false)], [])
  else
  none)
  else
  none) := by kernel_rfl
end impl_ReduceAxis_1
theorem impl_ReduceAxis_1.ok_of (hX : ∀ E ∈ impl_ReduceAxis_1.X, CallSpec Try.prog E) (h : ∀ (n : Int) (dom : List Q → Bool) (G : List Q → Int) (sh : List Int) (da : List Int) (k : Int), (axB sh da k && lnB sh k n && dom [.l (lnN sh da k n)]) = true → ∃ fuel, runF Try.prog impl_ReduceAxis_1.X impl_ReduceAxis_1.I 0 fuel 68 Try.f68 [.d (.int .i64 n), .d (.pbox [(.fn false dom G)]), .d (.pbox [(.ints .i64 sh), (.ints .i64 da)]), .d (.pbox [(.int .i64 k)])] = some ([.one ((.int .i64 (G [.l (lnN sh da k n)])), false)], [])) : CallSpec Try.prog impl_ReduceAxis_1.E :=
  callSpec_of (d := 0) hX (by kernel_rfl) impl_ReduceAxis_1.I_ok (by kernel_rfl) (by kernel_rfl) (by kernel_rfl) (fun _ _ _ _ h => by dsimp only [impl_ReduceAxis_1.E] at h; cases h) (fun xs hp => by
    dsimp only [impl_ReduceAxis_1.E] at hp ⊢
    split at hp
    · exact h _ _ _ _ _ _ hp
    · cases hp)
theorem impl_ReduceAxis_1.ok : CallSpec Try.prog impl_ReduceAxis_1.E := impl_ReduceAxis_1.ok_of (by simp [impl_ReduceAxis_1.X, impl_lineOf.ok]) fun n dom G sh da k h => ⟨0, by
  rw [impl_ReduceAxis_1.e]
  simp only [Bool.and_eq_true] at h
  rw [h.1.1, h.1.2, h.2]
  rfl⟩

namespace impl_ReduceAxis
noncomputable def E : Entry := ⟨26, false, false, fun | [.d (.int .i64 op), .d (.agg [(.ints .i64 sh), (.ints .i64 da)]), .d (.int .i64 k)] => decide (sh.length < 9223372036854775808) && decide (da.length < 9223372036854775808) | _ => false, fun | [.d (.int .i64 op), .d (.agg [(.ints .i64 sh), (.ints .i64 da)]), .d (.int .i64 k)] => ([.agg [((.ints .i64 (rdxS op sh da k)), true), ((.ints .i64 (rdxD op sh da k)), true)], .one ((.bool (rdxB op sh da k)), false)], []) | _ => ([], []), fun _ => [], true, fun _ => none⟩
end impl_ReduceAxis
namespace impl_ReduceAxis
noncomputable def X : List Entry := [impl_reductionOf.E, impl_axisLength.E, slices_Concat_int_int.E, impl_layoutOf_j.E, impl_ReduceAxis_1.E]
noncomputable def I : List Inl := [⟨26, Try.f26, ⟨[37, 40], [(6, [0, 1, 2, 3, 7, 9, 10, 12, 13, 14, 15, 16, 17, 18, 19, 20, 21, 22, 23, 24, 25, 26, 27, 28, 29, 30, 31, 32, 33, 34, 35, 36, 37, 38, 39, 40, 41, 42])], [(6, [8, 4, 5])], [(5, [0, 4, 1, 2, 3, 5, 6, 7, 8, 9, 10, 11])], [36], []⟩⟩, ⟨40, Try.f40, ⟨[12], [(1000006, [2, 3, 5, 6, 7, 9, 10, 11, 12, 13, 14, 15, 16, 17, 18, 19, 20, 21, 24, 25, 26, 27, 28, 29, 30, 31, 32, 33, 34, 35])], [], [], [], []⟩⟩]
theorem I_ok : ∀ i ∈ I, Try.prog.funcs[i.f]? = some i.fn ∧ (i.fn.name == "runtime.NumGoroutine") = false := by
  intro i hi
  simp only [I, List.mem_cons, List.not_mem_nil, or_false] at hi
  rcases hi with rfl | rfl
  all_goals exact ⟨by kernel_rfl, by kernel_rfl⟩
noncomputable abbrev L0 (fuel n : Nat) (s : St) (k : Kont) := lAt Try.prog X I fuel true 3 false 40 (bodyOf Try.f40) [1, 1, 1, 1, 0, 1, 0] n s k
noncomputable abbrev k0  (fuel : Nat) : Kont := (kAt Try.prog X I fuel true 3 false 40 (bodyOf Try.f40) [1, 1, 1, 1, 0, 1, 0] [] (endFn Try.prog Try.f40 43 (kOp Try.prog X I fuel true 4 26 (cAt (bodyOf Try.f26) [1, 1, 1, 1, 1, 0]) 2 (kAt Try.prog X I fuel true 4 false 26 (bodyOf Try.f26) [1, 1, 1, 1, 1, 0] [] (endK Try.prog Try.f26)))))
noncomputable def t0 (p0 : Int) (p1q0 : List Int) (p1q1 : List Int) (p2 : Int) (cq1 : Nat × Nat) (cq2 : Nat × Nat) (x0q6 : Int) (x0q8 : List Int) : St := ⟨[(.all 1000000001 1), (.imm (.clo 68 [(.pbox [(.fn false ql ((qlv (redF p0))))]), (.pbox [(.ints .i64 p1q0), (.ints .i64 p1q1)]), (.pbox [(.int .i64 p2)])])), .dead, .dead, (.ptr 1000000002 0 0), .dead, .dead, .dead, (.all 1000000003 1), .dead, .dead, .dead, .dead, .dead, .dead, .dead, .dead, .dead, .dead, .dead, .dead, .dead, (.imm (.int .i64 (((List.replicate ((volW (((((p1q0.drop cq1.1).take (cq1.2 - cq1.1))) ++ (((p1q0.drop cq2.1).take (cq2.2 - cq2.1))))))).toNat (0 : Int)).length : Nat) : Int))), (.imm (.int .i64 x0q6)), .dead, .dead, .dead, .dead, .dead, .dead, .dead, .dead, .dead, .dead, .dead, .dead], hOf [(1000000000, (.box [(.imm .nils), (.imm .nils)])), (1000000001, (.ints .i64 ((((p1q0.drop cq1.1).take (cq1.2 - cq1.1))) ++ (((p1q0.drop cq2.1).take (cq2.2 - cq2.1)))))), (1000000002, (.box [(.imm .nils), (.imm .nils)])), (1000000003, (.ints .i64 x0q8))], [.dead, .dead, .dead, .dead, (.dptr [(.ints .i64 p1q0), (.ints .i64 p1q1)] 0), (.dptr [(.int .i64 p2)] 0), (.ptr 1000000000 0 0), .dead, (.dptr [(.fn false ql ((qlv (redF p0))))] 0), .dead, .dead, (.all 1000000001 1), .dead, .dead, .dead, .dead, .dead, .dead, .dead, .dead, .dead, .dead, .dead, .dead, .dead, .dead, .dead, .dead, .dead, .dead, .dead, .dead, .dead, .dead, .dead, .dead, .dead, .dead, (.all 1000000001 1), (.imm (.clo 68 [(.pbox [(.fn false ql ((qlv (redF p0))))]), (.pbox [(.ints .i64 p1q0), (.ints .i64 p1q1)]), (.pbox [(.int .i64 p2)])])), .dead, .dead, .dead, (.tup [])], []⟩
theorem e (fuel : Nat) (p0 : Int) (p1q0 : List Int) (p1q1 : List Int) (p2 : Int) : runF Try.prog X I 4 fuel 26 Try.f26 [.d (.int .i64 p0), .d (.agg [(.ints .i64 p1q0), (.ints .i64 p1q1)]), .d (.int .i64 p2)] =
  (bif opOk p0 then
  (bif decide (p1q0.length < 9223372036854775808) && decide (p1q1.length < 9223372036854775808) then
  (bif (!(axB p1q0 p1q1 p2)) then
  some ([.agg [((.ints .i64 []), true), ((.ints .i64 []), true)], .one ((.bool false), false)], [])
  else
  (cutEnds p1q0.length (none) (some (.imm (.int .i64 p2)))).bind fun cq1 =>
  (cutEnds p1q0.length (some (.imm (.int .i64 (IntKind.wrap .i64 (p2 + 1))))) (none)).bind fun cq2 =>
  (bif szB (((p1q0.drop cq1.1).take (cq1.2 - cq1.1))) && szB (((p1q0.drop cq2.1).take (cq2.2 - cq2.1))) then
  (bif decide ((((((p1q0.drop cq1.1).take (cq1.2 - cq1.1))) ++ (((p1q0.drop cq2.1).take (cq2.2 - cq2.1))))).length < 9223372036854775808) then
  (bif validS (((((p1q0.drop cq1.1).take (cq1.2 - cq1.1))) ++ (((p1q0.drop cq2.1).take (cq2.2 - cq2.1))))) then
  (bif decide (0 ≤ ((volW (((((p1q0.drop cq1.1).take (cq1.2 - cq1.1))) ++ (((p1q0.drop cq2.1).take (cq2.2 - cq2.1)))))) : Int)) && decide (((volW (((((p1q0.drop cq1.1).take (cq1.2 - cq1.1))) ++ (((p1q0.drop cq2.1).take (cq2.2 - cq2.1)))))) : Int) ≤ (volW (((((p1q0.drop cq1.1).take (cq1.2 - cq1.1))) ++ (((p1q0.drop cq2.1).take (cq2.2 - cq2.1))))))) && decide (((volW (((((p1q0.drop cq1.1).take (cq1.2 - cq1.1))) ++ (((p1q0.drop cq2.1).take (cq2.2 - cq2.1)))))) : Int) ≤ 1152921504606846976) && decide (((8 : Nat) : Int) * (volW (((((p1q0.drop cq1.1).take (cq1.2 - cq1.1))) ++ (((p1q0.drop cq2.1).take (cq2.2 - cq2.1)))))) ≤ 281474976710656) then
  L0 fuel fuel (t0 p0 p1q0 p1q1 p2 cq1 cq2 0 ((List.replicate ((volW (((((p1q0.drop cq1.1).take (cq1.2 - cq1.1))) ++ (((p1q0.drop cq2.1).take (cq2.2 - cq2.1))))))).toNat (0 : Int)))) (k0  fuel)
  else
  none)
  else
  some ([.agg [((.ints .i64 []), true), ((.ints .i64 []), true)], .one ((.bool false), false)], []))
  else
  none)
  else
  none))
  else
  none)
  else
  (bif decide (p1q0.length < 9223372036854775808) && decide (p1q1.length < 9223372036854775808) then
  some ([.agg [((.ints .i64 []), true), ((.ints .i64 []), true)], .one ((.bool false), false)], [])
  else
  none)) := by kernel_rfl
theorem s0 (fuel n0 : Nat) (p0 : Int) (p1q0 : List Int) (p1q1 : List Int) (p2 : Int) (cq1 : Nat × Nat) (cq2 : Nat × Nat) (x0q6 : Int) (x0q8 : List Int) : L0 fuel (n0 + 1) (t0 p0 p1q0 p1q1 p2 cq1 cq2 x0q6 x0q8) (k0  fuel) =
  (bif (decide ((x0q6 : Int) < (((List.replicate ((volW (((((p1q0.drop cq1.1).take (cq1.2 - cq1.1))) ++ (((p1q0.drop cq2.1).take (cq2.2 - cq2.1))))))).toNat (0 : Int)).length : Nat) : Int))) then
  (bif axB p1q0 p1q1 p2 && lnB p1q0 p2 x0q6 && ql [.l (lnN p1q0 p1q1 p2 x0q6)] then
  (idx x0q6 x0q8.length).bind fun j5 =>
  (bif decide (j5 < x0q8.length) then
  L0 fuel n0 (t0 p0 p1q0 p1q1 p2 cq1 cq2 ((IntKind.wrap .i64 (x0q6 + 1))) ((x0q8.set j5 (((qlv (redF p0))) [.l (lnN p1q0 p1q1 p2 x0q6)])))) (k0  fuel)
  else
  none)
  else
  none)
  else
  some ([.agg [((.ints .i64 ((((p1q0.drop cq1.1).take (cq1.2 - cq1.1))) ++ (((p1q0.drop cq2.1).take (cq2.2 - cq2.1))))), true), ((.ints .i64 x0q8), true)], .one ((.bool true), false)], [])) := by kernel_rfl
end impl_ReduceAxis
theorem impl_ReduceAxis.ok_of (hX : ∀ E ∈ impl_ReduceAxis.X, CallSpec Try.prog E) (h : ∀ (op : Int) (sh : List Int) (da : List Int) (k : Int), (decide (sh.length < 9223372036854775808) && decide (da.length < 9223372036854775808)) = true → ∃ fuel, runF Try.prog impl_ReduceAxis.X impl_ReduceAxis.I 4 fuel 26 Try.f26 [.d (.int .i64 op), .d (.agg [(.ints .i64 sh), (.ints .i64 da)]), .d (.int .i64 k)] = some ([.agg [((.ints .i64 (rdxS op sh da k)), true), ((.ints .i64 (rdxD op sh da k)), true)], .one ((.bool (rdxB op sh da k)), false)], [])) : CallSpec Try.prog impl_ReduceAxis.E :=
  callSpec_of (d := 4) hX (by kernel_rfl) impl_ReduceAxis.I_ok (by kernel_rfl) (by kernel_rfl) (by kernel_rfl) (fun _ _ _ _ h => by dsimp only [impl_ReduceAxis.E] at h; cases h) (fun xs hp => by
    dsimp only [impl_ReduceAxis.E] at hp ⊢
    split at hp
    · exact h _ _ _ _ hp
    · cases hp)
theorem impl_ReduceAxis.loop (fuel : Nat) (op : Int) (sh da : List Int) (k : Nat) (hv : validA sh da = true) (hk : k < sh.length) (hs : validS (sh.eraseIdx k) = true) (hvol : (volW (sh.eraseIdx k)).toNat = befN sh k * behN sh k) (h60 : befN sh k * behN sh k ≤ 60) (hf : 60 < fuel) :
    impl_ReduceAxis.L0 fuel fuel (impl_ReduceAxis.t0 op sh da (k : Int) (0, k) (k + 1, sh.length) 0 (List.replicate (befN sh k * behN sh k) 0)) (impl_ReduceAxis.k0 fuel) = some ([.agg [((.ints .i64 (sh.eraseIdx k)), true), ((.ints .i64 (rdxN op sh da k)), true)], .one ((.bool true), false)], []) := by
  have ax := ax_of (validA_inv hv).1 hk
  have hL := ax.len_le
  have hA : (rdxN op sh da k).length = befN sh k * behN sh k := by simp only [rdxN, tab_length, Int.toNat_natCast]
  have hsh : ((sh.drop 0).take (k - 0)) ++ ((sh.drop (k + 1)).take (sh.length - (k + 1))) = sh.eraseIdx k := by
    rw [drop_take, List.drop_zero, Nat.sub_zero, erase_eq]
  refine run_loop (N := befN sh k * behN sh k) (fun n j out => impl_ReduceAxis.L0 fuel n (impl_ReduceAxis.t0 op sh da (k : Int) (0, k) (k + 1, sh.length) (j : Int) out) (impl_ReduceAxis.k0 fuel)) (fun j out => out = part (rdxN op sh da k) j) ?_ ?_ fuel 0 _ (by omega) (by omega) (by rw [part_zero, hA])
  · intro n out ho
    have hall := part_all (rdxN op sh da k)
    rw [hA] at hall
    rw [hall] at ho
    rw [impl_ReduceAxis.s0]
    simp only [hsh, hvol, List.length_replicate]
    rw [dge (by omega), cond_false, ho]
  · intro n j out hj ho
    have hol : out.length = befN sh k * behN sh k := by rw [ho, part_length (by omega), hA]
    obtain ⟨d1, d2, d3⟩ := dec2 hj
    have hln : lnB sh k (j : Int) = true := by simp only [lnB, Int.toNat_natCast]; simp; omega
    have hq : ql [.l (lnN sh da k (j : Int))] = true := by simp only [ql, lnN, lnK_length, Int.toNat_natCast]; simp; omega
    rw [impl_ReduceAxis.s0]
    simp only [hsh, hvol, List.length_replicate]
    rw [dlt hj, cond_true, axB_of hv hk, hln, hq, idx_nat (by omega), w1 (by omega)]
    simp only [Bool.and_self, cond_true, Option.bind_some]
    rw [decide_eq_true (by omega), cond_true]
    refine ⟨_, ?_, rfl⟩
    rw [ho, part_set (by omega)]
    simp only [rdxN, Int.toNat_natCast]
    rw [tab_getD hj]
    rfl
theorem erase_valid {sh da : List Int} {k : Nat} (hv : validA sh da = true) (hk : k < sh.length) (hs : validS (sh.eraseIdx k) = true) : volW (sh.eraseIdx k) = ((befN sh k * behN sh k : Nat) : Int) ∧ befN sh k * behN sh k ≤ 60 := by
  obtain ⟨h1, h2, h3⟩ := validS_inv hs
  have h4 := vol_prod h2 h1
  rw [prodN_erase] at h4
  exact ⟨h4, by omega⟩
theorem impl_ReduceAxis.ok : CallSpec Try.prog impl_ReduceAxis.E := impl_ReduceAxis.ok_of (by simp [impl_ReduceAxis.X, impl_reductionOf.ok, impl_axisLength.ok, slices_Concat_int_int.ok, impl_layoutOf_j.ok, impl_ReduceAxis_1.ok]) fun op sh da k h => by
  obtain ⟨F, hF⟩ : ∃ F : Nat, 60 < F := ⟨61, by omega⟩
  refine ⟨F, ?_⟩
  rw [impl_ReduceAxis.e, h]
  unfold rdxS rdxD rdxB
  cases ho : opOk op with
  | false => rfl
  | true =>
    cases hb : axB sh da k with
    | false => rfl
    | true =>
      obtain ⟨j, rfl, hj, hv, ax, hd, hl⟩ := axB_inv hb
      have hr := ax.rank
      have hsh : ((sh.drop 0).take (j - 0)) ++ ((sh.drop (j + 1)).take (sh.length - (j + 1))) = sh.eraseIdx j := by
        rw [drop_take, List.drop_zero, Nat.sub_zero, erase_eq]
      rw [w1 (by omega), cut_hi (by omega), cut_lo (by omega), Int.toNat_natCast]
      simp only [Bool.not_true, cond_true, cond_false, Option.bind_some, Bool.true_and, hsh]
      rw [szB_of (by simp; omega), szB_of (by simp; omega), Bool.and_self, cond_true, lt_of (by rw [set_eraseIdx_len hj]; omega), cond_true]
      cases hs : validS (sh.eraseIdx j) with
      | false => rfl
      | true =>
        obtain ⟨hvol, h60⟩ := erase_valid hv hj hs
        have hb := vol_bd hs
        rw [mkOk hb.1 (by omega), cond_true, cond_true, cond_true, cond_true]
        have key := impl_ReduceAxis.loop F op sh da j hv hj hs (by rw [hvol]; rfl) h60 hF
        rw [hvol, Int.toNat_natCast]
        exact key

namespace laws_FnWindowsOfNeighbours
noncomputable def E : Entry := ⟨8, true, false, fun | [.d (.ints .u8 bs)] => bytesB bs | _ => false, fun | [.d (.ints .u8 bs)] => ([.one ((.bool true), false)], []) | _ => ([], []), fun _ => [], false, fun _ => none⟩
end laws_FnWindowsOfNeighbours
namespace laws_FnWindowsOfNeighbours
noncomputable def X : List Entry := [spec_DrawNeighboursOf.E, impl_NeighboursOf.E, spec_NeighboursOf.E, laws_equalArray.E, impl_WindowsOf.E, impl_ReduceAxis.E]
noncomputable def I : List Inl := [⟨8, Try.f8, ⟨[18, 24, 30, 56, 62], [], [], [], [], []⟩⟩]
theorem I_ok : ∀ i ∈ I, Try.prog.funcs[i.f]? = some i.fn ∧ (i.fn.name == "runtime.NumGoroutine") = false := by
  intro i hi
  simp only [I, List.mem_cons, List.not_mem_nil, or_false] at hi
  subst hi
  exact ⟨by kernel_rfl, by kernel_rfl⟩
theorem e (fuel : Nat) (p0 : List Int) : runF Try.prog X I 0 fuel 8 Try.f8 [.d (.ints .u8 p0)] =
  (bif (decide ((((p0.length : Nat) : Int) : Int) > 1048576)) then
  some ([.one ((.bool true), false)], [])
  else
  (bif bytesB p0 then
  (bif decide (((avS (cutC p0) 2)).length < 9223372036854775808) && decide (((avD (cutC p0) 2)).length < 9223372036854775808) then
  (bif decide (((avS (cutC p0) 2)).length < 9223372036854775808) && decide (((avD (cutC p0) 2)).length < 9223372036854775808) then
  (bif decide (((nbS ((anyOpV (cutC p0) 0)) ((avS (cutC p0) 2)) ((avD (cutC p0) 2)))).length < 9223372036854775808) && decide (((nbD ((anyOpV (cutC p0) 0)) ((avS (cutC p0) 2)) ((avD (cutC p0) 2)))).length < 9223372036854775808) && decide (((nbS ((anyOpV (cutC p0) 0)) ((avS (cutC p0) 2)) ((avD (cutC p0) 2)))).length < 9223372036854775808) && decide (((nbD ((anyOpV (cutC p0) 0)) ((avS (cutC p0) 2)) ((avD (cutC p0) 2)))).length < 9223372036854775808) then
  (bif (!(decide (((nbS ((anyOpV (cutC p0) 0)) ((avS (cutC p0) 2)) ((avD (cutC p0) 2)))) = ((nbS ((anyOpV (cutC p0) 0)) ((avS (cutC p0) 2)) ((avD (cutC p0) 2))))) && decide (((nbD ((anyOpV (cutC p0) 0)) ((avS (cutC p0) 2)) ((avD (cutC p0) 2)))) = ((nbD ((anyOpV (cutC p0) 0)) ((avS (cutC p0) 2)) ((avD (cutC p0) 2))))))) then
  (bif decide (((nbS ((anyOpV (cutC p0) 0)) ((avS (cutC p0) 2)) ((avD (cutC p0) 2)))).length < 9223372036854775808) && decide (((nbD ((anyOpV (cutC p0) 0)) ((avS (cutC p0) 2)) ((avD (cutC p0) 2)))).length < 9223372036854775808) && decide (((nbS ((anyOpV (cutC p0) 0)) ((avS (cutC p0) 2)) ((avD (cutC p0) 2)))).length < 9223372036854775808) && decide (((nbD ((anyOpV (cutC p0) 0)) ((avS (cutC p0) 2)) ((avD (cutC p0) 2)))).length < 9223372036854775808) then
  (bif (decide (((nbS ((anyOpV (cutC p0) 0)) ((avS (cutC p0) 2)) ((avD (cutC p0) 2)))) = ((nbS ((anyOpV (cutC p0) 0)) ((avS (cutC p0) 2)) ((avD (cutC p0) 2))))) && decide (((nbD ((anyOpV (cutC p0) 0)) ((avS (cutC p0) 2)) ((avD (cutC p0) 2)))) = ((nbD ((anyOpV (cutC p0) 0)) ((avS (cutC p0) 2)) ((avD (cutC p0) 2)))))) then
  some ([.one ((.bool ((nbB ((anyOpV (cutC p0) 0)) ((avS (cutC p0) 2)) ((avD (cutC p0) 2))) == (nbB ((anyOpV (cutC p0) 0)) ((avS (cutC p0) 2)) ((avD (cutC p0) 2))))), false)], [])
  else
  some ([.one ((.bool false), false)], []))
  else
  none)
  else
  (bif (!((nbB ((anyOpV (cutC p0) 0)) ((avS (cutC p0) 2)) ((avD (cutC p0) 2))) == (nbB ((anyOpV (cutC p0) 0)) ((avS (cutC p0) 2)) ((avD (cutC p0) 2))))) then
  (bif decide (((nbS ((anyOpV (cutC p0) 0)) ((avS (cutC p0) 2)) ((avD (cutC p0) 2)))).length < 9223372036854775808) && decide (((nbD ((anyOpV (cutC p0) 0)) ((avS (cutC p0) 2)) ((avD (cutC p0) 2)))).length < 9223372036854775808) && decide (((nbS ((anyOpV (cutC p0) 0)) ((avS (cutC p0) 2)) ((avD (cutC p0) 2)))).length < 9223372036854775808) && decide (((nbD ((anyOpV (cutC p0) 0)) ((avS (cutC p0) 2)) ((avD (cutC p0) 2)))).length < 9223372036854775808) then
  (bif (decide (((nbS ((anyOpV (cutC p0) 0)) ((avS (cutC p0) 2)) ((avD (cutC p0) 2)))) = ((nbS ((anyOpV (cutC p0) 0)) ((avS (cutC p0) 2)) ((avD (cutC p0) 2))))) && decide (((nbD ((anyOpV (cutC p0) 0)) ((avS (cutC p0) 2)) ((avD (cutC p0) 2)))) = ((nbD ((anyOpV (cutC p0) 0)) ((avS (cutC p0) 2)) ((avD (cutC p0) 2)))))) then
  some ([.one ((.bool ((nbB ((anyOpV (cutC p0) 0)) ((avS (cutC p0) 2)) ((avD (cutC p0) 2))) == (nbB ((anyOpV (cutC p0) 0)) ((avS (cutC p0) 2)) ((avD (cutC p0) 2))))), false)], [])
  else
  some ([.one ((.bool false), false)], []))
  else
  none)
  else
  (bif (!(nbB ((anyOpV (cutC p0) 0)) ((avS (cutC p0) 2)) ((avD (cutC p0) 2)))) then
  (bif decide (((nbS ((anyOpV (cutC p0) 0)) ((avS (cutC p0) 2)) ((avD (cutC p0) 2)))).length < 9223372036854775808) && decide (((nbD ((anyOpV (cutC p0) 0)) ((avS (cutC p0) 2)) ((avD (cutC p0) 2)))).length < 9223372036854775808) && decide (((nbS ((anyOpV (cutC p0) 0)) ((avS (cutC p0) 2)) ((avD (cutC p0) 2)))).length < 9223372036854775808) && decide (((nbD ((anyOpV (cutC p0) 0)) ((avS (cutC p0) 2)) ((avD (cutC p0) 2)))).length < 9223372036854775808) then
  (bif (decide (((nbS ((anyOpV (cutC p0) 0)) ((avS (cutC p0) 2)) ((avD (cutC p0) 2)))) = ((nbS ((anyOpV (cutC p0) 0)) ((avS (cutC p0) 2)) ((avD (cutC p0) 2))))) && decide (((nbD ((anyOpV (cutC p0) 0)) ((avS (cutC p0) 2)) ((avD (cutC p0) 2)))) = ((nbD ((anyOpV (cutC p0) 0)) ((avS (cutC p0) 2)) ((avD (cutC p0) 2)))))) then
  some ([.one ((.bool ((nbB ((anyOpV (cutC p0) 0)) ((avS (cutC p0) 2)) ((avD (cutC p0) 2))) == (nbB ((anyOpV (cutC p0) 0)) ((avS (cutC p0) 2)) ((avD (cutC p0) 2))))), false)], [])
  else
  some ([.one ((.bool false), false)], []))
  else
  none)
  else
  (bif decide (((avS (cutC p0) 2)).length < 9223372036854775808) && decide (((avD (cutC p0) 2)).length < 9223372036854775808) then
  (bif decide (((wiS ((avS (cutC p0) 2)) ((avD (cutC p0) 2)) 2)).length < 9223372036854775808) && decide (((wiD ((avS (cutC p0) 2)) ((avD (cutC p0) 2)) 2)).length < 9223372036854775808) then
  (bif (!(wiB ((avS (cutC p0) 2)) ((avD (cutC p0) 2)) 2)) then
  some ([.one ((.bool true), false)], [])
  else
  (bif (rdxB ((anyOpV (cutC p0) 0)) ((wiS ((avS (cutC p0) 2)) ((avD (cutC p0) 2)) 2)) ((wiD ((avS (cutC p0) 2)) ((avD (cutC p0) 2)) 2)) 1) then
  (bif decide (((rdxS ((anyOpV (cutC p0) 0)) ((wiS ((avS (cutC p0) 2)) ((avD (cutC p0) 2)) 2)) ((wiD ((avS (cutC p0) 2)) ((avD (cutC p0) 2)) 2)) 1)).length < 9223372036854775808) && decide (((rdxD ((anyOpV (cutC p0) 0)) ((wiS ((avS (cutC p0) 2)) ((avD (cutC p0) 2)) 2)) ((wiD ((avS (cutC p0) 2)) ((avD (cutC p0) 2)) 2)) 1)).length < 9223372036854775808) && decide (((nbS ((anyOpV (cutC p0) 0)) ((avS (cutC p0) 2)) ((avD (cutC p0) 2)))).length < 9223372036854775808) && decide (((nbD ((anyOpV (cutC p0) 0)) ((avS (cutC p0) 2)) ((avD (cutC p0) 2)))).length < 9223372036854775808) then
  some ([.one ((.bool (decide (((rdxS ((anyOpV (cutC p0) 0)) ((wiS ((avS (cutC p0) 2)) ((avD (cutC p0) 2)) 2)) ((wiD ((avS (cutC p0) 2)) ((avD (cutC p0) 2)) 2)) 1)) = ((nbS ((anyOpV (cutC p0) 0)) ((avS (cutC p0) 2)) ((avD (cutC p0) 2))))) && decide (((rdxD ((anyOpV (cutC p0) 0)) ((wiS ((avS (cutC p0) 2)) ((avD (cutC p0) 2)) 2)) ((wiD ((avS (cutC p0) 2)) ((avD (cutC p0) 2)) 2)) 1)) = ((nbD ((anyOpV (cutC p0) 0)) ((avS (cutC p0) 2)) ((avD (cutC p0) 2))))))), false)], [])
  else
  none)
  else
  some ([.one ((.bool false), false)], [])))
  else
  none)
  else
  none))))
  else
  none)
  else
  none)
  else
  none)
  else
  none)) := by kernel_rfl
end laws_FnWindowsOfNeighbours
theorem laws_FnWindowsOfNeighbours.ok_of (hX : ∀ E ∈ laws_FnWindowsOfNeighbours.X, CallSpec Try.prog E) (h : ∀ (bs : List Int), (bytesB bs) = true → ∃ fuel, runF Try.prog laws_FnWindowsOfNeighbours.X laws_FnWindowsOfNeighbours.I 0 fuel 8 Try.f8 [.d (.ints .u8 bs)] = some ([.one ((.bool true), false)], [])) : CallSpec Try.prog laws_FnWindowsOfNeighbours.E :=
  callSpec_of (d := 0) hX (by kernel_rfl) laws_FnWindowsOfNeighbours.I_ok (by kernel_rfl) (by kernel_rfl) (by kernel_rfl) (fun _ _ _ _ h => by dsimp only [laws_FnWindowsOfNeighbours.E] at h; cases h) (fun xs hp => by
    dsimp only [laws_FnWindowsOfNeighbours.E] at hp ⊢
    split at hp
    · exact h _ hp
    · cases hp)
theorem laws_FnWindowsOfNeighbours.ok : CallSpec Try.prog laws_FnWindowsOfNeighbours.E := laws_FnWindowsOfNeighbours.ok_of (by simp [laws_FnWindowsOfNeighbours.X, spec_DrawNeighboursOf.ok, impl_NeighboursOf.ok, spec_NeighboursOf.ok, laws_equalArray.ok, impl_WindowsOf.ok, impl_ReduceAxis.ok]) fun bs h => by
  obtain ⟨F, hF⟩ : ∃ F : Nat, 4000 < F := ⟨4001, by omega⟩
  refine ⟨F, ?_⟩
  rw [laws_FnWindowsOfNeighbours.e]
  by_cases hl : ((bs.length : Nat) : Int) > 1048576
  · rw [decide_eq_true hl]; rfl
  rw [decide_eq_false hl, cond_false, h, cond_true]
  have r0 := cut_ok h (p := 0) (by omega) (by omega)
  have r2 := rd_le (q := 2) r0 (by omega) (by omega)
  obtain ⟨a1, a2, a3, a4⟩ := av_bd r2 (by omega)
  obtain ⟨sh, hsh⟩ : ∃ x, avS (cutC bs) 2 = x := ⟨_, rfl⟩
  obtain ⟨da, hda⟩ : ∃ x, avD (cutC bs) 2 = x := ⟨_, rfl⟩
  obtain ⟨op, hop⟩ : ∃ x, anyOpV (cutC bs) 0 = x := ⟨_, rfl⟩
  rw [hsh] at a1
  rw [hda] at a2
  have g1 := lt_of (xs := sh) (by omega)
  have g2 := lt_of (xs := da) (by omega)
  have w := nb_len op sh da
  have g3 := lt_of (xs := nbS op sh da) (by omega)
  have g4 := lt_of (xs := nbD op sh da) (by omega)
  simp only [hsh, hda, hop]
  cases hb : nbB op sh da with
  | false => simp only [Bool.and_self, Bool.and_true, Bool.true_and, cond_true, cond_false, Bool.not_true, Bool.not_false, bne_self_eq_false, beq_self_eq_true, decide_true, eq_self, g1, g2, g3, g4]
  | true =>
    have hb' := hb
    simp only [nbB, Bool.and_eq_true, decide_eq_true_eq] at hb'
    obtain ⟨⟨ho, hvc⟩, h0⟩ := hb'
    obtain ⟨hv, rfl, hl, ha⟩ := vcB_inv hvc
    have hvo := vcB_vec hvc
    have s1 : nbS op [((da.length : Nat) : Int)] da = [((da.length - 1 : Nat) : Int)] := by simp only [nbS, hb, cond_true]
    have s2 : nbD op [((da.length : Nat) : Int)] da = nbN op da := by simp only [nbD, hb, cond_true]
    obtain ⟨d1, d2⟩ := dr_vec hv 1 rfl
    obtain ⟨d3, d4⟩ := dr_vec hv (-1) rfl
    have q1 : ((1 : Int)).natAbs = 1 := rfl
    have q2 : ((-1 : Int)).natAbs = 1 := rfl
    have q3 : ((1 : Int)).toNat = 1 := rfl
    have q4 : ((-1 : Int)).toNat = 0 := rfl
    rw [q1] at d1 d2
    rw [q3] at d2
    rw [q2] at d3 d4
    rw [q4] at d4
    have ww := wi_len [((da.length : Nat) : Int)] da 2
    have g5 := lt_of (xs := wiS [((da.length : Nat) : Int)] da 2) (by omega)
    have g6 := lt_of (xs := wiD [((da.length : Nat) : Int)] da 2) (by omega)
    cases hB : wiB [((da.length : Nat) : Int)] da 2 with
    | false => simp only [Bool.and_self, Bool.and_true, Bool.true_and, cond_true, cond_false, Bool.not_true, Bool.not_false, bne_self_eq_false, beq_self_eq_true, decide_true, eq_self, g1, g2, g3, g4, g5, g6]
    | true =>
      obtain ⟨k', q0, k1, k2, _, e1, e2, hvw⟩ := wiB_eq hB
      have : k' = 2 := by omega
      subst this
      obtain ⟨r1, r2, r3⟩ := wi_rdx (op := op) ho k2 (by omega) k1 hvw
      rw [nb_wi h0] at r3
      rw [show da.length + 1 - 2 = da.length - 1 by omega] at r1 r2 r3 e1
      rw [e1] at g5
      rw [e2] at g6
      rw [s1] at g3
      rw [s2] at g4
      rw [e1, e2, r1, r2, r3, s1, s2]
      simp only [Bool.and_self, Bool.and_true, Bool.true_and, cond_true, cond_false, Bool.not_true, Bool.not_false, bne_self_eq_false, beq_self_eq_true, decide_true, eq_self, g1, g2, g3, g4, g5, g6]

end Go.Ab
