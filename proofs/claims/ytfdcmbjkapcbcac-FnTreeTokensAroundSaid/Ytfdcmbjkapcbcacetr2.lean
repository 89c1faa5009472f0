import Derived.Test.Ytfdcmbjkapcbcacetr1
import Derived.Test.YtfdcmbjkapcbcacProg
import Derived.Test.YtfdcmbjkapcbcacChecked
open Go Go.Ab Go.Proofs
set_option maxRecDepth 100000
set_option linter.unusedVariables false
set_option linter.unusedSimpArgs false
namespace Go.Ab
namespace impl_ValidTokens_1
noncomputable def E : Entry := ⟨31, true, false, fun | [.d (.agg [(.int .i64 k), (.int .i64 v)])] => true | _ => false, fun | [.d (.agg [(.int .i64 k), (.int .i64 v)])] => ([.one ((.bool (!(tokV k v))), false)], []) | _ => ([], []), fun _ => [], false, fun _ => none, none⟩
end impl_ValidTokens_1
namespace impl_ValidTokens_1
noncomputable def X : List Entry := [impl_Token_isValid.E]
noncomputable def I : List Inl := [⟨31, Try.f31, ⟨[], [], [], [], [], []⟩⟩]
theorem I_ok : ∀ i ∈ I, Try.prog.funcs[i.f]? = some i.fn ∧ (i.fn.name == "runtime.NumGoroutine") = false := by
  intro i hi
  simp only [I, List.mem_cons, List.not_mem_nil, or_false] at hi
  subst hi
  exact ⟨by kernel_rfl, by kernel_rfl⟩
theorem e (fuel : Nat) (p0q0 : Int) (p0q1 : Int) : runF Try.prog X I 0 fuel 31 Try.f31 [.d (.agg [(.int .i64 p0q0), (.int .i64 p0q1)])] =
  some ([.one ((.bool (!(tokV p0q0 p0q1))), false)], []) := by kernel_rfl
end impl_ValidTokens_1
theorem impl_ValidTokens_1.ok_of (hX : ∀ E ∈ impl_ValidTokens_1.X, CallSpec Try.prog E) (h : ∀ (k : Int) (v : Int), (true) = true → ∃ fuel, runF Try.prog impl_ValidTokens_1.X impl_ValidTokens_1.I 0 fuel 31 Try.f31 [.d (.agg [(.int .i64 k), (.int .i64 v)])] = some ([.one ((.bool (!(tokV k v))), false)], [])) : CallSpec Try.prog impl_ValidTokens_1.E :=
  callSpec_of (d := 0) hX (by kernel_rfl) impl_ValidTokens_1.I_ok (by kernel_rfl) (by kernel_rfl) (by kernel_rfl) (fun _ _ _ _ h => by dsimp only [impl_ValidTokens_1.E] at h; cases h) (fun xs hp => by
    dsimp only [impl_ValidTokens_1.E] at hp ⊢
    split at hp
    · exact h _ _ hp
    · cases hp)
theorem impl_ValidTokens_1.ok : CallSpec Try.prog impl_ValidTokens_1.E := impl_ValidTokens_1.ok_of (by simp [impl_ValidTokens_1.X, impl_Token_isValid.ok]) fun k v _ => ⟨0, by rw [impl_ValidTokens_1.e]⟩

namespace slices_IndexFunc_impl_Token_impl_Token
noncomputable def E : Entry := ⟨56, true, false, fun | [.d (.seq 2 xs), .d (.clo 31 [])] => toksB xs && decide ((xs : List D).length < 9223372036854775808) | _ => false, fun | [.d (.seq 2 xs), .d (.clo 31 [])] => ([.one ((.int .i64 (badK xs)), false)], []) | _ => ([], []), fun _ => [], false, fun _ => none, none⟩
end slices_IndexFunc_impl_Token_impl_Token
namespace slices_IndexFunc_impl_Token_impl_Token
noncomputable def X : List Entry := [impl_ValidTokens_1.E]
noncomputable def I : List Inl := [⟨56, Try.f56, ⟨[], [(1000002, [2, 3, 4, 5, 6, 9, 10, 11, 12, 13, 14, 15, 16, 17, 18])], [], [], [], []⟩⟩]
theorem I_ok : ∀ i ∈ I, Try.prog.funcs[i.f]? = some i.fn ∧ (i.fn.name == "runtime.NumGoroutine") = false := by
  intro i hi
  simp only [I, List.mem_cons, List.not_mem_nil, or_false] at hi
  subst hi
  exact ⟨by kernel_rfl, by kernel_rfl⟩
noncomputable abbrev L0 (fuel n : Nat) (s : St) (k : Kont) := lAt Try.prog X I fuel true 0 false 56 (bodyOf Try.f56) [1, 0, 1, 0] n s k
noncomputable abbrev k0  (fuel : Nat) : Kont := (kAt Try.prog X I fuel true 0 false 56 (bodyOf Try.f56) [1, 0, 1, 0] [] (endK Try.prog Try.f56))
noncomputable def t0 (p0 : List D) (x0q2 : Int) : St := ⟨[(.imm (.seq 2 p0)), (.imm (.clo 31 [])), .dead, .dead, .dead, .dead, .dead, (.imm (.int .i64 ((p0.length : Nat) : Int))), (.imm (.int .i64 x0q2)), .dead, .dead, .dead, .dead, .dead, .dead, .dead, .dead, .dead, .dead], hOf [], [], []⟩
theorem e (fuel : Nat) (p0 : List D) : runF Try.prog X I 0 fuel 56 Try.f56 [.d (.seq 2 p0), .d (.clo 31 [])] =
  L0 fuel fuel (t0 p0 0) (k0  fuel) := by kernel_rfl
theorem s0 (fuel n0 : Nat) (p0 : List D) (x0q2 : Int) : L0 fuel (n0 + 1) (t0 p0 x0q2) (k0  fuel) =
  (bif (decide ((x0q2 : Int) < ((p0.length : Nat) : Int))) then
  (idx x0q2 p0.length).bind fun j3 =>
  (bif okS [.int .i64, .int .i64] p0 j3 then
  (bif (!(tokV ((cellI p0 j3 0)) ((cellI p0 j3 1)))) then
  some ([.one ((.int .i64 x0q2), false)], [])
  else
  L0 fuel n0 (t0 p0 ((IntKind.wrap .i64 (x0q2 + 1)))) (k0  fuel))
  else
  none)
  else
  some ([.one ((.int .i64 (-1)), false)], [])) := by kernel_rfl
end slices_IndexFunc_impl_Token_impl_Token
theorem slices_IndexFunc_impl_Token_impl_Token.ok_of (hX : ∀ E ∈ slices_IndexFunc_impl_Token_impl_Token.X, CallSpec Try.prog E) (h : ∀ (xs : List D), (toksB xs && decide ((xs : List D).length < 9223372036854775808)) = true → ∃ fuel, runF Try.prog slices_IndexFunc_impl_Token_impl_Token.X slices_IndexFunc_impl_Token_impl_Token.I 0 fuel 56 Try.f56 [.d (.seq 2 xs), .d (.clo 31 [])] = some ([.one ((.int .i64 (badK xs)), false)], [])) : CallSpec Try.prog slices_IndexFunc_impl_Token_impl_Token.E :=
  callSpec_of (d := 0) hX (by kernel_rfl) slices_IndexFunc_impl_Token_impl_Token.I_ok (by kernel_rfl) (by kernel_rfl) (by kernel_rfl) (fun _ _ _ _ h => by dsimp only [slices_IndexFunc_impl_Token_impl_Token.E] at h; cases h) (fun xs hp => by
    dsimp only [slices_IndexFunc_impl_Token_impl_Token.E] at hp ⊢
    split at hp
    · exact h _ hp
    · cases hp)
theorem slices_IndexFunc_impl_Token_impl_Token.ok : CallSpec Try.prog slices_IndexFunc_impl_Token_impl_Token.E := slices_IndexFunc_impl_Token_impl_Token.ok_of (by simp [slices_IndexFunc_impl_Token_impl_Token.X, impl_ValidTokens_1.ok]) fun xs h => by
  simp only [Bool.and_eq_true, decide_eq_true_eq] at h
  obtain ⟨ht, h⟩ := h
  obtain ⟨ts, rfl⟩ := toksB_iff.1 ht
  rw [tokDs_length] at h
  refine ⟨ts.length + 1, ?_⟩
  rw [slices_IndexFunc_impl_Token_impl_Token.e]
  refine cnt_loop (σ := Unit) (N := ts.length) (fun n j _ => slices_IndexFunc_impl_Token_impl_Token.L0 (ts.length + 1) n (slices_IndexFunc_impl_Token_impl_Token.t0 (tokDs ts) (j : Int)) (slices_IndexFunc_impl_Token_impl_Token.k0 (ts.length + 1)))
    (fun j _ => badKF ((tokDs ts).drop j) j = badK (tokDs ts)) ?_ ?_ (ts.length + 1) 0 () (by omega) (by omega) (by rfl)
  · intro n _ hI
    rw [slices_IndexFunc_impl_Token_impl_Token.s0, tokDs_length, dge (by omega), cond_false]
    rw [← tokDs_length ts, List.drop_length] at hI
    rw [← hI]
    rfl
  · intro n j _ hj hI
    obtain ⟨v1, a1, a2⟩ := tok_view hj
    rw [slices_IndexFunc_impl_Token_impl_Token.s0, tokDs_length, dlt hj, cond_true, idx_nat hj, Option.bind_some, v1, cond_true, a1, a2, w1 (by omega)]
    rw [List.drop_eq_getElem_cons (by rw [tokDs_length]; exact hj), badKF, tokVD_get hj] at hI
    cases hb : tokV ts[j].1 ts[j].2 with
    | true =>
      rw [hb, cond_true] at hI
      exact .inr ⟨(), hI, rfl⟩
    | false =>
      rw [hb, cond_false] at hI
      exact .inl (by rw [← hI]; rfl)

namespace slices_ContainsFunc_impl_Token_impl_Token
noncomputable def E : Entry := ⟨33, true, false, fun | [.d (.seq 2 xs), .d (.clo 31 [])] => toksB xs && decide ((xs : List D).length < 9223372036854775808) | _ => false, fun | [.d (.seq 2 xs), .d (.clo 31 [])] => ([.one ((.bool (!(allK xs))), false)], []) | _ => ([], []), fun _ => [], false, fun _ => none, none⟩
end slices_ContainsFunc_impl_Token_impl_Token
namespace slices_ContainsFunc_impl_Token_impl_Token
noncomputable def X : List Entry := [slices_IndexFunc_impl_Token_impl_Token.E]
noncomputable def I : List Inl := [⟨33, Try.f33, ⟨[], [], [], [], [], []⟩⟩]
theorem I_ok : ∀ i ∈ I, Try.prog.funcs[i.f]? = some i.fn ∧ (i.fn.name == "runtime.NumGoroutine") = false := by
  intro i hi
  simp only [I, List.mem_cons, List.not_mem_nil, or_false] at hi
  subst hi
  exact ⟨by kernel_rfl, by kernel_rfl⟩
theorem e (fuel : Nat) (p0 : List D) : runF Try.prog X I 0 fuel 33 Try.f33 [.d (.seq 2 p0), .d (.clo 31 [])] =
  (bif toksB p0 && decide ((p0 : List D).length < 9223372036854775808) then
  some ([.one ((.bool (decide (((badK p0) : Int) ≥ 0))), false)], [])
  else
  none) := by kernel_rfl
end slices_ContainsFunc_impl_Token_impl_Token
theorem slices_ContainsFunc_impl_Token_impl_Token.ok_of (hX : ∀ E ∈ slices_ContainsFunc_impl_Token_impl_Token.X, CallSpec Try.prog E) (h : ∀ (xs : List D), (toksB xs && decide ((xs : List D).length < 9223372036854775808)) = true → ∃ fuel, runF Try.prog slices_ContainsFunc_impl_Token_impl_Token.X slices_ContainsFunc_impl_Token_impl_Token.I 0 fuel 33 Try.f33 [.d (.seq 2 xs), .d (.clo 31 [])] = some ([.one ((.bool (!(allK xs))), false)], [])) : CallSpec Try.prog slices_ContainsFunc_impl_Token_impl_Token.E :=
  callSpec_of (d := 0) hX (by kernel_rfl) slices_ContainsFunc_impl_Token_impl_Token.I_ok (by kernel_rfl) (by kernel_rfl) (by kernel_rfl) (fun _ _ _ _ h => by dsimp only [slices_ContainsFunc_impl_Token_impl_Token.E] at h; cases h) (fun xs hp => by
    dsimp only [slices_ContainsFunc_impl_Token_impl_Token.E] at hp ⊢
    split at hp
    · exact h _ hp
    · cases hp)
theorem slices_ContainsFunc_impl_Token_impl_Token.ok : CallSpec Try.prog slices_ContainsFunc_impl_Token_impl_Token.E := slices_ContainsFunc_impl_Token_impl_Token.ok_of (by simp [slices_ContainsFunc_impl_Token_impl_Token.X, slices_IndexFunc_impl_Token_impl_Token.ok]) fun xs h => ⟨0, by
  rw [slices_ContainsFunc_impl_Token_impl_Token.e, h, cond_true]
  rw [show decide (badK xs ≥ 0) = !(allK xs) from badKF_neg xs 0]⟩

namespace impl_ValidTokens
noncomputable def E : Entry := ⟨20, true, false, fun | [.d (.seq 2 xs)] => toksB xs && decide ((xs : List D).length < 9223372036854775808) | _ => false, fun | [.d (.seq 2 xs)] => ([.one ((.bool (decide ((xs : List D).length ≤ 40) && allK xs)), false)], []) | _ => ([], []), fun _ => [], false, fun _ => none, none⟩
end impl_ValidTokens
namespace impl_ValidTokens
noncomputable def X : List Entry := [slices_ContainsFunc_impl_Token_impl_Token.E]
noncomputable def I : List Inl := [⟨20, Try.f20, ⟨[], [], [], [], [], []⟩⟩]
theorem I_ok : ∀ i ∈ I, Try.prog.funcs[i.f]? = some i.fn ∧ (i.fn.name == "runtime.NumGoroutine") = false := by
  intro i hi
  simp only [I, List.mem_cons, List.not_mem_nil, or_false] at hi
  subst hi
  exact ⟨by kernel_rfl, by kernel_rfl⟩
theorem e (fuel : Nat) (p0 : List D) : runF Try.prog X I 0 fuel 20 Try.f20 [.d (.seq 2 p0)] =
  (bif (decide ((((p0.length : Nat) : Int) : Int) ≤ 40)) then
  (bif toksB p0 && decide ((p0 : List D).length < 9223372036854775808) then
  some ([.one ((.bool (!(!(allK p0)))), false)], [])
  else
  none)
  else
  some ([.one ((.bool false), false)], [])) := by kernel_rfl
end impl_ValidTokens
theorem impl_ValidTokens.ok_of (hX : ∀ E ∈ impl_ValidTokens.X, CallSpec Try.prog E) (h : ∀ (xs : List D), (toksB xs && decide ((xs : List D).length < 9223372036854775808)) = true → ∃ fuel, runF Try.prog impl_ValidTokens.X impl_ValidTokens.I 0 fuel 20 Try.f20 [.d (.seq 2 xs)] = some ([.one ((.bool (decide ((xs : List D).length ≤ 40) && allK xs)), false)], [])) : CallSpec Try.prog impl_ValidTokens.E :=
  callSpec_of (d := 0) hX (by kernel_rfl) impl_ValidTokens.I_ok (by kernel_rfl) (by kernel_rfl) (by kernel_rfl) (fun _ _ _ _ h => by dsimp only [impl_ValidTokens.E] at h; cases h) (fun xs hp => by
    dsimp only [impl_ValidTokens.E] at hp ⊢
    split at hp
    · exact h _ hp
    · cases hp)
theorem impl_ValidTokens.ok : CallSpec Try.prog impl_ValidTokens.E := impl_ValidTokens.ok_of (by simp [impl_ValidTokens.X, slices_ContainsFunc_impl_Token_impl_Token.ok]) fun xs h => ⟨0, by
  rw [impl_ValidTokens.e, h, cond_true, Bool.not_not, show decide (((xs.length : Nat) : Int) ≤ 40) = decide (xs.length ≤ 40) from decide_eq_decide.2 (by omega)]
  cases decide (xs.length ≤ 40) <;> rfl⟩

namespace impl_treeReader_next
noncomputable def E : Entry := ⟨62, false, false, fun | [.box [(.seq 2 ls)]] => toksB ls && decide ((ls : List D).length ≤ 40) | _ => false, fun | [.box [(.seq 2 ls)]] => ([.agg [((.int .i64 (hdK (revK ls)).1), false), ((.int .i64 (hdK (revK ls)).2), false)], .one ((.bool (!((revK ls).isEmpty))), false)], [[(.seq 2 ls)]]) | _ => ([], []), fun _ => [], false, fun _ => none, none⟩
end impl_treeReader_next
namespace impl_treeReader_next
noncomputable def X : List Entry := []
noncomputable def I : List Inl := [⟨62, Try.f62, ⟨[], [], [], [(3, [0, 1, 2, 4, 5, 6, 3, 7, 8, 9, 10, 11, 12, 13])], [], []⟩⟩]
theorem I_ok : ∀ i ∈ I, Try.prog.funcs[i.f]? = some i.fn ∧ (i.fn.name == "runtime.NumGoroutine") = false := by
  intro i hi
  simp only [I, List.mem_cons, List.not_mem_nil, or_false] at hi
  subst hi
  exact ⟨by kernel_rfl, by kernel_rfl⟩
theorem e (fuel : Nat) (p0q0 : List D) : runF Try.prog X I 0 fuel 62 Try.f62 [.box [(.seq 2 p0q0)]] =
  (bif ((((p0q0.length : Nat) : Int) : Int) == 0) then
  some ([.agg [((.int .i64 0), false), ((.int .i64 0), false)], .one ((.bool false), false)], [[(.seq 2 p0q0)]])
  else
  (idx (IntKind.wrap .i64 (((p0q0.length : Nat) : Int) - 1)) p0q0.length).bind fun j1 =>
  (bif okS [.int .i64, .int .i64] p0q0 j1 then
  some ([.agg [((.int .i64 (cellI p0q0 j1 0)), false), ((.int .i64 (cellI p0q0 j1 1)), false)], .one ((.bool true), false)], [[(.seq 2 p0q0)]])
  else
  none)) := by kernel_rfl
end impl_treeReader_next
theorem impl_treeReader_next.ok_of (hX : ∀ E ∈ impl_treeReader_next.X, CallSpec Try.prog E) (h : ∀ (ls : List D), (toksB ls && decide ((ls : List D).length ≤ 40)) = true → ∃ fuel, runF Try.prog impl_treeReader_next.X impl_treeReader_next.I 0 fuel 62 Try.f62 [.box [(.seq 2 ls)]] = some ([.agg [((.int .i64 (hdK (revK ls)).1), false), ((.int .i64 (hdK (revK ls)).2), false)], .one ((.bool (!((revK ls).isEmpty))), false)], [[(.seq 2 ls)]])) : CallSpec Try.prog impl_treeReader_next.E :=
  callSpec_of (d := 0) hX (by kernel_rfl) impl_treeReader_next.I_ok (by kernel_rfl) (by kernel_rfl) (by kernel_rfl) (fun _ _ _ _ h => by dsimp only [impl_treeReader_next.E] at h; cases h) (fun xs hp => by
    dsimp only [impl_treeReader_next.E] at hp ⊢
    split at hp
    · exact h _ hp
    · cases hp)
theorem impl_treeReader_next.ok : CallSpec Try.prog impl_treeReader_next.E := impl_treeReader_next.ok_of (by simp [impl_treeReader_next.X]) fun ls h => ⟨0, by
  simp only [Bool.and_eq_true, decide_eq_true_eq] at h
  obtain ⟨r, rfl⟩ := unK_of h.1
  have hl := h.2
  rw [unK_length] at hl
  rw [impl_treeReader_next.e, revK_unK]
  cases r with
  | nil => rfl
  | cons t r =>
    obtain ⟨v1, v2, v3⟩ := unK_view t r
    simp only [List.length_cons] at hl
    rw [unK_length, List.length_cons, show ((((r.length + 1 : Nat)) : Int) == 0) = false from beq_eq_false_iff_ne.2 (by omega), cond_false, show IntKind.wrap .i64 (((r.length + 1 : Nat) : Int) - 1) = ((r.length : Nat) : Int) by rw [wS (by omega) (by omega)]; omega, idx_nat (by omega), Option.bind_some, v1, cond_true, v2, v3]
    rfl⟩

namespace impl_treeReader_isAtOperand
noncomputable def E : Entry := ⟨63, false, false, fun | [.box [(.seq 2 ls)]] => toksB ls && decide ((ls : List D).length ≤ 40) | _ => false, fun | [.box [(.seq 2 ls)]] => ([.one ((.bool (opdR (revK ls))), false)], [[(.seq 2 ls)]]) | _ => ([], []), fun _ => [], false, fun _ => none, none⟩
end impl_treeReader_isAtOperand
namespace impl_treeReader_isAtOperand
noncomputable def X : List Entry := [impl_treeReader_next.E]
noncomputable def I : List Inl := [⟨63, Try.f63, ⟨[], [], [], [], [], []⟩⟩]
theorem I_ok : ∀ i ∈ I, Try.prog.funcs[i.f]? = some i.fn ∧ (i.fn.name == "runtime.NumGoroutine") = false := by
  intro i hi
  simp only [I, List.mem_cons, List.not_mem_nil, or_false] at hi
  subst hi
  exact ⟨by kernel_rfl, by kernel_rfl⟩
theorem e (fuel : Nat) (p0q0 : List D) : runF Try.prog X I 0 fuel 63 Try.f63 [.box [(.seq 2 p0q0)]] =
  (bif toksB p0q0 && decide ((p0q0 : List D).length ≤ 40) then
  (bif (!((revK p0q0).isEmpty)) then
  (bif (((hdK (revK p0q0)).1 : Int) != 2) then
  some ([.one ((.bool true), false)], [[(.seq 2 p0q0)]])
  else
  some ([.one ((.bool (((hdK (revK p0q0)).2 : Int) == 14)), false)], [[(.seq 2 p0q0)]]))
  else
  some ([.one ((.bool false), false)], [[(.seq 2 p0q0)]]))
  else
  none) := by kernel_rfl
end impl_treeReader_isAtOperand
theorem impl_treeReader_isAtOperand.ok_of (hX : ∀ E ∈ impl_treeReader_isAtOperand.X, CallSpec Try.prog E) (h : ∀ (ls : List D), (toksB ls && decide ((ls : List D).length ≤ 40)) = true → ∃ fuel, runF Try.prog impl_treeReader_isAtOperand.X impl_treeReader_isAtOperand.I 0 fuel 63 Try.f63 [.box [(.seq 2 ls)]] = some ([.one ((.bool (opdR (revK ls))), false)], [[(.seq 2 ls)]])) : CallSpec Try.prog impl_treeReader_isAtOperand.E :=
  callSpec_of (d := 0) hX (by kernel_rfl) impl_treeReader_isAtOperand.I_ok (by kernel_rfl) (by kernel_rfl) (by kernel_rfl) (fun _ _ _ _ h => by dsimp only [impl_treeReader_isAtOperand.E] at h; cases h) (fun xs hp => by
    dsimp only [impl_treeReader_isAtOperand.E] at hp ⊢
    split at hp
    · exact h _ hp
    · cases hp)
theorem impl_treeReader_isAtOperand.ok : CallSpec Try.prog impl_treeReader_isAtOperand.E := impl_treeReader_isAtOperand.ok_of (by simp [impl_treeReader_isAtOperand.X, impl_treeReader_next.ok]) fun ls h => ⟨0, by
  simp only [Bool.and_eq_true, decide_eq_true_eq] at h
  obtain ⟨r, rfl⟩ := unK_of h.1
  rw [impl_treeReader_isAtOperand.e, h.1, decide_eq_true h.2, Bool.and_self, cond_true, revK_unK]
  cases r with
  | nil => rfl
  | cons t r =>
    obtain ⟨k, v⟩ := t
    show (bif k != 2 then _ else _) = some (([.one (.bool (k != 2 || v == 14), false)], _) : Ret)
    cases k != 2 <;> rfl⟩

namespace impl_treeReader_nums
noncomputable def E : Entry := ⟨64, false, false, fun | [.box [(.seq 2 ls)]] => toksB ls && decide ((ls : List D).length ≤ 40) | _ => false, fun | [.box [(.seq 2 ls)]] => ([.agg [((.int .i64 0), false), ((.int .i64 0), false), ((.int .i64 0), false), ((.ints .i64 (numsV (revK ls))), true), ((.seq 5 ([] : List D)), true)]], [[(.seq 2 (unK (numsP (revK ls))))]]) | _ => ([], []), fun _ => [], false, fun _ => none, none⟩
end impl_treeReader_nums
namespace impl_treeReader_nums
noncomputable def X : List Entry := []
noncomputable def I : List Inl := [⟨64, Try.f64, ⟨[], [(1000002, [1, 4, 5, 6, 7, 8, 9, 10, 11, 12, 13, 14, 15, 16, 17, 18, 19, 20, 21, 22, 23, 24, 25, 26, 27, 28, 29, 30, 31, 32, 33, 34, 35, 36, 37, 38, 39, 40, 41, 42, 43, 44, 45, 46, 47, 48, 49, 50, 51, 52, 53, 54, 55]), (1000006, [1, 5, 6, 7, 8, 9, 10, 11, 12, 13, 14, 15, 16, 17, 18, 19, 20, 21, 22, 23, 24, 25, 26, 27, 28, 29, 30, 31, 32, 36, 37, 38, 39, 40, 41, 42, 43, 44, 45, 46, 47, 48, 49, 50, 51, 52, 53, 54, 55])], [], [], [], []⟩⟩]
theorem I_ok : ∀ i ∈ I, Try.prog.funcs[i.f]? = some i.fn ∧ (i.fn.name == "runtime.NumGoroutine") = false := by
  intro i hi
  simp only [I, List.mem_cons, List.not_mem_nil, or_false] at hi
  subst hi
  exact ⟨by kernel_rfl, by kernel_rfl⟩
noncomputable abbrev L0 (fuel n : Nat) (s : St) (k : Kont) := lAt Try.prog X I fuel false 0 false 64 (bodyOf Try.f64) [1, 1, 0, 0] n s k
noncomputable abbrev k0  (fuel : Nat) : Kont := (kAt Try.prog X I fuel false 0 false 64 (bodyOf Try.f64) [1, 1, 0, 0] [] (endK Try.prog Try.f64))
noncomputable def t0 (p0q0 : List D) (x0q0 : Int) : St := ⟨[(.ptr 1000000000 0 0), .dead, (.ptr 1000000001 0 0), (.imm (.int .i64 x0q0)), .dead, .dead, .dead, .dead, .dead, .dead, .dead, .dead, .dead, .dead, .dead, .dead, .dead, .dead, .dead, .dead, .dead, .dead, .dead, .dead, .dead, .dead, .dead, .dead, .dead, .dead, .dead, .dead, .dead, .dead, .dead, .dead, .dead, .dead, .dead, .dead, .dead, .dead, .dead, .dead, .dead, .dead, .dead, .dead, .dead, .dead, .dead, .dead, .dead, .dead, .dead, .dead], hOf [(1000000000, (.box [(.imm (.seq 2 p0q0))])), (1000000001, (.box [(.imm (.int .i64 0)), (.imm (.int .i64 0)), (.imm (.int .i64 0)), (.imm .nils), (.imm .nils)]))], [(.ptr 1000000000 0 0)], []⟩
noncomputable abbrev L1 (fuel n : Nat) (s : St) (k : Kont) := lAt Try.prog X I fuel false 0 false 64 (bodyOf Try.f64) [1, 1, 1, 1, 0, 1, 0] n s k
noncomputable abbrev k1  (fuel : Nat) : Kont := (kAt Try.prog X I fuel false 0 false 64 (bodyOf Try.f64) [1, 1, 1, 1, 0, 1, 0] [] (endK Try.prog Try.f64))
noncomputable def t1 (x0q0 : Int) (p0q0 : List D) (x1q1 : List D) (x1q2 : Int) : St := ⟨[(.ptr 1000000000 0 0), .dead, (.ptr 1000000001 0 0), (.imm (.int .i64 x0q0)), (.imm .nils), .dead, .dead, .dead, .dead, .dead, .dead, .dead, .dead, .dead, .dead, .dead, .dead, .dead, .dead, .dead, .dead, .dead, .dead, .dead, .dead, .dead, .dead, .dead, .dead, .dead, .dead, .dead, .dead, (.imm (.seq 2 x1q1)), (.imm (.int .i64 x1q2)), (.imm (.int .i64 0)), .dead, .dead, .dead, .dead, .dead, .dead, .dead, .dead, .dead, .dead, .dead, .dead, .dead, .dead, .dead, .dead, .dead, .dead, .dead, .dead], hOf [(1000000000, (.box [(.imm (.seq 2 p0q0))])), (1000000001, (.box [(.imm (.int .i64 0)), (.imm (.int .i64 0)), (.imm (.int .i64 0)), (.imm .nils), (.imm .nils)]))], [(.ptr 1000000000 0 0)], []⟩
noncomputable abbrev L2 (fuel n : Nat) (s : St) (k : Kont) := lAt Try.prog X I fuel false 0 false 64 (bodyOf Try.f64) [1, 1, 1, 1, 0, 1, 0] n s k
noncomputable abbrev k2  (fuel : Nat) : Kont := (kAt Try.prog X I fuel false 0 false 64 (bodyOf Try.f64) [1, 1, 1, 1, 0, 1, 0] [] (endK Try.prog Try.f64))
noncomputable def t2 (x0q0 : Int) (x1q1 : List D) (x1q2 : Int) (p0q0 : List D) (x2q3 : Int) (x2q8 : List Int) : St := ⟨[(.ptr 1000000000 0 0), .dead, (.ptr 1000000001 0 0), (.imm (.int .i64 x0q0)), (.all 1000000002 1), .dead, .dead, .dead, .dead, .dead, .dead, .dead, .dead, .dead, .dead, .dead, .dead, .dead, .dead, .dead, .dead, .dead, .dead, .dead, .dead, .dead, .dead, .dead, .dead, .dead, .dead, .dead, .dead, (.imm (.seq 2 x1q1)), (.imm (.int .i64 x1q2)), (.imm (.int .i64 x2q3)), .dead, .dead, .dead, .dead, .dead, .dead, .dead, .dead, .dead, .dead, .dead, .dead, .dead, .dead, .dead, .dead, .dead, .dead, .dead, .dead], hOf [(1000000000, (.box [(.imm (.seq 2 p0q0))])), (1000000001, (.box [(.imm (.int .i64 0)), (.imm (.int .i64 0)), (.imm (.int .i64 0)), (.imm .nils), (.imm .nils)])), (1000000002, (.ints .i64 x2q8))], [(.ptr 1000000000 0 0)], []⟩
theorem e (fuel : Nat) (p0q0 : List D) : runF Try.prog X I 0 fuel 64 Try.f64 [.box [(.seq 2 p0q0)]] =
  L0 fuel fuel (t0 p0q0 (((p0q0.length : Nat) : Int))) (k0  fuel) := by kernel_rfl
theorem s0 (fuel n0 : Nat) (p0q0 : List D) (x0q0 : Int) : L0 fuel (n0 + 1) (t0 p0q0 x0q0) (k0  fuel) =
  (bif (decide ((x0q0 : Int) > 0)) then
  (idx (IntKind.wrap .i64 (x0q0 - 1)) p0q0.length).bind fun j23 =>
  (bif okC (.int .i64) p0q0 j23 0 then
  (bif (((cellI p0q0 j23 0) : Int) == 0) then
  L0 fuel n0 (t0 p0q0 ((IntKind.wrap .i64 (x0q0 - 1)))) (k0  fuel)
  else
  (cutEnds p0q0.length (some (.imm (.int .i64 x0q0))) (none)).bind fun cq24 =>
  L1 fuel fuel (t1 x0q0 p0q0 (((p0q0.drop cq24.1).take (cq24.2 - cq24.1))) (((((p0q0.drop cq24.1).take (cq24.2 - cq24.1)).length : Nat) : Int))) (k1  fuel))
  else
  none)
  else
  (cutEnds p0q0.length (some (.imm (.int .i64 x0q0))) (none)).bind fun cq33 =>
  L1 fuel fuel (t1 x0q0 p0q0 (((p0q0.drop cq33.1).take (cq33.2 - cq33.1))) (((((p0q0.drop cq33.1).take (cq33.2 - cq33.1)).length : Nat) : Int))) (k1  fuel)) := by kernel_rfl
theorem s1 (fuel n1 : Nat) (x0q0 : Int) (p0q0 : List D) (x1q1 : List D) (x1q2 : Int) : L1 fuel (n1 + 1) (t1 x0q0 p0q0 x1q1 x1q2) (k1  fuel) =
  (bif (decide ((0 : Int) < x1q2)) then
  (idx 0 x1q1.length).bind fun j27 =>
  (bif okS [.int .i64, .int .i64] x1q1 j27 then
  (bif fits ([(cellI x1q1 j27 1)] : List Int).length 8 then
  L2 fuel n1 (t2 x0q0 x1q1 x1q2 p0q0 ((IntKind.wrap .i64 (0 + 1))) ([(cellI x1q1 j27 1)])) (k2  fuel)
  else
  none)
  else
  none)
  else
  (cutEnds p0q0.length (none) (some (.imm (.int .i64 x0q0)))).bind fun cq32 =>
  some ([.agg [((.int .i64 0), false), ((.int .i64 0), false), ((.int .i64 0), false), ((.ints .i64 []), true), ((.seq 5 []), true)]], [[(.seq 2 ((p0q0.drop cq32.1).take (cq32.2 - cq32.1)))]])) := by kernel_rfl
theorem s2 (fuel n2 : Nat) (x0q0 : Int) (x1q1 : List D) (x1q2 : Int) (p0q0 : List D) (x2q3 : Int) (x2q8 : List Int) : L2 fuel (n2 + 1) (t2 x0q0 x1q1 x1q2 p0q0 x2q3 x2q8) (k2  fuel) =
  (bif (decide ((x2q3 : Int) < x1q2)) then
  (idx x2q3 x1q1.length).bind fun j30 =>
  (bif okS [.int .i64, .int .i64] x1q1 j30 then
  (bif fits (x2q8.length + ([(cellI x1q1 j30 1)] : List Int).length) 8 then
  L2 fuel n2 (t2 x0q0 x1q1 x1q2 p0q0 ((IntKind.wrap .i64 (x2q3 + 1))) ((x2q8 ++ [(cellI x1q1 j30 1)]))) (k2  fuel)
  else
  none)
  else
  none)
  else
  (cutEnds p0q0.length (none) (some (.imm (.int .i64 x0q0)))).bind fun cq31 =>
  some ([.agg [((.int .i64 0), false), ((.int .i64 0), false), ((.int .i64 0), false), ((.ints .i64 x2q8), true), ((.seq 5 []), true)]], [[(.seq 2 ((p0q0.drop cq31.1).take (cq31.2 - cq31.1)))]])) := by kernel_rfl
end impl_treeReader_nums
theorem impl_treeReader_nums.ok_of (hX : ∀ E ∈ impl_treeReader_nums.X, CallSpec Try.prog E) (h : ∀ (ls : List D), (toksB ls && decide ((ls : List D).length ≤ 40)) = true → ∃ fuel, runF Try.prog impl_treeReader_nums.X impl_treeReader_nums.I 0 fuel 64 Try.f64 [.box [(.seq 2 ls)]] = some ([.agg [((.int .i64 0), false), ((.int .i64 0), false), ((.int .i64 0), false), ((.ints .i64 (numsV (revK ls))), true), ((.seq 5 ([] : List D)), true)]], [[(.seq 2 (unK (numsP (revK ls))))]])) : CallSpec Try.prog impl_treeReader_nums.E :=
  callSpec_of (d := 0) hX (by kernel_rfl) impl_treeReader_nums.I_ok (by kernel_rfl) (by kernel_rfl) (by kernel_rfl) (fun _ _ _ _ h => by dsimp only [impl_treeReader_nums.E] at h; cases h) (fun xs hp => by
    dsimp only [impl_treeReader_nums.E] at hp ⊢
    split at hp
    · exact h _ hp
    · cases hp)
theorem impl_treeReader_nums.l2 (F : Nat) (x : Int) (a : List Tok) (p : List D) (m : Nat) (ha : a.length ≤ 40) : ∀ (n j : Nat) (hj : j ≤ a.length), a.length - j < n →
    impl_treeReader_nums.L2 F n (impl_treeReader_nums.t2 x (unK a) ((a.length : Nat) : Int) p (j : Int) ((a.reverse.take j).map fun t => t.2)) (impl_treeReader_nums.k2 F) =
      (cutEnds p.length none (some (.imm (.int .i64 x)))).bind fun c => some ([.agg [(.int .i64 0, false), (.int .i64 0, false), (.int .i64 0, false), (.ints .i64 (a.reverse.map fun t => t.2), true), (.seq 5 [], true)]], [[.seq 2 ((p.drop c.1).take (c.2 - c.1))]]) := by
  intro n j hj hn
  refine cnt_loop (σ := List Int) (N := a.length) (fun q j out => impl_treeReader_nums.L2 F q (impl_treeReader_nums.t2 x (unK a) ((a.length : Nat) : Int) p (j : Int) out) (impl_treeReader_nums.k2 F)) (fun j out => out = (a.reverse.take j).map fun t => t.2) ?_ ?_ n j _ hj hn rfl
  · intro q out hI
    rw [impl_treeReader_nums.s2, dge (by omega), cond_false, hI, List.take_of_length_le (by simp)]
  · intro q j out hj hI
    obtain ⟨v1, v2, v3⟩ := unK_get hj
    have hol : out.length = j := by rw [hI]; simp; omega
    rw [impl_treeReader_nums.s2, dlt hj, cond_true, unK_length, idx_nat hj, Option.bind_some, v1, cond_true, hol, fitsOk (by simp; omega), cond_true, v3, w1 (by omega)]
    refine .inr ⟨_, ?_, rfl⟩
    rw [hI, List.take_succ_eq_append_getElem (by simpa using hj)]
    simp
theorem impl_treeReader_nums.l1 (F : Nat) (x : Int) (a : List Tok) (p : List D) (ha : a.length ≤ 40) (hF : a.length + 2 < F) :
    impl_treeReader_nums.L1 F F (impl_treeReader_nums.t1 x p (unK a) ((a.length : Nat) : Int)) (impl_treeReader_nums.k1 F) =
      (cutEnds p.length none (some (.imm (.int .i64 x)))).bind fun c => some ([.agg [(.int .i64 0, false), (.int .i64 0, false), (.int .i64 0, false), (.ints .i64 (a.reverse.map fun t => t.2), true), (.seq 5 [], true)]], [[.seq 2 ((p.drop c.1).take (c.2 - c.1))]]) := by
  obtain ⟨F', rfl⟩ : ∃ k, F = k + 1 := ⟨F - 1, by omega⟩
  rw [impl_treeReader_nums.s1]
  by_cases h0 : a.length = 0
  · rw [decide_eq_false (by omega), cond_false, List.length_eq_zero_iff.1 h0]
    rfl
  · have h1 : 0 < a.length := by omega
    obtain ⟨v1, v2, v3⟩ := unK_get h1
    rw [decide_eq_true (by omega), cond_true, unK_length, show idx 0 a.length = some 0 from idx_nat h1, Option.bind_some, v1, cond_true, fitsOk (by simp), cond_true, v3]
    have e : ([(a.reverse[0]'(by simpa using h1)).2] : List Int) = (a.reverse.take 1).map fun t => t.2 := by
      rw [List.take_succ_eq_append_getElem (by simpa using h1)]
      rfl
    rw [e]
    exact impl_treeReader_nums.l2 (F' + 1) x a p 0 ha F' 1 h1 (by omega)
theorem impl_treeReader_nums.l0 (F : Nat) (hF : 60 < F) : ∀ (b a : List Tok) (n : Nat), (a ++ b).length ≤ 40 → (∀ t ∈ a, t.1 = 0) → b.length < n →
    impl_treeReader_nums.L0 F n (impl_treeReader_nums.t0 (unK (a ++ b)) ((b.length : Nat) : Int)) (impl_treeReader_nums.k0 F) =
      some ([.agg [(.int .i64 0, false), (.int .i64 0, false), (.int .i64 0, false), (.ints .i64 (numsV (a ++ b)), true), (.seq 5 [], true)]], [[.seq 2 (unK (numsP (a ++ b)))]]) := by
  have hend : ∀ (b a : List Tok), (a ++ b).length ≤ 40 → (∀ t ∈ a, t.1 = 0) → b.takeWhile (fun t => t.1 == 0) = [] →
      ((cutEnds (unK (a ++ b)).length (some (.imm (.int .i64 ((b.length : Nat) : Int)))) none).bind fun c => impl_treeReader_nums.L1 F F (impl_treeReader_nums.t1 ((b.length : Nat) : Int) (unK (a ++ b)) (((unK (a ++ b)).drop c.1).take (c.2 - c.1)) ((((((unK (a ++ b)).drop c.1).take (c.2 - c.1)).length : Nat)) : Int)) (impl_treeReader_nums.k1 F)) =
        some ([.agg [(.int .i64 0, false), (.int .i64 0, false), (.int .i64 0, false), (.ints .i64 (numsV (a ++ b)), true), (.seq 5 [], true)]], [[.seq 2 (unK (numsP (a ++ b)))]]) := by
    intro b a hl ha hb
    have hab : a.length + b.length ≤ 40 := by simpa using hl
    have e1 : numsV (a ++ b) = (a.reverse.map fun t => t.2) := by
      unfold numsV
      rw [List.takeWhile_append_of_pos (by simpa using ha), hb, List.append_nil, List.map_reverse]
    have e2 : numsP (a ++ b) = b := by
      unfold numsP
      rw [List.dropWhile_append_of_pos (by simpa using ha)]
      have := List.takeWhile_append_dropWhile (p := fun t : Tok => t.1 == 0) (l := b)
      rw [hb] at this
      exact this
    rw [unK_length, cut_lo (by simp), Option.bind_some, unK_cut, unK_length, impl_treeReader_nums.l1 F _ a _ (by omega) (by omega), unK_length, cut_hi (by simp), Option.bind_some, e1, e2]
    show some (_, [[D.seq 2 ((unK (a ++ b)).take b.length)]]) = _
    rw [unK_fst]
  intro b
  induction b with
  | nil =>
    intro a n hl ha hn
    obtain ⟨n, rfl⟩ : ∃ k, n = k + 1 := ⟨n - 1, by omega⟩
    rw [impl_treeReader_nums.s0, decide_eq_false (by simp), cond_false]
    exact hend [] a hl ha rfl
  | cons t b ih =>
    intro a n hl ha hn
    obtain ⟨n, rfl⟩ : ∃ k, n = k + 1 := ⟨n - 1, by omega⟩
    simp only [List.length_cons] at hn
    have hab : a.length + (b.length + 1) ≤ 40 := by simpa using hl
    obtain ⟨v1, v2⟩ := okC_unK t a b
    have ew : IntKind.wrap .i64 ((((t :: b).length : Nat) : Int) - 1) = ((b.length : Nat) : Int) := by rw [List.length_cons, wS (by omega) (by omega)]; omega
    rw [impl_treeReader_nums.s0, decide_eq_true (by simp <;> omega), cond_true, ew, unK_length, idx_nat (by simp; omega), Option.bind_some, v1, cond_true, v2]
    by_cases hk : t.1 = 0
    · rw [hk, show ((0 : Int) == 0) = true from rfl, cond_true]
      have e : a ++ t :: b = (a ++ [t]) ++ b := by simp
      rw [e]
      exact ih (a ++ [t]) n (by simpa using hl) (fun x hx => by
        rcases List.mem_append.1 hx with hx | hx
        · exact ha x hx
        · simp at hx; rw [hx]; exact hk) (by omega)
    · rw [beq_eq_false_iff_ne.2 hk, cond_false]
      have := hend (t :: b) a hl ha (by simp [List.takeWhile_cons, hk])
      rw [unK_length] at this
      exact this
theorem impl_treeReader_nums.ok : CallSpec Try.prog impl_treeReader_nums.E := impl_treeReader_nums.ok_of (by simp [impl_treeReader_nums.X]) fun ls h => ⟨70, by
  simp only [Bool.and_eq_true, decide_eq_true_eq] at h
  obtain ⟨r, rfl⟩ := unK_of h.1
  have hl := h.2
  rw [unK_length] at hl
  rw [impl_treeReader_nums.e, revK_unK, unK_length]
  exact impl_treeReader_nums.l0 70 (by omega) r [] 70 hl (fun _ h => by cases h) (by omega)⟩

namespace impl_treeReader_skip
noncomputable def E : Entry := ⟨65, false, false, fun | [.box [(.seq 2 ls)]] => toksB ls && decide ((ls : List D).length ≤ 40) && !((revK ls).isEmpty) | _ => false, fun | [.box [(.seq 2 ls)]] => ([], [[(.seq 2 (unK (revK ls).tail))]]) | _ => ([], []), fun _ => [], false, fun _ => none, none⟩
end impl_treeReader_skip
namespace impl_treeReader_skip
noncomputable def X : List Entry := []
noncomputable def I : List Inl := [⟨65, Try.f65, ⟨[], [], [], [(0, [0, 1, 2, 3, 5, 6, 7, 4, 8, 9, 10, 11, 12, 13, 14])], [], []⟩⟩]
theorem I_ok : ∀ i ∈ I, Try.prog.funcs[i.f]? = some i.fn ∧ (i.fn.name == "runtime.NumGoroutine") = false := by
  intro i hi
  simp only [I, List.mem_cons, List.not_mem_nil, or_false] at hi
  subst hi
  exact ⟨by kernel_rfl, by kernel_rfl⟩
theorem e (fuel : Nat) (p0q0 : List D) : runF Try.prog X I 0 fuel 65 Try.f65 [.box [(.seq 2 p0q0)]] =
  (cutEnds p0q0.length (none) (some (.imm (.int .i64 (IntKind.wrap .i64 (((p0q0.length : Nat) : Int) - 1)))))).bind fun cq1 =>
  some ([], [[(.seq 2 ((p0q0.drop cq1.1).take (cq1.2 - cq1.1)))]]) := by kernel_rfl
end impl_treeReader_skip
theorem impl_treeReader_skip.ok_of (hX : ∀ E ∈ impl_treeReader_skip.X, CallSpec Try.prog E) (h : ∀ (ls : List D), (toksB ls && decide ((ls : List D).length ≤ 40) && !((revK ls).isEmpty)) = true → ∃ fuel, runF Try.prog impl_treeReader_skip.X impl_treeReader_skip.I 0 fuel 65 Try.f65 [.box [(.seq 2 ls)]] = some ([], [[(.seq 2 (unK (revK ls).tail))]])) : CallSpec Try.prog impl_treeReader_skip.E :=
  callSpec_of (d := 0) hX (by kernel_rfl) impl_treeReader_skip.I_ok (by kernel_rfl) (by kernel_rfl) (by kernel_rfl) (fun _ _ _ _ h => by dsimp only [impl_treeReader_skip.E] at h; cases h) (fun xs hp => by
    dsimp only [impl_treeReader_skip.E] at hp ⊢
    split at hp
    · exact h _ hp
    · cases hp)
theorem impl_treeReader_skip.ok : CallSpec Try.prog impl_treeReader_skip.E := impl_treeReader_skip.ok_of (by simp [impl_treeReader_skip.X]) fun ls h => ⟨0, by
  simp only [Bool.and_eq_true, decide_eq_true_eq] at h
  obtain ⟨r, rfl⟩ := unK_of h.1.1
  have hl := h.1.2
  have hn := h.2
  rw [unK_length] at hl
  rw [revK_unK] at hn
  rw [impl_treeReader_skip.e, revK_unK]
  cases r with
  | nil => cases hn
  | cons t r =>
    simp only [List.length_cons] at hl
    rw [unK_length, List.length_cons, show IntKind.wrap .i64 (((r.length + 1 : Nat) : Int) - 1) = ((r.length : Nat) : Int) by rw [wS (by omega) (by omega)]; omega, cut_hi (by omega), Option.bind_some]
    show some (([], [[.seq 2 ((unK (t :: r)).take r.length)]]) : Ret) = _
    rw [unK_tail]
    rfl⟩

namespace impl_treeReader_operand_0
noncomputable def E : Entry := ⟨47, false, false, fun | [.box [(.seq 2 ls)]] => toksB ls && decide ((ls : List D).length ≤ 40) | _ => false, fun | [.box [(.seq 2 ls)]] => ([.agg [((.int .i64 (Tr.k (readO (revK ls)).1)), false), ((.int .i64 (Tr.s (readO (revK ls)).1)), false), ((.int .i64 (Tr.n (readO (revK ls)).1)), false), ((.ints .i64 (Tr.xs (readO (revK ls)).1)), false), ((.seq 5 (treeDs (Tr.ks (readO (revK ls)).1))), false)], .one ((.bool (readO (revK ls)).2.1), false)], [[(.seq 2 (unK (readO (revK ls)).2.2))]]) | _ => ([], []), fun | [.box [(.seq 2 ls)]] => [(bareO (revK ls), ([.agg [((.int .i64 (Tr.k (readO (revK ls)).1)), false), ((.int .i64 0), false), ((.int .i64 (Tr.n (readO (revK ls)).1)), false), ((.ints .i64 nilI), true), ((.seq 5 ([] : List D)), true)], .one ((.bool (readO (revK ls)).2.1), false)], [[(.seq 2 (unK (readO (revK ls)).2.2))]]))] | _ => [], false, fun _ => none, none⟩
noncomputable def Ed (d : Nat) : Entry := ⟨47, false, false, fun | [.box [(.seq 2 ls)]] => (toksB ls && decide ((ls : List D).length ≤ 40) && decide (3 * (ls : List D).length < d)) | _ => false, fun | [.box [(.seq 2 ls)]] => ([.agg [((.int .i64 (Tr.k (readO (revK ls)).1)), false), ((.int .i64 (Tr.s (readO (revK ls)).1)), false), ((.int .i64 (Tr.n (readO (revK ls)).1)), false), ((.ints .i64 (Tr.xs (readO (revK ls)).1)), false), ((.seq 5 (treeDs (Tr.ks (readO (revK ls)).1))), false)], .one ((.bool (readO (revK ls)).2.1), false)], [[(.seq 2 (unK (readO (revK ls)).2.2))]]) | _ => ([], []), fun | [.box [(.seq 2 ls)]] => [(bareO (revK ls), ([.agg [((.int .i64 (Tr.k (readO (revK ls)).1)), false), ((.int .i64 0), false), ((.int .i64 (Tr.n (readO (revK ls)).1)), false), ((.ints .i64 nilI), true), ((.seq 5 ([] : List D)), true)], .one ((.bool (readO (revK ls)).2.1), false)], [[(.seq 2 (unK (readO (revK ls)).2.2))]]))] | _ => [], false, fun _ => none, none⟩
theorem Ed_zero : CallSpec Try.prog (Ed 0) := CallSpec.void ⟨Try.f47, by kernel_rfl, by kernel_rfl, by kernel_rfl⟩ (fun xs => by dsimp only [Ed]; split <;> simp) (fun _ => rfl)
theorem E_of (h : ∀ d, CallSpec Try.prog (Ed d)) : CallSpec Try.prog E := CallSpec.union Ed h (fun _ => rfl) (fun _ => rfl) (fun _ => rfl) fun xs hp => by
  dsimp only [E] at hp
  split at hp
  · rename_i ls
    refine ⟨3 * (ls : List D).length + 1, ?_, rfl⟩
    show (_ && decide (_ < _)) = true
    rw [hp]
    exact decide_eq_true (Nat.lt_succ_self _)
  · cases hp
end impl_treeReader_operand_0
namespace impl_treeReader_operand
noncomputable def E : Entry := ⟨47, false, false, fun | [.box [(.seq 2 ls)]] => toksB ls && decide ((ls : List D).length ≤ 40) | _ => false, fun | [.box [(.seq 2 ls)]] => ([.agg [((.int .i64 (Tr.k (readO (revK ls)).1)), false), ((.int .i64 (Tr.s (readO (revK ls)).1)), false), ((.int .i64 (Tr.n (readO (revK ls)).1)), false), ((.ints .i64 (Tr.xs (readO (revK ls)).1)), false), ((.seq 5 (treeDs (Tr.ks (readO (revK ls)).1))), false)], .one ((.bool (readO (revK ls)).2.1), false)], [[(.seq 2 (unK (readO (revK ls)).2.2))]]) | _ => ([], []), fun _ => [], false, fun _ => none, none⟩
noncomputable def Ed (d : Nat) : Entry := ⟨47, false, false, fun | [.box [(.seq 2 ls)]] => (toksB ls && decide ((ls : List D).length ≤ 40) && decide (3 * (ls : List D).length < d)) | _ => false, fun | [.box [(.seq 2 ls)]] => ([.agg [((.int .i64 (Tr.k (readO (revK ls)).1)), false), ((.int .i64 (Tr.s (readO (revK ls)).1)), false), ((.int .i64 (Tr.n (readO (revK ls)).1)), false), ((.ints .i64 (Tr.xs (readO (revK ls)).1)), false), ((.seq 5 (treeDs (Tr.ks (readO (revK ls)).1))), false)], .one ((.bool (readO (revK ls)).2.1), false)], [[(.seq 2 (unK (readO (revK ls)).2.2))]]) | _ => ([], []), fun _ => [], false, fun _ => none, none⟩
theorem Ed_zero : CallSpec Try.prog (Ed 0) := CallSpec.void ⟨Try.f47, by kernel_rfl, by kernel_rfl, by kernel_rfl⟩ (fun xs => by dsimp only [Ed]; split <;> simp) (fun _ => rfl)
theorem E_of (h : ∀ d, CallSpec Try.prog (Ed d)) : CallSpec Try.prog E := CallSpec.union Ed h (fun _ => rfl) (fun _ => rfl) (fun _ => rfl) fun xs hp => by
  dsimp only [E] at hp
  split at hp
  · rename_i ls
    refine ⟨3 * (ls : List D).length + 1, ?_, rfl⟩
    show (_ && decide (_ < _)) = true
    rw [hp]
    exact decide_eq_true (Nat.lt_succ_self _)
  · cases hp
end impl_treeReader_operand
namespace impl_treeReader_function
noncomputable def E : Entry := ⟨49, false, false, fun | [.box [(.seq 2 ls)], .d (.agg [(.int .i64 tk), (.int .i64 ts), (.int .i64 tn), (.ints .i64 ty), (.seq 5 tz)])] => toksB ls && decide ((ls : List D).length ≤ 40) && treesB tz | _ => false, fun | [.box [(.seq 2 ls)], .d (.agg [(.int .i64 tk), (.int .i64 ts), (.int .i64 tn), (.ints .i64 ty), (.seq 5 tz)])] => ([.agg [((.int .i64 (Tr.k (readF (revK ls) (mkT tk ts tn ty tz)).1)), false), ((.int .i64 (Tr.s (readF (revK ls) (mkT tk ts tn ty tz)).1)), false), ((.int .i64 (Tr.n (readF (revK ls) (mkT tk ts tn ty tz)).1)), false), ((.ints .i64 (Tr.xs (readF (revK ls) (mkT tk ts tn ty tz)).1)), true), ((.seq 5 (treeDs (Tr.ks (readF (revK ls) (mkT tk ts tn ty tz)).1))), true)], .one ((.bool (readF (revK ls) (mkT tk ts tn ty tz)).2.1), false)], [[(.seq 2 (unK (readF (revK ls) (mkT tk ts tn ty tz)).2.2))]]) | _ => ([], []), fun _ => [], false, fun _ => none, none⟩
noncomputable def Ed (d : Nat) : Entry := ⟨49, false, false, fun | [.box [(.seq 2 ls)], .d (.agg [(.int .i64 tk), (.int .i64 ts), (.int .i64 tn), (.ints .i64 ty), (.seq 5 tz)])] => (toksB ls && decide ((ls : List D).length ≤ 40) && treesB tz && decide (3 * (ls : List D).length < d)) | _ => false, fun | [.box [(.seq 2 ls)], .d (.agg [(.int .i64 tk), (.int .i64 ts), (.int .i64 tn), (.ints .i64 ty), (.seq 5 tz)])] => ([.agg [((.int .i64 (Tr.k (readF (revK ls) (mkT tk ts tn ty tz)).1)), false), ((.int .i64 (Tr.s (readF (revK ls) (mkT tk ts tn ty tz)).1)), false), ((.int .i64 (Tr.n (readF (revK ls) (mkT tk ts tn ty tz)).1)), false), ((.ints .i64 (Tr.xs (readF (revK ls) (mkT tk ts tn ty tz)).1)), true), ((.seq 5 (treeDs (Tr.ks (readF (revK ls) (mkT tk ts tn ty tz)).1))), true)], .one ((.bool (readF (revK ls) (mkT tk ts tn ty tz)).2.1), false)], [[(.seq 2 (unK (readF (revK ls) (mkT tk ts tn ty tz)).2.2))]]) | _ => ([], []), fun _ => [], false, fun _ => none, none⟩
theorem Ed_zero : CallSpec Try.prog (Ed 0) := CallSpec.void ⟨Try.f49, by kernel_rfl, by kernel_rfl, by kernel_rfl⟩ (fun xs => by dsimp only [Ed]; split <;> simp) (fun _ => rfl)
theorem E_of (h : ∀ d, CallSpec Try.prog (Ed d)) : CallSpec Try.prog E := CallSpec.union Ed h (fun _ => rfl) (fun _ => rfl) (fun _ => rfl) fun xs hp => by
  dsimp only [E] at hp
  split at hp
  · rename_i ls tk ts tn ty tz
    refine ⟨3 * (ls : List D).length + 1, ?_, rfl⟩
    show (_ && decide (_ < _)) = true
    rw [hp]
    exact decide_eq_true (Nat.lt_succ_self _)
  · cases hp
end impl_treeReader_function
namespace impl_treeReader_expression
noncomputable def E : Entry := ⟨26, false, false, fun | [.box [(.seq 2 ls)]] => toksB ls && decide ((ls : List D).length ≤ 40) | _ => false, fun | [.box [(.seq 2 ls)]] => ([.agg [((.int .i64 (Tr.k (readE (revK ls)).1)), false), ((.int .i64 (Tr.s (readE (revK ls)).1)), false), ((.int .i64 (Tr.n (readE (revK ls)).1)), false), ((.ints .i64 (Tr.xs (readE (revK ls)).1)), false), ((.seq 5 (treeDs (Tr.ks (readE (revK ls)).1))), false)], .one ((.bool (readE (revK ls)).2.1), false)], [[(.seq 2 (unK (readE (revK ls)).2.2))]]) | _ => ([], []), fun _ => [], false, fun _ => none, none⟩
noncomputable def Ed (d : Nat) : Entry := ⟨26, false, false, fun | [.box [(.seq 2 ls)]] => (toksB ls && decide ((ls : List D).length ≤ 40) && decide (3 * (ls : List D).length + 1 < d)) | _ => false, fun | [.box [(.seq 2 ls)]] => ([.agg [((.int .i64 (Tr.k (readE (revK ls)).1)), false), ((.int .i64 (Tr.s (readE (revK ls)).1)), false), ((.int .i64 (Tr.n (readE (revK ls)).1)), false), ((.ints .i64 (Tr.xs (readE (revK ls)).1)), false), ((.seq 5 (treeDs (Tr.ks (readE (revK ls)).1))), false)], .one ((.bool (readE (revK ls)).2.1), false)], [[(.seq 2 (unK (readE (revK ls)).2.2))]]) | _ => ([], []), fun _ => [], false, fun _ => none, none⟩
theorem Ed_zero : CallSpec Try.prog (Ed 0) := CallSpec.void ⟨Try.f26, by kernel_rfl, by kernel_rfl, by kernel_rfl⟩ (fun xs => by dsimp only [Ed]; split <;> simp) (fun _ => rfl)
theorem E_of (h : ∀ d, CallSpec Try.prog (Ed d)) : CallSpec Try.prog E := CallSpec.union Ed h (fun _ => rfl) (fun _ => rfl) (fun _ => rfl) fun xs hp => by
  dsimp only [E] at hp
  split at hp
  · rename_i ls
    refine ⟨3 * (ls : List D).length + 1 + 1, ?_, rfl⟩
    show (_ && decide (_ < _)) = true
    rw [hp]
    exact decide_eq_true (Nat.lt_succ_self _)
  · cases hp
end impl_treeReader_expression
namespace impl_treeReader_operand_0
noncomputable def X (d : Nat) : List Entry := [impl_treeReader_next.E, impl_treeReader_isAtOperand.E, impl_treeReader_nums.E, impl_treeReader_skip.E, impl_treeReader_expression.Ed d]
noncomputable def I : List Inl := [⟨47, Try.f47, ⟨[32], [], [], [], [], []⟩⟩]
theorem I_ok : ∀ i ∈ I, Try.prog.funcs[i.f]? = some i.fn ∧ (i.fn.name == "runtime.NumGoroutine") = false := by
  intro i hi
  simp only [I, List.mem_cons, List.not_mem_nil, or_false] at hi
  subst hi
  exact ⟨by kernel_rfl, by kernel_rfl⟩
theorem e (d : Nat) (fuel : Nat) (p0q0 : List D) : runF Try.prog (X d) I 0 fuel 47 Try.f47 [.box [(.seq 2 p0q0)]] =
  (bif toksB p0q0 && decide ((p0q0 : List D).length ≤ 40) then
  (bif toksB p0q0 && decide ((p0q0 : List D).length ≤ 40) then
  (bif (!(opdR (revK p0q0))) then
  some ([.agg [((.int .i64 0), false), ((.int .i64 0), false), ((.int .i64 0), false), ((.ints .i64 []), true), ((.seq 5 []), true)], .one ((.bool false), false)], [[(.seq 2 p0q0)]])
  else
  (bif (((hdK (revK p0q0)).1 : Int) == 0) then
  (bif toksB p0q0 && decide ((p0q0 : List D).length ≤ 40) then
  some ([.agg [((.int .i64 0), false), ((.int .i64 0), false), ((.int .i64 0), false), ((.ints .i64 (numsV (revK p0q0))), false), ((.seq 5 ([] : List D)), false)], .one ((.bool true), false)], [[(.seq 2 (unK (numsP (revK p0q0))))]])
  else
  none)
  else
  (bif toksB p0q0 && decide ((p0q0 : List D).length ≤ 40) && !((revK p0q0).isEmpty) then
  (bif (((hdK (revK p0q0)).1 : Int) == 1) then
  some ([.agg [((.int .i64 1), false), ((.int .i64 0), false), ((.int .i64 (hdK (revK p0q0)).2), false), ((.ints .i64 []), true), ((.seq 5 []), true)], .one ((.bool true), false)], [[(.seq 2 (unK (revK p0q0).tail))]])
  else
  (bif (toksB ((unK (revK p0q0).tail)) && decide ((((unK (revK p0q0).tail)) : List D).length ≤ 40) && decide (3 * (((unK (revK p0q0).tail)) : List D).length + 1 < d)) then
  (bif (!(readE (revK ((unK (revK p0q0).tail)))).2.1) then
  some ([.agg [((.int .i64 0), false), ((.int .i64 0), false), ((.int .i64 0), false), ((.ints .i64 []), true), ((.seq 5 []), true)], .one ((.bool false), false)], [[(.seq 2 (unK (readE (revK ((unK (revK p0q0).tail)))).2.2))]])
  else
  (bif (((((unK (readE (revK ((unK (revK p0q0).tail)))).2.2).length : Nat) : Int) : Int) == 0) then
  some ([.agg [((.int .i64 0), false), ((.int .i64 0), false), ((.int .i64 0), false), ((.ints .i64 []), true), ((.seq 5 []), true)], .one ((.bool false), false)], [[(.seq 2 (unK (readE (revK ((unK (revK p0q0).tail)))).2.2))]])
  else
  (bif toksB ((unK (readE (revK ((unK (revK p0q0).tail)))).2.2)) && decide ((((unK (readE (revK ((unK (revK p0q0).tail)))).2.2)) : List D).length ≤ 40) && !((revK ((unK (readE (revK ((unK (revK p0q0).tail)))).2.2))).isEmpty) then
  some ([.agg [((.int .i64 (Tr.k (readE (revK ((unK (revK p0q0).tail)))).1)), false), ((.int .i64 (Tr.s (readE (revK ((unK (revK p0q0).tail)))).1)), false), ((.int .i64 (Tr.n (readE (revK ((unK (revK p0q0).tail)))).1)), false), ((.ints .i64 (Tr.xs (readE (revK ((unK (revK p0q0).tail)))).1)), false), ((.seq 5 (treeDs (Tr.ks (readE (revK ((unK (revK p0q0).tail)))).1))), false)], .one ((.bool true), false)], [[(.seq 2 (unK (revK ((unK (readE (revK ((unK (revK p0q0).tail)))).2.2))).tail))]])
  else
  none)))
  else
  none))
  else
  none)))
  else
  none)
  else
  none) := by kernel_rfl
end impl_treeReader_operand_0
theorem impl_treeReader_operand_0.ok_of (d : Nat) (hX : ∀ E ∈ impl_treeReader_operand_0.X d, CallSpec Try.prog E) (h : ∀ (ls : List D), ((toksB ls && decide ((ls : List D).length ≤ 40)) && decide (3 * (ls : List D).length < d + 1)) = true → ∃ fuel, runF Try.prog (impl_treeReader_operand_0.X d) impl_treeReader_operand_0.I 0 fuel 47 Try.f47 [.box [(.seq 2 ls)]] = some (bif bareO (revK ls) then ([.agg [((.int .i64 (Tr.k (readO (revK ls)).1)), false), ((.int .i64 0), false), ((.int .i64 (Tr.n (readO (revK ls)).1)), false), ((.ints .i64 nilI), true), ((.seq 5 ([] : List D)), true)], .one ((.bool (readO (revK ls)).2.1), false)], [[(.seq 2 (unK (readO (revK ls)).2.2))]]) else ([.agg [((.int .i64 (Tr.k (readO (revK ls)).1)), false), ((.int .i64 (Tr.s (readO (revK ls)).1)), false), ((.int .i64 (Tr.n (readO (revK ls)).1)), false), ((.ints .i64 (Tr.xs (readO (revK ls)).1)), false), ((.seq 5 (treeDs (Tr.ks (readO (revK ls)).1))), false)], .one ((.bool (readO (revK ls)).2.1), false)], [[(.seq 2 (unK (readO (revK ls)).2.2))]]))) : CallSpec Try.prog (impl_treeReader_operand_0.Ed (d + 1)) :=
  callSpec_of (d := 0) hX (by kernel_rfl) impl_treeReader_operand_0.I_ok (by kernel_rfl) (by kernel_rfl) (by kernel_rfl) (fun _ _ _ _ h => by dsimp only [impl_treeReader_operand_0.Ed] at h; cases h) (fun xs hp => by
    dsimp only [impl_treeReader_operand_0.Ed] at hp ⊢
    split at hp
    · exact h _ hp
    · cases hp)
theorem impl_treeReader_operand_0.step (d : Nat) (hE : CallSpec Try.prog (impl_treeReader_expression.Ed d)) : CallSpec Try.prog (impl_treeReader_operand_0.Ed (d + 1)) := impl_treeReader_operand_0.ok_of d (by simp [impl_treeReader_operand_0.X, hE, impl_treeReader_next.ok, impl_treeReader_isAtOperand.ok, impl_treeReader_nums.ok, impl_treeReader_skip.ok]) fun ls h => ⟨1, by
  simp only [Bool.and_eq_true, decide_eq_true_eq] at h
  obtain ⟨⟨ht, hl⟩, hd⟩ := h
  obtain ⟨r, rfl⟩ := unK_of ht
  rw [impl_treeReader_operand_0.e, ht, decide_eq_true hl, Bool.and_self, cond_true, cond_true, revK_unK, bareO]
  rw [unK_length] at hl hd
  cases r with
  | nil => rw [readO_nil]; rfl
  | cons t r =>
    obtain ⟨k, v⟩ := t
    simp only [List.length_cons] at hl hd
    rw [readO_cons k v r (by omega)]
    rw [List.tail_cons]
    simp only [opdR, hdK, List.isEmpty_cons, Bool.not_false, Bool.and_true]
    by_cases h0 : k = 0
    · subst h0
      rfl
    by_cases h1 : k = 1
    · subst h1
      rfl
    rw [if_neg h0, if_neg h1, beq_eq_false_iff_ne.2 h0, beq_eq_false_iff_ne.2 h1]
    by_cases h2 : k = 2 ∧ v ≠ 14
    · rw [if_pos h2, h2.1, show (v == 14) = false from beq_eq_false_iff_ne.2 h2.2]
      rfl
    · have ho : (k != 2 || v == 14) = true := by
        by_cases hk : k = 2
        · have : v = 14 := by
            by_cases hv : v = 14
            · exact hv
            · exact absurd ⟨hk, hv⟩ h2
          simp [this]
        · simp [hk]
      rw [if_neg h2, ho, Bool.not_true, cond_false, cond_false, cond_true, cond_false, toksB_unK, unK_length, decide_eq_true (p := r.length ≤ 40) (by omega), decide_eq_true (p := 3 * r.length + 1 < d) (by omega), Bool.and_self, Bool.and_self, cond_true, revK_unK]
      have hlen := (readE_len r).1
      generalize readE r = x at hlen
      obtain ⟨t, ok, r'⟩ := x
      cases ok with
      | false => rfl
      | true =>
        rw [Bool.not_true, cond_false, unK_length, revK_unK, toksB_unK]
        cases r' with
        | nil => rfl
        | cons a r' =>
          simp only [List.length_cons] at hlen
          rw [show ((((a :: r').length : Nat) : Int) == 0) = false from beq_eq_false_iff_ne.2 (by simp; omega), cond_false, decide_eq_true (p := (a :: r').length ≤ 40) (by simp; omega)]
          rfl⟩

theorem impl_treeReader_operand.step (d : Nat) (h0 : CallSpec Try.prog (impl_treeReader_operand_0.Ed d)) : CallSpec Try.prog (impl_treeReader_operand.Ed d) := CallSpec.le h0 rfl (fun _ _ _ _ h => by dsimp only [impl_treeReader_operand.Ed] at h; cases h) fun xs hp => by
  dsimp only [impl_treeReader_operand.Ed] at hp
  split at hp
  case h_2 => cases hp
  rename_i ls
  refine ⟨hp, ?_, by show (pickR [(bareO (revK ls), (_ : List XR × List (List D)))] (_ : List XR × List (List D))).2 = _; cases bareO (revK ls) <;> rfl⟩
  show ResLe Try.prog (pickR [(bareO (revK ls), (_ : List XR × List (List D)))] (_ : List XR × List (List D))).1 _
  cases hb : bareO (revK ls) with
  | false => exact .same (.same .nil)
  | true =>
    simp only [Bool.and_eq_true, decide_eq_true_eq] at hp
    obtain ⟨⟨ht, hl⟩, _⟩ := hp
    obtain ⟨r, rfl⟩ := unK_of ht
    rw [unK_length] at hl
    rw [revK_unK] at hb
    have key : (readO r).1.s = 0 ∧ (readO r).1.xs = [] ∧ (readO r).1.ks = [] := by
      cases r with
      | nil => rw [readO_nil]; exact ⟨rfl, rfl, rfl⟩
      | cons a r =>
        obtain ⟨k, v⟩ := a
        simp only [List.length_cons] at hl
        rw [bareO, readO_cons k v r (by omega)] at hb
        rw [readO_cons k v r (by omega)]
        simp only [hdK] at hb
        by_cases h0 : k = 0
        · subst h0; cases hb
        by_cases h1 : k = 1
        · subst h1; exact ⟨rfl, rfl, rfl⟩
        rw [if_neg h0, if_neg h1] at hb ⊢
        by_cases h2 : k = 2 ∧ v ≠ 14
        · rw [if_pos h2]; exact ⟨rfl, rfl, rfl⟩
        rw [if_neg h2] at hb ⊢
        rw [beq_eq_false_iff_ne.2 h1, Bool.false_or] at hb
        generalize readE r = x at hb
        obtain ⟨t, ok, r'⟩ := x
        cases ok with
        | false => exact ⟨rfl, rfl, rfl⟩
        | true =>
          cases r' with
          | nil => exact ⟨rfl, rfl, rfl⟩
          | cons => cases hb
    have key' : (readO (revK (unK r))).1.s = 0 ∧ (readO (revK (unK r))).1.xs = [] ∧ (readO (revK (unK r))).1.ks = [] := by rw [revK_unK]; exact key
    refine .agg rfl (fun i h1 h2 => ?_) (.same .nil)
    match i, h1 with
    | 0, _ => exact .inl rfl
    | 1, _ => exact .inl (by show ((D.int .i64 0, false) : Cell) = (D.int .i64 (readO (revK (unK r))).1.s, false); rw [key'.1])
    | 2, _ => exact .inl rfl
    | 3, _ => exact .inr (.inr (.inr (.inl ⟨.i64, rfl, by show ((D.ints .i64 (readO (revK (unK r))).1.xs, false) : Cell) = _; rw [key'.2.1]⟩)))
    | 4, _ => exact .inr (.inr (.inr (.inr (.inl ⟨5, rfl, by show ((D.seq 5 (treeDs (readO (revK (unK r))).1.ks), false) : Cell) = _; rw [key'.2.2]; rfl⟩))))

namespace impl_Token_isSign
noncomputable def E : Entry := ⟨66, true, false, fun | [.d (.agg [(.int .i64 k), (.int .i64 v)]), .d (.int .i64 s)] => true | _ => false, fun | [.d (.agg [(.int .i64 k), (.int .i64 v)]), .d (.int .i64 s)] => ([.one ((.bool ((k == 2) && (v == s))), false)], []) | _ => ([], []), fun _ => [], false, fun _ => none, none⟩
end impl_Token_isSign
namespace impl_Token_isSign
noncomputable def X : List Entry := []
noncomputable def I : List Inl := [⟨66, Try.f66, ⟨[], [], [], [], [], []⟩⟩]
theorem I_ok : ∀ i ∈ I, Try.prog.funcs[i.f]? = some i.fn ∧ (i.fn.name == "runtime.NumGoroutine") = false := by
  intro i hi
  simp only [I, List.mem_cons, List.not_mem_nil, or_false] at hi
  subst hi
  exact ⟨by kernel_rfl, by kernel_rfl⟩
theorem e (fuel : Nat) (p0q0 : Int) (p0q1 : Int) (p1 : Int) : runF Try.prog X I 0 fuel 66 Try.f66 [.d (.agg [(.int .i64 p0q0), (.int .i64 p0q1)]), .d (.int .i64 p1)] =
  some ([.one ((.bool (((p0q0 : Int) == 2) && (((p0q1 : Int) == p1) && true))), false)], []) := by kernel_rfl
end impl_Token_isSign
theorem impl_Token_isSign.ok_of (hX : ∀ E ∈ impl_Token_isSign.X, CallSpec Try.prog E) (h : ∀ (k : Int) (v : Int) (s : Int), (true) = true → ∃ fuel, runF Try.prog impl_Token_isSign.X impl_Token_isSign.I 0 fuel 66 Try.f66 [.d (.agg [(.int .i64 k), (.int .i64 v)]), .d (.int .i64 s)] = some ([.one ((.bool ((k == 2) && (v == s))), false)], [])) : CallSpec Try.prog impl_Token_isSign.E :=
  callSpec_of (d := 0) hX (by kernel_rfl) impl_Token_isSign.I_ok (by kernel_rfl) (by kernel_rfl) (by kernel_rfl) (fun _ _ _ _ h => by dsimp only [impl_Token_isSign.E] at h; cases h) (fun xs hp => by
    dsimp only [impl_Token_isSign.E] at hp ⊢
    split at hp
    · exact h _ _ _ hp
    · cases hp)
theorem impl_Token_isSign.ok : CallSpec Try.prog impl_Token_isSign.E := impl_Token_isSign.ok_of (by simp [impl_Token_isSign.X]) fun k v s _ => ⟨0, by rw [impl_Token_isSign.e, Bool.and_true]⟩

namespace impl_treeReader_isAtStart
noncomputable def E : Entry := ⟨48, false, false, fun | [.box [(.seq 2 ls)]] => toksB ls && decide ((ls : List D).length ≤ 40) | _ => false, fun | [.box [(.seq 2 ls)]] => ([.one ((.bool (startR (revK ls))), false)], [[(.seq 2 ls)]]) | _ => ([], []), fun _ => [], false, fun _ => none, none⟩
end impl_treeReader_isAtStart
namespace impl_treeReader_isAtStart
noncomputable def X : List Entry := [impl_treeReader_next.E, impl_Token_isSign.E]
noncomputable def I : List Inl := [⟨48, Try.f48, ⟨[], [], [], [], [], []⟩⟩]
theorem I_ok : ∀ i ∈ I, Try.prog.funcs[i.f]? = some i.fn ∧ (i.fn.name == "runtime.NumGoroutine") = false := by
  intro i hi
  simp only [I, List.mem_cons, List.not_mem_nil, or_false] at hi
  subst hi
  exact ⟨by kernel_rfl, by kernel_rfl⟩
theorem e (fuel : Nat) (p0q0 : List D) : runF Try.prog X I 0 fuel 48 Try.f48 [.box [(.seq 2 p0q0)]] =
  (bif toksB p0q0 && decide ((p0q0 : List D).length ≤ 40) then
  (bif (!(!((revK p0q0).isEmpty))) then
  some ([.one ((.bool true), false)], [[(.seq 2 p0q0)]])
  else
  some ([.one ((.bool ((((hdK (revK p0q0)).1) == 2) && (((hdK (revK p0q0)).2) == 13))), false)], [[(.seq 2 p0q0)]]))
  else
  none) := by kernel_rfl
end impl_treeReader_isAtStart
theorem impl_treeReader_isAtStart.ok_of (hX : ∀ E ∈ impl_treeReader_isAtStart.X, CallSpec Try.prog E) (h : ∀ (ls : List D), (toksB ls && decide ((ls : List D).length ≤ 40)) = true → ∃ fuel, runF Try.prog impl_treeReader_isAtStart.X impl_treeReader_isAtStart.I 0 fuel 48 Try.f48 [.box [(.seq 2 ls)]] = some ([.one ((.bool (startR (revK ls))), false)], [[(.seq 2 ls)]])) : CallSpec Try.prog impl_treeReader_isAtStart.E :=
  callSpec_of (d := 0) hX (by kernel_rfl) impl_treeReader_isAtStart.I_ok (by kernel_rfl) (by kernel_rfl) (by kernel_rfl) (fun _ _ _ _ h => by dsimp only [impl_treeReader_isAtStart.E] at h; cases h) (fun xs hp => by
    dsimp only [impl_treeReader_isAtStart.E] at hp ⊢
    split at hp
    · exact h _ hp
    · cases hp)
theorem impl_treeReader_isAtStart.ok : CallSpec Try.prog impl_treeReader_isAtStart.E := impl_treeReader_isAtStart.ok_of (by simp [impl_treeReader_isAtStart.X, impl_treeReader_next.ok, impl_Token_isSign.ok]) fun ls h => ⟨0, by
  simp only [Bool.and_eq_true, decide_eq_true_eq] at h
  obtain ⟨r, rfl⟩ := unK_of h.1
  rw [impl_treeReader_isAtStart.e, h.1, decide_eq_true h.2, Bool.and_self, cond_true, revK_unK]
  cases r with
  | nil => rfl
  | cons t r => rfl⟩

namespace impl_treeReader_sign
noncomputable def E : Entry := ⟨67, false, false, fun | [.box [(.seq 2 ls)]] => toksB ls && decide ((ls : List D).length ≤ 40) | _ => false, fun | [.box [(.seq 2 ls)]] => ([.one ((.int .i64 (signV (revK ls))), false), .one ((.bool (signB (revK ls))), false)], [[(.seq 2 (unK (signP (revK ls))))]]) | _ => ([], []), fun _ => [], false, fun _ => none, none⟩
end impl_treeReader_sign
namespace impl_treeReader_sign
noncomputable def X : List Entry := [impl_treeReader_next.E, impl_treeReader_skip.E]
noncomputable def I : List Inl := [⟨67, Try.f67, ⟨[], [], [], [], [], []⟩⟩]
theorem I_ok : ∀ i ∈ I, Try.prog.funcs[i.f]? = some i.fn ∧ (i.fn.name == "runtime.NumGoroutine") = false := by
  intro i hi
  simp only [I, List.mem_cons, List.not_mem_nil, or_false] at hi
  subst hi
  exact ⟨by kernel_rfl, by kernel_rfl⟩
theorem e (fuel : Nat) (p0q0 : List D) : runF Try.prog X I 0 fuel 67 Try.f67 [.box [(.seq 2 p0q0)]] =
  (bif toksB p0q0 && decide ((p0q0 : List D).length ≤ 40) then
  (bif (!(!((revK p0q0).isEmpty))) then
  some ([.one ((.int .i64 0), false), .one ((.bool false), false)], [[(.seq 2 p0q0)]])
  else
  (bif (((hdK (revK p0q0)).1 : Int) != 2) then
  some ([.one ((.int .i64 0), false), .one ((.bool false), false)], [[(.seq 2 p0q0)]])
  else
  (bif toksB p0q0 && decide ((p0q0 : List D).length ≤ 40) && !((revK p0q0).isEmpty) then
  some ([.one ((.int .i64 (hdK (revK p0q0)).2), false), .one ((.bool true), false)], [[(.seq 2 (unK (revK p0q0).tail))]])
  else
  none)))
  else
  none) := by kernel_rfl
end impl_treeReader_sign
theorem impl_treeReader_sign.ok_of (hX : ∀ E ∈ impl_treeReader_sign.X, CallSpec Try.prog E) (h : ∀ (ls : List D), (toksB ls && decide ((ls : List D).length ≤ 40)) = true → ∃ fuel, runF Try.prog impl_treeReader_sign.X impl_treeReader_sign.I 0 fuel 67 Try.f67 [.box [(.seq 2 ls)]] = some ([.one ((.int .i64 (signV (revK ls))), false), .one ((.bool (signB (revK ls))), false)], [[(.seq 2 (unK (signP (revK ls))))]])) : CallSpec Try.prog impl_treeReader_sign.E :=
  callSpec_of (d := 0) hX (by kernel_rfl) impl_treeReader_sign.I_ok (by kernel_rfl) (by kernel_rfl) (by kernel_rfl) (fun _ _ _ _ h => by dsimp only [impl_treeReader_sign.E] at h; cases h) (fun xs hp => by
    dsimp only [impl_treeReader_sign.E] at hp ⊢
    split at hp
    · exact h _ hp
    · cases hp)
theorem impl_treeReader_sign.ok : CallSpec Try.prog impl_treeReader_sign.E := impl_treeReader_sign.ok_of (by simp [impl_treeReader_sign.X, impl_treeReader_next.ok, impl_treeReader_skip.ok]) fun ls h => ⟨0, by
  simp only [Bool.and_eq_true, decide_eq_true_eq] at h
  obtain ⟨r, rfl⟩ := unK_of h.1
  rw [impl_treeReader_sign.e, h.1, decide_eq_true h.2, Bool.and_self, cond_true, revK_unK]
  cases r with
  | nil => rfl
  | cons t r =>
    obtain ⟨k, v⟩ := t
    simp only [signV, signB, signP]
    show (bif !(k == 2) then _ else _) = _
    cases k == 2 <;> rfl⟩

namespace impl_treeReader_function
noncomputable def X (d : Nat) : List Entry := [impl_treeReader_sign.E, impl_treeReader_isAtOperand.E, impl_treeReader_operand.Ed d]
noncomputable def I : List Inl := [⟨49, Try.f49, ⟨[38], [], [], [], [], []⟩⟩]
theorem I_ok : ∀ i ∈ I, Try.prog.funcs[i.f]? = some i.fn ∧ (i.fn.name == "runtime.NumGoroutine") = false := by
  intro i hi
  simp only [I, List.mem_cons, List.not_mem_nil, or_false] at hi
  subst hi
  exact ⟨by kernel_rfl, by kernel_rfl⟩
theorem e (d : Nat) (fuel : Nat) (p0q0 : List D) (p1q0 : Int) (p1q1 : Int) (p1q2 : Int) (p1q3 : List Int) (p1q4 : List D) : runF Try.prog (X d) I 0 fuel 49 Try.f49 [.box [(.seq 2 p0q0)], .d (.agg [(.int .i64 p1q0), (.int .i64 p1q1), (.int .i64 p1q2), (.ints .i64 p1q3), (.seq 5 p1q4)])] =
  (bif toksB p0q0 && decide ((p0q0 : List D).length ≤ 40) then
  (bif (!(signB (revK p0q0))) then
  some ([.agg [((.int .i64 0), false), ((.int .i64 0), false), ((.int .i64 0), false), ((.ints .i64 []), true), ((.seq 5 []), true)], .one ((.bool false), false)], [[(.seq 2 (unK (signP (revK p0q0))))]])
  else
  (bif (((signV (revK p0q0)) : Int) == 12) then
  (bif toksB ((unK (signP (revK p0q0)))) && decide ((((unK (signP (revK p0q0)))) : List D).length ≤ 40) then
  some ([.agg [((.int .i64 4), false), ((.int .i64 (signV (revK ((unK (signP (revK p0q0))))))), false), ((.int .i64 0), false), ((.ints .i64 []), true), ((.seq 5 ([(.agg [(.int .i64 p1q0), (.int .i64 p1q1), (.int .i64 p1q2), (.ints .i64 p1q3), (.seq 5 p1q4)])] : List D)), true)], .one ((.bool (signB (revK ((unK (signP (revK p0q0))))))), false)], [[(.seq 2 (unK (signP (revK ((unK (signP (revK p0q0))))))))]])
  else
  none)
  else
  (bif toksB ((unK (signP (revK p0q0)))) && decide ((((unK (signP (revK p0q0)))) : List D).length ≤ 40) then
  (bif (!(opdR (revK ((unK (signP (revK p0q0))))))) then
  some ([.agg [((.int .i64 2), false), ((.int .i64 (signV (revK p0q0))), false), ((.int .i64 0), false), ((.ints .i64 []), true), ((.seq 5 ([(.agg [(.int .i64 p1q0), (.int .i64 p1q1), (.int .i64 p1q2), (.ints .i64 p1q3), (.seq 5 p1q4)])] : List D)), true)], .one ((.bool true), false)], [[(.seq 2 ((unK (signP (revK p0q0)))))]])
  else
  (bif (toksB (((unK (signP (revK p0q0))))) && decide (((((unK (signP (revK p0q0))))) : List D).length ≤ 40) && decide (3 * ((((unK (signP (revK p0q0))))) : List D).length < d)) then
  some ([.agg [((.int .i64 3), false), ((.int .i64 (signV (revK p0q0))), false), ((.int .i64 0), false), ((.ints .i64 []), true), ((.seq 5 ([(.agg [(.int .i64 (Tr.k (readO (revK (((unK (signP (revK p0q0))))))).1)), (.int .i64 (Tr.s (readO (revK (((unK (signP (revK p0q0))))))).1)), (.int .i64 (Tr.n (readO (revK (((unK (signP (revK p0q0))))))).1)), (.ints .i64 (Tr.xs (readO (revK (((unK (signP (revK p0q0))))))).1)), (.seq 5 (treeDs (Tr.ks (readO (revK (((unK (signP (revK p0q0))))))).1)))]), (.agg [(.int .i64 p1q0), (.int .i64 p1q1), (.int .i64 p1q2), (.ints .i64 p1q3), (.seq 5 p1q4)])] : List D)), true)], .one ((.bool (readO (revK (((unK (signP (revK p0q0))))))).2.1), false)], [[(.seq 2 (unK (readO (revK (((unK (signP (revK p0q0))))))).2.2))]])
  else
  none))
  else
  none)))
  else
  none) := by kernel_rfl
end impl_treeReader_function
theorem impl_treeReader_function.ok_of (d : Nat) (hX : ∀ E ∈ impl_treeReader_function.X d, CallSpec Try.prog E) (h : ∀ (ls : List D) (tk : Int) (ts : Int) (tn : Int) (ty : List Int) (tz : List D), ((toksB ls && decide ((ls : List D).length ≤ 40) && treesB tz) && decide (3 * (ls : List D).length < d + 1)) = true → ∃ fuel, runF Try.prog (impl_treeReader_function.X d) impl_treeReader_function.I 0 fuel 49 Try.f49 [.box [(.seq 2 ls)], .d (.agg [(.int .i64 tk), (.int .i64 ts), (.int .i64 tn), (.ints .i64 ty), (.seq 5 tz)])] = some ([.agg [((.int .i64 (Tr.k (readF (revK ls) (mkT tk ts tn ty tz)).1)), false), ((.int .i64 (Tr.s (readF (revK ls) (mkT tk ts tn ty tz)).1)), false), ((.int .i64 (Tr.n (readF (revK ls) (mkT tk ts tn ty tz)).1)), false), ((.ints .i64 (Tr.xs (readF (revK ls) (mkT tk ts tn ty tz)).1)), true), ((.seq 5 (treeDs (Tr.ks (readF (revK ls) (mkT tk ts tn ty tz)).1))), true)], .one ((.bool (readF (revK ls) (mkT tk ts tn ty tz)).2.1), false)], [[(.seq 2 (unK (readF (revK ls) (mkT tk ts tn ty tz)).2.2))]])) : CallSpec Try.prog (impl_treeReader_function.Ed (d + 1)) :=
  callSpec_of (d := 0) hX (by kernel_rfl) impl_treeReader_function.I_ok (by kernel_rfl) (by kernel_rfl) (by kernel_rfl) (fun _ _ _ _ h => by dsimp only [impl_treeReader_function.Ed] at h; cases h) (fun xs hp => by
    dsimp only [impl_treeReader_function.Ed] at hp ⊢
    split at hp
    · exact h _ _ _ _ _ _ hp
    · cases hp)
theorem impl_treeReader_function.step (d : Nat) (hO : CallSpec Try.prog (impl_treeReader_operand.Ed d)) : CallSpec Try.prog (impl_treeReader_function.Ed (d + 1)) := impl_treeReader_function.ok_of d (by simp [impl_treeReader_function.X, hO, impl_treeReader_sign.ok, impl_treeReader_isAtOperand.ok]) fun ls tk ts tn ty tz h => ⟨1, by
  simp only [Bool.and_eq_true, decide_eq_true_eq] at h
  obtain ⟨⟨⟨ht, hl⟩, hz⟩, hd⟩ := h
  obtain ⟨r, rfl⟩ := unK_of ht
  obtain ⟨us, rfl⟩ := treesB_iff.1 hz
  rw [impl_treeReader_function.e, ht, decide_eq_true hl, Bool.and_self, cond_true, revK_unK, mkT_treeDs]
  rw [unK_length] at hl hd
  have hle := signP_le r
  rw [readF_eq r _ (by omega), toksB_unK, unK_length, revK_unK, decide_eq_true (p := (signP r).length ≤ 40) (by omega), Bool.and_self, cond_true, cond_true]
  cases hb : signB r with
  | false => rfl
  | true =>
    have hlt := hle.2 hb
    rw [Bool.not_true, cond_false, if_neg (by decide)]
    by_cases h12 : signV r = 12
    · rw [if_pos h12, h12, show ((12 : Int) == 12) = true from rfl, cond_true]
      rfl
    · rw [if_neg h12, beq_eq_false_iff_ne.2 h12, cond_false]
      cases ho : opdR (signP r) with
      | false => rfl
      | true =>
        rw [Bool.not_true, cond_false, if_neg (by decide), decide_eq_true (p := 3 * (signP r).length < d) (by omega), Bool.and_self, cond_true]
        generalize readO (signP r) = x
        obtain ⟨⟨a1, a2, a3, a4, a5⟩, ok, r'⟩ := x
        rfl⟩

namespace impl_treeReader_expression
noncomputable def X (d : Nat) : List Entry := [impl_treeReader_operand.Ed d, impl_treeReader_isAtStart.E, impl_treeReader_function.Ed d]
noncomputable def I : List Inl := [⟨26, Try.f26, ⟨[], [(1000002, [1, 3, 6, 7, 8, 9, 10, 11, 12, 13, 14, 15, 16, 17, 18, 19, 20, 21, 22, 23, 24])], [], [], [], []⟩⟩]
theorem I_ok : ∀ i ∈ I, Try.prog.funcs[i.f]? = some i.fn ∧ (i.fn.name == "runtime.NumGoroutine") = false := by
  intro i hi
  simp only [I, List.mem_cons, List.not_mem_nil, or_false] at hi
  subst hi
  exact ⟨by kernel_rfl, by kernel_rfl⟩
noncomputable abbrev L0 (d : Nat) (fuel n : Nat) (s : St) (k : Kont) := lAt Try.prog (X d) I fuel false 0 false 26 (bodyOf Try.f26) [1, 1, 0, 0] n s k
noncomputable abbrev k0 (d : Nat)  (fuel : Nat) : Kont := (kAt Try.prog (X d) I fuel false 0 false 26 (bodyOf Try.f26) [1, 1, 0, 0] [] (endK Try.prog Try.f26))
noncomputable def t0 (x0q0 : Bool) (x0q1 : List D) (x0q5 : Int) (x0q6 : Int) (x0q7 : Int) (x0q8 : List Int) (x0q9 : List D) : St := ⟨[(.ptr 1000000000 0 0), .dead, (.ptr 1000000001 0 0), .dead, (.ptr 1000000002 0 0), (.imm (.bool x0q0)), .dead, .dead, .dead, .dead, .dead, .dead, .dead, .dead, .dead, .dead, .dead, .dead, .dead, .dead, .dead, .dead, .dead, .dead, .dead], hOf [(1000000000, (.box [(.imm (.seq 2 x0q1))])), (1000000001, (.box [(.imm (.int .i64 0)), (.imm (.int .i64 0)), (.imm (.int .i64 0)), (.imm .nils), (.imm .nils)])), (1000000002, (.box [(.imm (.int .i64 x0q5)), (.imm (.int .i64 x0q6)), (.imm (.int .i64 x0q7)), (.imm (.ints .i64 x0q8)), (.imm (.seq 5 x0q9))]))], [(.ptr 1000000000 0 0)], []⟩
theorem e (d : Nat) (fuel : Nat) (p0q0 : List D) : runF Try.prog (X d) I 0 fuel 26 Try.f26 [.box [(.seq 2 p0q0)]] =
  (bif (toksB p0q0 && decide ((p0q0 : List D).length ≤ 40) && decide (3 * (p0q0 : List D).length < d)) then
  L0 d fuel fuel (t0 ((readO (revK p0q0)).2.1) ((unK (readO (revK p0q0)).2.2)) ((Tr.k (readO (revK p0q0)).1)) ((Tr.s (readO (revK p0q0)).1)) ((Tr.n (readO (revK p0q0)).1)) ((Tr.xs (readO (revK p0q0)).1)) ((treeDs (Tr.ks (readO (revK p0q0)).1)))) (k0 d  fuel)
  else
  none) := by kernel_rfl
theorem s0 (d : Nat) (fuel n0 : Nat) (x0q0 : Bool) (x0q1 : List D) (x0q5 : Int) (x0q6 : Int) (x0q7 : Int) (x0q8 : List Int) (x0q9 : List D) : L0 d fuel (n0 + 1) (t0 x0q0 x0q1 x0q5 x0q6 x0q7 x0q8 x0q9) (k0 d  fuel) =
  (bif x0q0 then
  (bif toksB x0q1 && decide ((x0q1 : List D).length ≤ 40) then
  (bif (!(startR (revK x0q1))) then
  (bif (toksB x0q1 && decide ((x0q1 : List D).length ≤ 40) && treesB x0q9 && decide (3 * (x0q1 : List D).length < d)) then
  L0 d fuel n0 (t0 ((readF (revK x0q1) (mkT x0q5 x0q6 x0q7 x0q8 x0q9)).2.1) ((unK (readF (revK x0q1) (mkT x0q5 x0q6 x0q7 x0q8 x0q9)).2.2)) ((Tr.k (readF (revK x0q1) (mkT x0q5 x0q6 x0q7 x0q8 x0q9)).1)) ((Tr.s (readF (revK x0q1) (mkT x0q5 x0q6 x0q7 x0q8 x0q9)).1)) ((Tr.n (readF (revK x0q1) (mkT x0q5 x0q6 x0q7 x0q8 x0q9)).1)) ((Tr.xs (readF (revK x0q1) (mkT x0q5 x0q6 x0q7 x0q8 x0q9)).1)) ((treeDs (Tr.ks (readF (revK x0q1) (mkT x0q5 x0q6 x0q7 x0q8 x0q9)).1)))) (k0 d  fuel)
  else
  none)
  else
  some ([.agg [((.int .i64 x0q5), false), ((.int .i64 x0q6), false), ((.int .i64 x0q7), false), ((.ints .i64 x0q8), false), ((.seq 5 x0q9), false)], .one ((.bool x0q0), false)], [[(.seq 2 x0q1)]]))
  else
  none)
  else
  some ([.agg [((.int .i64 x0q5), false), ((.int .i64 x0q6), false), ((.int .i64 x0q7), false), ((.ints .i64 x0q8), false), ((.seq 5 x0q9), false)], .one ((.bool x0q0), false)], [[(.seq 2 x0q1)]])) := by kernel_rfl
end impl_treeReader_expression
theorem impl_treeReader_expression.ok_of (d : Nat) (hX : ∀ E ∈ impl_treeReader_expression.X d, CallSpec Try.prog E) (h : ∀ (ls : List D), ((toksB ls && decide ((ls : List D).length ≤ 40)) && decide (3 * (ls : List D).length + 1 < d + 1)) = true → ∃ fuel, runF Try.prog (impl_treeReader_expression.X d) impl_treeReader_expression.I 0 fuel 26 Try.f26 [.box [(.seq 2 ls)]] = some ([.agg [((.int .i64 (Tr.k (readE (revK ls)).1)), false), ((.int .i64 (Tr.s (readE (revK ls)).1)), false), ((.int .i64 (Tr.n (readE (revK ls)).1)), false), ((.ints .i64 (Tr.xs (readE (revK ls)).1)), false), ((.seq 5 (treeDs (Tr.ks (readE (revK ls)).1))), false)], .one ((.bool (readE (revK ls)).2.1), false)], [[(.seq 2 (unK (readE (revK ls)).2.2))]])) : CallSpec Try.prog (impl_treeReader_expression.Ed (d + 1)) :=
  callSpec_of (d := 0) hX (by kernel_rfl) impl_treeReader_expression.I_ok (by kernel_rfl) (by kernel_rfl) (by kernel_rfl) (fun _ _ _ _ h => by dsimp only [impl_treeReader_expression.Ed] at h; cases h) (fun xs hp => by
    dsimp only [impl_treeReader_expression.Ed] at hp ⊢
    split at hp
    · exact h _ hp
    · cases hp)
theorem impl_treeReader_expression.loop (d F : Nat) : ∀ (m n : Nat) (r : List Tok) (t : Tr) (ok : Bool), r.length ≤ m → r.length ≤ 40 → m + 1 < n → 3 * r.length < d →
    impl_treeReader_expression.L0 d F n (impl_treeReader_expression.t0 ok (unK r) t.k t.s t.n t.xs (treeDs t.ks)) (impl_treeReader_expression.k0 d F) =
      some ([.agg [(.int .i64 (readL (t, ok, r)).1.k, false), (.int .i64 (readL (t, ok, r)).1.s, false), (.int .i64 (readL (t, ok, r)).1.n, false), (.ints .i64 (readL (t, ok, r)).1.xs, false), (.seq 5 (treeDs (readL (t, ok, r)).1.ks), false)], .one (.bool (readL (t, ok, r)).2.1, false)], [[.seq 2 (unK (readL (t, ok, r)).2.2)]]) := by
  have hf : ∀ (n : Nat) (r : List Tok) (t : Tr), r.length ≤ 40 → 0 < n → impl_treeReader_expression.L0 d F n (impl_treeReader_expression.t0 false (unK r) t.k t.s t.n t.xs (treeDs t.ks)) (impl_treeReader_expression.k0 d F) =
      some ([.agg [(.int .i64 (readL (t, false, r)).1.k, false), (.int .i64 (readL (t, false, r)).1.s, false), (.int .i64 (readL (t, false, r)).1.n, false), (.ints .i64 (readL (t, false, r)).1.xs, false), (.seq 5 (treeDs (readL (t, false, r)).1.ks), false)], .one (.bool (readL (t, false, r)).2.1, false)], [[.seq 2 (unK (readL (t, false, r)).2.2)]]) := by
    intro n r t hl hn
    obtain ⟨n, rfl⟩ : ∃ k, n = k + 1 := ⟨n - 1, by omega⟩
    rw [impl_treeReader_expression.s0, cond_false, readL_eq t false r (by omega), if_neg (fun h => by cases h.1)]
  intro m
  induction m with
  | zero =>
    intro n r t ok hm hl hn hd
    cases ok with
    | false => exact hf n r t hl (by omega)
    | true =>
      obtain ⟨n, rfl⟩ : ∃ k, n = k + 1 := ⟨n - 1, by omega⟩
      have : r = [] := List.length_eq_zero_iff.1 (by omega)
      subst this
      rw [impl_treeReader_expression.s0, cond_true, toksB_unK, unK_length, revK_unK, readL_eq t true [] (by simp), if_neg (fun h => by cases h.2)]
      rfl
  | succ m ih =>
    intro n r t ok hm hl hn hd
    cases ok with
    | false => exact hf n r t hl (by omega)
    | true =>
      obtain ⟨n, rfl⟩ : ∃ k, n = k + 1 := ⟨n - 1, by omega⟩
      rw [impl_treeReader_expression.s0, cond_true, toksB_unK, unK_length, revK_unK, decide_eq_true hl, Bool.and_self, cond_true, readL_eq t true r (by omega)]
      cases hs : startR r with
      | true =>
        rw [if_neg (fun h => by cases h.2)]
        rfl
      | false =>
        have hz : treesB (treeDs t.ks) = true := treesB_treeDs _
        rw [if_pos ⟨rfl, rfl⟩, Bool.not_false, cond_true, hz, decide_eq_true hd, Bool.and_self, Bool.and_self, cond_true, mkT_treeDs, Tr.eta]
        have hlen := readF_len r t
        generalize readF r t = x at hlen
        obtain ⟨t', ok', r'⟩ := x
        have h1 : r'.length ≤ r.length := hlen.1
        cases ok' with
        | false => exact hf n r' t' (by omega) (by omega)
        | true =>
          have h2 : r'.length < r.length := hlen.2 rfl
          exact ih n r' t' true (by omega) (by omega) (by omega) (by omega)
theorem impl_treeReader_expression.step (d : Nat) (hO : CallSpec Try.prog (impl_treeReader_operand.Ed d)) (hF : CallSpec Try.prog (impl_treeReader_function.Ed d)) : CallSpec Try.prog (impl_treeReader_expression.Ed (d + 1)) := impl_treeReader_expression.ok_of d (by simp [impl_treeReader_expression.X, hO, hF, impl_treeReader_isAtStart.ok]) fun ls h => ⟨60, by
  simp only [Bool.and_eq_true, decide_eq_true_eq] at h
  obtain ⟨⟨ht, hl⟩, hd⟩ := h
  obtain ⟨r, rfl⟩ := unK_of ht
  rw [impl_treeReader_expression.e, ht, decide_eq_true hl, revK_unK]
  rw [unK_length] at hl hd ⊢
  rw [decide_eq_true (p := 3 * r.length < d) (by omega), Bool.and_self, Bool.and_self, cond_true, readE_eq r (by omega)]
  have hlen := (readO_len r).1
  exact impl_treeReader_expression.loop d 60 40 60 (readO r).2.2 (readO r).1 (readO r).2.1 (by omega) (by omega) (by omega) (by omega)⟩
theorem rd.zeroO : CallSpec Try.prog (impl_treeReader_operand.Ed 0) := impl_treeReader_operand.Ed_zero
theorem rd.okd : ∀ d, CallSpec Try.prog (impl_treeReader_operand.Ed d) ∧ CallSpec Try.prog (impl_treeReader_function.Ed d) ∧ CallSpec Try.prog (impl_treeReader_expression.Ed d)
  | 0 => ⟨impl_treeReader_operand.Ed_zero, impl_treeReader_function.Ed_zero, impl_treeReader_expression.Ed_zero⟩
  | d + 1 =>
    have ⟨hO, hF, hE⟩ := rd.okd d
    ⟨impl_treeReader_operand.step (d + 1) (impl_treeReader_operand_0.step d hE), impl_treeReader_function.step d hO, impl_treeReader_expression.step d hO hF⟩
theorem impl_treeReader_expression.ok : CallSpec Try.prog impl_treeReader_expression.E := impl_treeReader_expression.E_of fun d => (rd.okd d).2.2

namespace impl_ValidTree
noncomputable def E : Entry := ⟨10, true, false, fun | [.d (.agg [(.int .i64 k), (.int .i64 s), (.int .i64 n), (.ints .i64 xs), (.seq 5 ks)])] => treesB ks | _ => false, fun | [.d (.agg [(.int .i64 k), (.int .i64 s), (.int .i64 n), (.ints .i64 xs), (.seq 5 ks)])] => ([.one ((.bool (validT 8 (mkT k s n xs ks))), false)], []) | _ => ([], []), fun _ => [], false, fun _ => none, none⟩
end impl_ValidTree
namespace impl_ValidTree
noncomputable def X : List Entry := [impl_nodeOf.E]
noncomputable def I : List Inl := [⟨10, Try.f10, ⟨[], [], [], [], [], []⟩⟩]
theorem I_ok : ∀ i ∈ I, Try.prog.funcs[i.f]? = some i.fn ∧ (i.fn.name == "runtime.NumGoroutine") = false := by
  intro i hi
  simp only [I, List.mem_cons, List.not_mem_nil, or_false] at hi
  subst hi
  exact ⟨by kernel_rfl, by kernel_rfl⟩
theorem e (fuel : Nat) (p0q0 : Int) (p0q1 : Int) (p0q2 : Int) (p0q3 : List Int) (p0q4 : List D) : runF Try.prog X I 0 fuel 10 Try.f10 [.d (.agg [(.int .i64 p0q0), (.int .i64 p0q1), (.int .i64 p0q2), (.ints .i64 p0q3), (.seq 5 p0q4)])] =
  (bif treesB p0q4 && decide (0 ≤ 8) && decide (8 ≤ 8) then
  (bif validT (8 : Int).toNat (mkT p0q0 p0q1 p0q2 p0q3 p0q4) then
  some ([.one ((.bool true), false)], [])
  else
  some ([.one ((.bool false), false)], []))
  else
  none) := by kernel_rfl
end impl_ValidTree
theorem impl_ValidTree.ok_of (hX : ∀ E ∈ impl_ValidTree.X, CallSpec Try.prog E) (h : ∀ (k : Int) (s : Int) (n : Int) (xs : List Int) (ks : List D), (treesB ks) = true → ∃ fuel, runF Try.prog impl_ValidTree.X impl_ValidTree.I 0 fuel 10 Try.f10 [.d (.agg [(.int .i64 k), (.int .i64 s), (.int .i64 n), (.ints .i64 xs), (.seq 5 ks)])] = some ([.one ((.bool (validT 8 (mkT k s n xs ks))), false)], [])) : CallSpec Try.prog impl_ValidTree.E :=
  callSpec_of (d := 0) hX (by kernel_rfl) impl_ValidTree.I_ok (by kernel_rfl) (by kernel_rfl) (by kernel_rfl) (fun _ _ _ _ h => by dsimp only [impl_ValidTree.E] at h; cases h) (fun xs hp => by
    dsimp only [impl_ValidTree.E] at hp ⊢
    split at hp
    · exact h _ _ _ _ _ hp
    · cases hp)
theorem impl_ValidTree.ok : CallSpec Try.prog impl_ValidTree.E := impl_ValidTree.ok_of (by simp [impl_ValidTree.X, impl_nodeOf.ok]) fun k s n xs ks h => ⟨0, by
  rw [impl_ValidTree.e, h]
  show (bif validT 8 (mkT k s n xs ks) then _ else _) = _
  cases validT 8 (mkT k s n xs ks) <;> rfl⟩

namespace impl_ParseTokens
noncomputable def E : Entry := ⟨13, false, false, fun | [.d (.seq 2 ls)] => toksB ls && decide ((ls : List D).length < 9223372036854775808) | _ => false, fun | [.d (.seq 2 ls)] => ([.agg [((.int .i64 0), false), ((.int .i64 0), false), ((.int .i64 0), false), ((.ints .i64 nilI), true), ((.seq 5 ([] : List D)), true)], .one ((.bool false), false)], []) | _ => ([], []), fun | [.d (.seq 2 ls)] => [(parseB (revK ls), ([.agg [((.int .i64 (Tr.k (readE (revK ls)).1)), false), ((.int .i64 (Tr.s (readE (revK ls)).1)), false), ((.int .i64 (Tr.n (readE (revK ls)).1)), false), ((.ints .i64 (Tr.xs (readE (revK ls)).1)), false), ((.seq 5 (treeDs (Tr.ks (readE (revK ls)).1))), false)], .one ((.bool true), false)], []))] | _ => [], true, fun _ => none, none⟩
end impl_ParseTokens
namespace impl_ParseTokens
noncomputable def X : List Entry := [impl_ValidTokens.E, impl_treeReader_expression.E, impl_ValidTree.E]
noncomputable def I : List Inl := [⟨13, Try.f13, ⟨[14], [], [], [], [], []⟩⟩]
theorem I_ok : ∀ i ∈ I, Try.prog.funcs[i.f]? = some i.fn ∧ (i.fn.name == "runtime.NumGoroutine") = false := by
  intro i hi
  simp only [I, List.mem_cons, List.not_mem_nil, or_false] at hi
  subst hi
  exact ⟨by kernel_rfl, by kernel_rfl⟩
theorem e (fuel : Nat) (p0 : List D) : runF Try.prog X I 0 fuel 13 Try.f13 [.d (.seq 2 p0)] =
  (bif toksB p0 && decide ((p0 : List D).length < 9223372036854775808) then
  (bif (!(decide ((p0 : List D).length ≤ 40) && allK p0)) then
  some ([.agg [((.int .i64 0), false), ((.int .i64 0), false), ((.int .i64 0), false), ((.ints .i64 []), true), ((.seq 5 []), true)], .one ((.bool false), false)], [])
  else
  (bif toksB p0 && decide ((p0 : List D).length ≤ 40) then
  (bif (!(readE (revK p0)).2.1) then
  some ([.agg [((.int .i64 0), false), ((.int .i64 0), false), ((.int .i64 0), false), ((.ints .i64 []), true), ((.seq 5 []), true)], .one ((.bool false), false)], [])
  else
  (bif (decide (((((unK (readE (revK p0)).2.2).length : Nat) : Int) : Int) > 0)) then
  some ([.agg [((.int .i64 0), false), ((.int .i64 0), false), ((.int .i64 0), false), ((.ints .i64 []), true), ((.seq 5 []), true)], .one ((.bool false), false)], [])
  else
  (bif treesB ((treeDs (Tr.ks (readE (revK p0)).1))) then
  (bif (!(validT 8 (mkT ((Tr.k (readE (revK p0)).1)) ((Tr.s (readE (revK p0)).1)) ((Tr.n (readE (revK p0)).1)) ((Tr.xs (readE (revK p0)).1)) ((treeDs (Tr.ks (readE (revK p0)).1)))))) then
  some ([.agg [((.int .i64 0), false), ((.int .i64 0), false), ((.int .i64 0), false), ((.ints .i64 []), true), ((.seq 5 []), true)], .one ((.bool false), false)], [])
  else
  some ([.agg [((.int .i64 (Tr.k (readE (revK p0)).1)), false), ((.int .i64 (Tr.s (readE (revK p0)).1)), false), ((.int .i64 (Tr.n (readE (revK p0)).1)), false), ((.ints .i64 (Tr.xs (readE (revK p0)).1)), false), ((.seq 5 (treeDs (Tr.ks (readE (revK p0)).1))), false)], .one ((.bool true), false)], []))
  else
  none)))
  else
  none))
  else
  none) := by kernel_rfl
end impl_ParseTokens
theorem impl_ParseTokens.ok_of (hX : ∀ E ∈ impl_ParseTokens.X, CallSpec Try.prog E) (h : ∀ (ls : List D), (toksB ls && decide ((ls : List D).length < 9223372036854775808)) = true → ∃ fuel, runF Try.prog impl_ParseTokens.X impl_ParseTokens.I 0 fuel 13 Try.f13 [.d (.seq 2 ls)] = some (bif parseB (revK ls) then ([.agg [((.int .i64 (Tr.k (readE (revK ls)).1)), false), ((.int .i64 (Tr.s (readE (revK ls)).1)), false), ((.int .i64 (Tr.n (readE (revK ls)).1)), false), ((.ints .i64 (Tr.xs (readE (revK ls)).1)), false), ((.seq 5 (treeDs (Tr.ks (readE (revK ls)).1))), false)], .one ((.bool true), false)], []) else ([.agg [((.int .i64 0), false), ((.int .i64 0), false), ((.int .i64 0), false), ((.ints .i64 nilI), true), ((.seq 5 ([] : List D)), true)], .one ((.bool false), false)], []))) : CallSpec Try.prog impl_ParseTokens.E :=
  callSpec_of (d := 0) hX (by kernel_rfl) impl_ParseTokens.I_ok (by kernel_rfl) (by kernel_rfl) (by kernel_rfl) (fun _ _ _ _ h => by dsimp only [impl_ParseTokens.E] at h; cases h) (fun xs hp => by
    dsimp only [impl_ParseTokens.E] at hp ⊢
    split at hp
    · exact h _ hp
    · cases hp)
theorem impl_ParseTokens.ok : CallSpec Try.prog impl_ParseTokens.E := impl_ParseTokens.ok_of (by simp [impl_ParseTokens.X, impl_ValidTokens.ok, impl_treeReader_expression.ok, impl_ValidTree.ok]) fun ls h => ⟨1, by
  simp only [Bool.and_eq_true, decide_eq_true_eq] at h
  obtain ⟨ht, hl⟩ := h
  obtain ⟨r, rfl⟩ := unK_of ht
  rw [impl_ParseTokens.e, ht, decide_eq_true hl, Bool.and_self, cond_true, revK_unK, unK_length, allK_unK, parseB]
  by_cases h40 : r.length ≤ 40
  · rw [decide_eq_true h40]
    cases hv : r.all fun t => tokV t.1 t.2 with
    | false => rfl
    | true =>
      have hlen := (readE_len r).1
      generalize readE r = x at hlen
      obtain ⟨t, ok, r'⟩ := x
      cases ok with
      | false => rfl
      | true =>
        rw [unK_length]
        cases r' with
        | cons a r' =>
          rw [show decide ((((a :: r').length : Nat) : Int) > 0) = true from decide_eq_true (by simp <;> omega)]
          rfl
        | nil =>
          rw [treesB_treeDs, mkT_treeDs, Tr.eta]
          cases hvt : validT 8 t <;> rfl
  · rw [decide_eq_false h40]
    rfl⟩

namespace laws_equalInts
noncomputable def E : Entry := ⟨29, true, false, fun | [.d (.ints .i64 xs), .d (.ints .i64 ys)] => decide (xs.length < 9223372036854775808) && decide (ys.length < 9223372036854775808) | _ => false, fun | [.d (.ints .i64 xs), .d (.ints .i64 ys)] => ([.one ((.bool (decide (xs = ys))), false)], []) | _ => ([], []), fun _ => [], false, fun _ => none, none⟩
end laws_equalInts
namespace laws_equalInts
noncomputable def X : List Entry := []
noncomputable def I : List Inl := [⟨29, Try.f29, ⟨[], [(1000004, [2, 3, 4, 6, 7, 8, 9, 10, 11, 12, 13, 14, 15, 16, 17, 18, 19, 20, 21, 22, 23, 24, 25])], [], [(6, [0, 1, 4, 5, 2, 3, 6, 7, 8])], [], []⟩⟩]
theorem I_ok : ∀ i ∈ I, Try.prog.funcs[i.f]? = some i.fn ∧ (i.fn.name == "runtime.NumGoroutine") = false := by
  intro i hi
  simp only [I, List.mem_cons, List.not_mem_nil, or_false] at hi
  subst hi
  exact ⟨by kernel_rfl, by kernel_rfl⟩
noncomputable abbrev L0 (fuel n : Nat) (s : St) (k : Kont) := lAt Try.prog X I fuel true 0 false 29 (bodyOf Try.f29) [1, 1, 0, 1, 0] n s k
noncomputable abbrev k0  (fuel : Nat) : Kont := (kAt Try.prog X I fuel true 0 false 29 (bodyOf Try.f29) [1, 1, 0, 1, 0] [] (endK Try.prog Try.f29))
noncomputable def t0 (p0 : List Int) (p1 : List Int) (x0q2 : Int) : St := ⟨[(.imm (.ints .i64 p0)), (.imm (.ints .i64 p1)), .dead, .dead, .dead, (.imm (.int .i64 x0q2)), .dead, .dead, .dead, .dead, .dead, .dead, .dead, .dead, .dead, .dead, .dead, .dead, .dead, .dead, .dead, .dead, .dead, .dead, .dead, .dead], hOf [], [], []⟩
theorem e (fuel : Nat) (p0 : List Int) (p1 : List Int) : runF Try.prog X I 0 fuel 29 Try.f29 [.d (.ints .i64 p0), .d (.ints .i64 p1)] =
  (bif ((((p0.length : Nat) : Int) : Int) != ((p1.length : Nat) : Int)) then
  some ([.one ((.bool false), false)], [])
  else
  L0 fuel fuel (t0 p0 p1 0) (k0  fuel)) := by kernel_rfl
theorem s0 (fuel n0 : Nat) (p0 : List Int) (p1 : List Int) (x0q2 : Int) : L0 fuel (n0 + 1) (t0 p0 p1 x0q2) (k0  fuel) =
  (bif (decide ((x0q2 : Int) < ((p0.length : Nat) : Int))) then
  (idx x0q2 p0.length).bind fun j9 =>
  (p0[j9]?).bind fun v10 =>
  (idx x0q2 p1.length).bind fun j11 =>
  (p1[j11]?).bind fun v12 =>
  (bif ((v10 : Int) != v12) then
  some ([.one ((.bool false), false)], [])
  else
  L0 fuel n0 (t0 p0 p1 ((IntKind.wrap .i64 (x0q2 + 1)))) (k0  fuel))
  else
  some ([.one ((.bool true), false)], [])) := by kernel_rfl
end laws_equalInts
theorem laws_equalInts.ok_of (hX : ∀ E ∈ laws_equalInts.X, CallSpec Try.prog E) (h : ∀ (xs : List Int) (ys : List Int), (decide (xs.length < 9223372036854775808) && decide (ys.length < 9223372036854775808)) = true → ∃ fuel, runF Try.prog laws_equalInts.X laws_equalInts.I 0 fuel 29 Try.f29 [.d (.ints .i64 xs), .d (.ints .i64 ys)] = some ([.one ((.bool (decide (xs = ys))), false)], [])) : CallSpec Try.prog laws_equalInts.E :=
  callSpec_of (d := 0) hX (by kernel_rfl) laws_equalInts.I_ok (by kernel_rfl) (by kernel_rfl) (by kernel_rfl) (fun _ _ _ _ h => by dsimp only [laws_equalInts.E] at h; cases h) (fun xs hp => by
    dsimp only [laws_equalInts.E] at hp ⊢
    split at hp
    · exact h _ _ hp
    · cases hp)
theorem laws_equalInts.loop (fuel : Nat) (xs ys : List Int) (hl : xs.length = ys.length) (hx : xs.length < 9223372036854775808) : ∀ (m n j : Nat), xs.length - j = m → m < n → j ≤ xs.length →
    laws_equalInts.L0 fuel n (laws_equalInts.t0 xs ys (j : Int)) (laws_equalInts.k0 fuel) = some ([.one (.bool (decide (xs.drop j = ys.drop j)), false)], []) := by
  intro m
  induction m with
  | zero =>
    intro n j h1 h2 h3
    obtain ⟨n, rfl⟩ : ∃ n', n = n' + 1 := ⟨n - 1, by omega⟩
    have hj : ¬ j < xs.length := by omega
    rw [laws_equalInts.s0, dge hj, dropE hj, dropE (xs := ys) (by omega)]
    rfl
  | succ m ih =>
    intro n j h1 h2 h3
    obtain ⟨n, rfl⟩ : ∃ n', n = n' + 1 := ⟨n - 1, by omega⟩
    have hj : j < xs.length := by omega
    have hj2 : j < ys.length := by omega
    rw [laws_equalInts.s0, dlt hj, idx_nat hj, idx_nat hj2, w1 (by omega), dropS hj, dropS hj2]
    simp only [cond_true, Option.bind_some, getS hj, getS hj2]
    rw [ih n (j + 1) (by omega) (by omega) (by omega)]
    by_cases hv : xs[j] = ys[j]
    · rw [hv]
      simp only [bne_self_eq_false, cond_false, List.cons.injEq, true_and]
    · have : (xs[j] != ys[j]) = true := by simp [hv]
      rw [this]
      simp only [cond_true, List.cons.injEq, hv, false_and, decide_false]

theorem laws_equalInts.ok : CallSpec Try.prog laws_equalInts.E := laws_equalInts.ok_of (by simp [laws_equalInts.X]) fun xs ys h => by
  simp only [Bool.and_eq_true, decide_eq_true_eq] at h
  refine ⟨xs.length + 1, ?_⟩
  rw [laws_equalInts.e]
  by_cases hl : xs.length = ys.length
  · have := laws_equalInts.loop (xs.length + 1) xs ys hl h.1 xs.length (xs.length + 1) 0 (by omega) (by omega) (by omega)
    simp only [List.drop_zero] at this
    simp only [hl, bne_self_eq_false, cond_false]
    rw [← hl]
    exact this
  · have hne : xs ≠ ys := fun e => hl (e ▸ rfl)
    have : (((xs.length : Nat) : Int) != ((ys.length : Nat) : Int)) = true := by simp; omega
    rw [this]
    simp [hne]

namespace laws_equalTree
noncomputable def E : Entry := ⟨15, true, false, fun | [.d (.agg [(.int .i64 k), (.int .i64 s), (.int .i64 n), (.ints .i64 xs), (.seq 5 ks)]), .d (.agg [(.int .i64 k2), (.int .i64 s2), (.int .i64 n2), (.ints .i64 xs2), (.seq 5 ks2)])] => treesB ks && treesB ks2 && smallT (mkT k s n xs ks) && smallT (mkT k2 s2 n2 xs2 ks2) | _ => false, fun | [.d (.agg [(.int .i64 k), (.int .i64 s), (.int .i64 n), (.ints .i64 xs), (.seq 5 ks)]), .d (.agg [(.int .i64 k2), (.int .i64 s2), (.int .i64 n2), (.ints .i64 xs2), (.seq 5 ks2)])] => ([.one ((.bool (Tr.beq (mkT k s n xs ks) (mkT k2 s2 n2 xs2 ks2))), false)], []) | _ => ([], []), fun _ => [], false, fun _ => none, none⟩
noncomputable def Ed (d : Nat) : Entry := ⟨15, true, false, fun | [.d (.agg [(.int .i64 k), (.int .i64 s), (.int .i64 n), (.ints .i64 xs), (.seq 5 ks)]), .d (.agg [(.int .i64 k2), (.int .i64 s2), (.int .i64 n2), (.ints .i64 xs2), (.seq 5 ks2)])] => (treesB ks && treesB ks2 && smallT (mkT k s n xs ks) && smallT (mkT k2 s2 n2 xs2 ks2) && decide (hgtT (mkT k s n xs ks) < d)) | _ => false, fun | [.d (.agg [(.int .i64 k), (.int .i64 s), (.int .i64 n), (.ints .i64 xs), (.seq 5 ks)]), .d (.agg [(.int .i64 k2), (.int .i64 s2), (.int .i64 n2), (.ints .i64 xs2), (.seq 5 ks2)])] => ([.one ((.bool (Tr.beq (mkT k s n xs ks) (mkT k2 s2 n2 xs2 ks2))), false)], []) | _ => ([], []), fun _ => [], false, fun _ => none, none⟩
theorem Ed_zero : CallSpec Try.prog (Ed 0) := CallSpec.void ⟨Try.f15, by kernel_rfl, by kernel_rfl, by kernel_rfl⟩ (fun xs => by dsimp only [Ed]; split <;> simp) (fun _ => rfl)
theorem E_of (h : ∀ d, CallSpec Try.prog (Ed d)) : CallSpec Try.prog E := CallSpec.union Ed h (fun _ => rfl) (fun _ => rfl) (fun _ => rfl) fun xs hp => by
  dsimp only [E] at hp
  split at hp
  · rename_i k s n xs ks k2 s2 n2 xs2 ks2
    refine ⟨hgtT (mkT k s n xs ks) + 1, ?_, rfl⟩
    show (_ && decide (_ < _)) = true
    rw [hp]
    exact decide_eq_true (Nat.lt_succ_self _)
  · cases hp
end laws_equalTree
namespace laws_equalTree
noncomputable def X (d : Nat) : List Entry := [laws_equalInts.E, laws_equalTree.Ed d]
noncomputable def I : List Inl := [⟨15, Try.f15, ⟨[], [(1000004, [0, 1, 4, 6, 7, 8, 9, 10, 11, 12, 13, 14, 15, 16, 17, 18, 19, 20, 21, 22, 23, 24, 25, 26, 27, 28, 29, 30, 31, 32, 33, 34, 35, 36, 37, 38, 39, 40, 41, 42, 43, 44, 45, 46, 47, 48, 49, 50, 51, 52, 53, 54, 55, 56, 57, 58, 59, 60])], [], [(6, [0, 2, 5, 7, 1, 3, 4, 6, 8, 9, 10, 11])], [], []⟩⟩]
theorem I_ok : ∀ i ∈ I, Try.prog.funcs[i.f]? = some i.fn ∧ (i.fn.name == "runtime.NumGoroutine") = false := by
  intro i hi
  simp only [I, List.mem_cons, List.not_mem_nil, or_false] at hi
  subst hi
  exact ⟨by kernel_rfl, by kernel_rfl⟩
noncomputable abbrev L0 (d : Nat) (fuel n : Nat) (s : St) (k : Kont) := lAt Try.prog (X d) I fuel true 0 false 15 (bodyOf Try.f15) [1, 1, 0, 1, 0] n s k
noncomputable abbrev k0 (d : Nat)  (fuel : Nat) : Kont := (kAt Try.prog (X d) I fuel true 0 false 15 (bodyOf Try.f15) [1, 1, 0, 1, 0] [] (endK Try.prog Try.f15))
noncomputable def t0 (p0q0 : Int) (p0q1 : Int) (p0q2 : Int) (p0q3 : List Int) (p0q4 : List D) (p1q0 : Int) (p1q1 : Int) (p1q2 : Int) (p1q3 : List Int) (p1q4 : List D) (x0q0 : Int) : St := ⟨[.dead, .dead, (.ptr 1000000000 0 0), (.ptr 1000000001 0 0), .dead, (.imm (.int .i64 x0q0)), .dead, .dead, .dead, .dead, .dead, .dead, .dead, .dead, .dead, .dead, .dead, .dead, .dead, .dead, .dead, .dead, .dead, .dead, .dead, .dead, .dead, .dead, .dead, .dead, .dead, .dead, .dead, .dead, .dead, .dead, .dead, .dead, .dead, .dead, .dead, .dead, .dead, .dead, .dead, .dead, .dead, .dead, .dead, .dead, .dead, .dead, .dead, .dead, .dead, .dead, .dead, .dead, .dead, .dead, .dead], hOf [(1000000000, (.box [(.imm (.int .i64 p0q0)), (.imm (.int .i64 p0q1)), (.imm (.int .i64 p0q2)), (.imm (.ints .i64 p0q3)), (.imm (.seq 5 p0q4))])), (1000000001, (.box [(.imm (.int .i64 p1q0)), (.imm (.int .i64 p1q1)), (.imm (.int .i64 p1q2)), (.imm (.ints .i64 p1q3)), (.imm (.seq 5 p1q4))]))], [], []⟩
theorem e (d : Nat) (fuel : Nat) (p0q0 : Int) (p0q1 : Int) (p0q2 : Int) (p0q3 : List Int) (p0q4 : List D) (p1q0 : Int) (p1q1 : Int) (p1q2 : Int) (p1q3 : List Int) (p1q4 : List D) : runF Try.prog (X d) I 0 fuel 15 Try.f15 [.d (.agg [(.int .i64 p0q0), (.int .i64 p0q1), (.int .i64 p0q2), (.ints .i64 p0q3), (.seq 5 p0q4)]), .d (.agg [(.int .i64 p1q0), (.int .i64 p1q1), (.int .i64 p1q2), (.ints .i64 p1q3), (.seq 5 p1q4)])] =
  (bif ((p0q0 : Int) != p1q0) then
  some ([.one ((.bool false), false)], [])
  else
  (bif ((p0q1 : Int) != p1q1) then
  some ([.one ((.bool false), false)], [])
  else
  (bif ((p0q2 : Int) != p1q2) then
  some ([.one ((.bool false), false)], [])
  else
  (bif decide (p0q3.length < 9223372036854775808) && decide (p1q3.length < 9223372036854775808) then
  (bif (!(decide (p0q3 = p1q3))) then
  some ([.one ((.bool false), false)], [])
  else
  (bif ((((p0q4.length : Nat) : Int) : Int) != ((p1q4.length : Nat) : Int)) then
  some ([.one ((.bool false), false)], [])
  else
  L0 d fuel fuel (t0 p0q0 p0q1 p0q2 p0q3 p0q4 p1q0 p1q1 p1q2 p1q3 p1q4 0) (k0 d  fuel)))
  else
  none)))) := by kernel_rfl
theorem s0 (d : Nat) (fuel n0 : Nat) (p0q0 : Int) (p0q1 : Int) (p0q2 : Int) (p0q3 : List Int) (p0q4 : List D) (p1q0 : Int) (p1q1 : Int) (p1q2 : Int) (p1q3 : List Int) (p1q4 : List D) (x0q0 : Int) : L0 d fuel (n0 + 1) (t0 p0q0 p0q1 p0q2 p0q3 p0q4 p1q0 p1q1 p1q2 p1q3 p1q4 x0q0) (k0 d  fuel) =
  (bif (decide ((x0q0 : Int) < ((p0q4.length : Nat) : Int))) then
  (idx x0q0 p0q4.length).bind fun j5 =>
  (bif okS [.int .i64, .int .i64, .int .i64, .ints .i64, .seq 5] p0q4 j5 then
  (idx x0q0 p1q4.length).bind fun j6 =>
  (bif okS [.int .i64, .int .i64, .int .i64, .ints .i64, .seq 5] p1q4 j6 then
  (bif (treesB ((cellQ p0q4 j5 4)) && treesB ((cellQ p1q4 j6 4)) && smallT (mkT ((cellI p0q4 j5 0)) ((cellI p0q4 j5 1)) ((cellI p0q4 j5 2)) ((cellL p0q4 j5 3)) ((cellQ p0q4 j5 4))) && smallT (mkT ((cellI p1q4 j6 0)) ((cellI p1q4 j6 1)) ((cellI p1q4 j6 2)) ((cellL p1q4 j6 3)) ((cellQ p1q4 j6 4))) && decide (hgtT (mkT ((cellI p0q4 j5 0)) ((cellI p0q4 j5 1)) ((cellI p0q4 j5 2)) ((cellL p0q4 j5 3)) ((cellQ p0q4 j5 4))) < d)) then
  (bif (!(Tr.beq (mkT ((cellI p0q4 j5 0)) ((cellI p0q4 j5 1)) ((cellI p0q4 j5 2)) ((cellL p0q4 j5 3)) ((cellQ p0q4 j5 4))) (mkT ((cellI p1q4 j6 0)) ((cellI p1q4 j6 1)) ((cellI p1q4 j6 2)) ((cellL p1q4 j6 3)) ((cellQ p1q4 j6 4))))) then
  some ([.one ((.bool false), false)], [])
  else
  L0 d fuel n0 (t0 p0q0 p0q1 p0q2 p0q3 p0q4 p1q0 p1q1 p1q2 p1q3 p1q4 ((IntKind.wrap .i64 (x0q0 + 1)))) (k0 d  fuel))
  else
  none)
  else
  none)
  else
  none)
  else
  some ([.one ((.bool true), false)], [])) := by kernel_rfl
end laws_equalTree
theorem laws_equalTree.ok_of (d : Nat) (hX : ∀ E ∈ laws_equalTree.X d, CallSpec Try.prog E) (h : ∀ (k : Int) (s : Int) (n : Int) (xs : List Int) (ks : List D) (k2 : Int) (s2 : Int) (n2 : Int) (xs2 : List Int) (ks2 : List D), ((treesB ks && treesB ks2 && smallT (mkT k s n xs ks) && smallT (mkT k2 s2 n2 xs2 ks2)) && decide (hgtT (mkT k s n xs ks) < d + 1)) = true → ∃ fuel, runF Try.prog (laws_equalTree.X d) laws_equalTree.I 0 fuel 15 Try.f15 [.d (.agg [(.int .i64 k), (.int .i64 s), (.int .i64 n), (.ints .i64 xs), (.seq 5 ks)]), .d (.agg [(.int .i64 k2), (.int .i64 s2), (.int .i64 n2), (.ints .i64 xs2), (.seq 5 ks2)])] = some ([.one ((.bool (Tr.beq (mkT k s n xs ks) (mkT k2 s2 n2 xs2 ks2))), false)], [])) : CallSpec Try.prog (laws_equalTree.Ed (d + 1)) :=
  callSpec_of (d := 0) hX (by kernel_rfl) laws_equalTree.I_ok (by kernel_rfl) (by kernel_rfl) (by kernel_rfl) (fun _ _ _ _ h => by dsimp only [laws_equalTree.Ed] at h; cases h) (fun xs hp => by
    dsimp only [laws_equalTree.Ed] at hp ⊢
    split at hp
    · exact h _ _ _ _ _ _ _ _ _ _ hp
    · cases hp)
theorem laws_equalTree.okd : ∀ d, CallSpec Try.prog (laws_equalTree.Ed d)
  | 0 => laws_equalTree.Ed_zero
  | d + 1 => laws_equalTree.ok_of d (by simp [laws_equalTree.X, laws_equalTree.okd d, laws_equalInts.ok]) fun k s n xs ks k2 s2 n2 xs2 ks2 h => by
    simp only [Bool.and_eq_true, decide_eq_true_eq] at h
    obtain ⟨⟨⟨⟨ht, hu⟩, hs⟩, hs2⟩, hd⟩ := h
    obtain ⟨ts, rfl⟩ := treesB_iff.1 ht
    obtain ⟨us, rfl⟩ := treesB_iff.1 hu
    rw [mkT_treeDs] at hs hs2 hd ⊢
    rw [mkT_treeDs]
    unfold smallT at hs hs2
    simp only [smT, Bool.and_eq_true, decide_eq_true_eq] at hs hs2
    obtain ⟨⟨hx, hk⟩, hks⟩ := hs
    obtain ⟨⟨hx2, hk2⟩, hks2⟩ := hs2
    simp only [hgtT] at hd
    refine ⟨ts.length + 1, ?_⟩
    have eT : (((ts.length : Nat) : Int) != ((us.length : Nat) : Int)) = !decide (ts.length = us.length) := by
      by_cases h : ts.length = us.length <;> simp [h]; omega
    rw [laws_equalTree.e, treeDs_length, treeDs_length, lt_of (by omega), lt_of (by omega), eT, Tr.beq, bne, bne, bne]
    cases k == k2 with
    | false => rfl
    | true =>
    cases s == s2 with
    | false => rfl
    | true =>
    cases n == n2 with
    | false => rfl
    | true =>
    rw [Bool.not_true, cond_false, cond_false, cond_false, Bool.and_self, cond_true]
    cases decide (xs = xs2) with
    | false => rfl
    | true =>
    rw [Bool.not_true, cond_false]
    by_cases hl : ts.length = us.length
    case neg =>
      rw [decide_eq_false hl, Tr.beqs_len hl]
      rfl
    rw [decide_eq_true hl, Bool.not_true, cond_false, Bool.and_self, Bool.and_self, Bool.true_and]
    refine cnt_loop (σ := Unit) (N := ts.length) (fun q j _ => laws_equalTree.L0 d (ts.length + 1) q (laws_equalTree.t0 k s n xs (treeDs ts) k2 s2 n2 xs2 (treeDs us) (j : Int)) (laws_equalTree.k0 d (ts.length + 1)))
      (fun j _ => Tr.beqs ts us = Tr.beqs (ts.drop j) (us.drop j)) ?_ ?_ (ts.length + 1) 0 () (by omega) (by omega) rfl
    · intro q _ hI
      rw [laws_equalTree.s0, treeDs_length, dge (by omega), cond_false, hI, List.drop_length, hl, List.drop_length]
      rfl
    · intro q j _ hj hI
      have hj2 : j < us.length := by omega
      have v0 := (tr_view hj).1
      have u0 := (tr_view hj2).1
      rw [laws_equalTree.s0, treeDs_length, treeDs_length, dlt hj, cond_true, idx_nat hj, Option.bind_some, v0, cond_true, idx_nat hj2, Option.bind_some, u0, cond_true, tr_tb hj, tr_tb hj2, tr_mk hj, tr_mk hj2]
      rw [show smallT ts[j] = true from sm_get hj hks, show smallT us[j] = true from sm_get hj2 hks2, decide_eq_true (p := hgtT ts[j] < d) (by have := hgt_get hj; omega), w1 (by omega)]
      rw [Tr.beqs_drop hl hj] at hI
      cases hb : Tr.beq ts[j] us[j] with
      | true => exact .inr ⟨(), by rw [hI, hb, Bool.true_and], rfl⟩
      | false => exact .inl (by rw [hI, hb, Bool.false_and]; rfl)
theorem laws_equalTree.ok : CallSpec Try.prog laws_equalTree.E := laws_equalTree.E_of laws_equalTree.okd

namespace laws_FnTreeTokens
noncomputable def E : Entry := ⟨6, true, false, fun | [.d (.ints .u8 bs)] => bytesB bs | _ => false, fun | [.d (.ints .u8 bs)] => ([.one ((.bool true), false)], []) | _ => ([], []), fun _ => [], false, fun _ => none, none⟩
end laws_FnTreeTokens
namespace laws_FnTreeTokens
noncomputable def X : List Entry := [spec_DrawTreeTokens.E, impl_TreeTokens.E, spec_TreeTokens.E, laws_equalTokens.E, impl_ParseTokens.E, laws_equalTree.E, impl_ValidTokens.E]
noncomputable def I : List Inl := [⟨6, Try.f6, ⟨[14, 17, 22, 48], [], [(3000048, [4])], [], [], [48]⟩⟩]
theorem I_ok : ∀ i ∈ I, Try.prog.funcs[i.f]? = some i.fn ∧ (i.fn.name == "runtime.NumGoroutine") = false := by
  intro i hi
  simp only [I, List.mem_cons, List.not_mem_nil, or_false] at hi
  subst hi
  exact ⟨by kernel_rfl, by kernel_rfl⟩
theorem e (fuel : Nat) (p0 : List Int) : runF Try.prog X I 0 fuel 6 Try.f6 [.d (.ints .u8 p0)] =
  (bif (decide ((((p0.length : Nat) : Int) : Int) > 1048576)) then
  some ([.one ((.bool true), false)], [])
  else
  (bif bytesB p0 then
  (bif treesB ((treeDs (Tr.ks (anyT (cutC p0) 0)))) then
  (bif validT 8 (mkT ((Tr.k (anyT (cutC p0) 0))) ((Tr.s (anyT (cutC p0) 0))) ((Tr.n (anyT (cutC p0) 0))) ((Tr.xs (anyT (cutC p0) 0))) ((treeDs (Tr.ks (anyT (cutC p0) 0))))) && decide ((toksT (mkT ((Tr.k (anyT (cutC p0) 0))) ((Tr.s (anyT (cutC p0) 0))) ((Tr.n (anyT (cutC p0) 0))) ((Tr.xs (anyT (cutC p0) 0))) ((treeDs (Tr.ks (anyT (cutC p0) 0)))))).length ≤ 40) then
  (bif treesB ((treeDs (Tr.ks (anyT (cutC p0) 0)))) then
  (bif validT 8 (mkT ((Tr.k (anyT (cutC p0) 0))) ((Tr.s (anyT (cutC p0) 0))) ((Tr.n (anyT (cutC p0) 0))) ((Tr.xs (anyT (cutC p0) 0))) ((treeDs (Tr.ks (anyT (cutC p0) 0))))) && decide ((toksT (mkT ((Tr.k (anyT (cutC p0) 0))) ((Tr.s (anyT (cutC p0) 0))) ((Tr.n (anyT (cutC p0) 0))) ((Tr.xs (anyT (cutC p0) 0))) ((treeDs (Tr.ks (anyT (cutC p0) 0)))))).length ≤ 40) then
  (bif toksB ((tokDs (toksT (mkT ((Tr.k (anyT (cutC p0) 0))) ((Tr.s (anyT (cutC p0) 0))) ((Tr.n (anyT (cutC p0) 0))) ((Tr.xs (anyT (cutC p0) 0))) ((treeDs (Tr.ks (anyT (cutC p0) 0)))))))) && toksB ((tokDs (toksT (mkT ((Tr.k (anyT (cutC p0) 0))) ((Tr.s (anyT (cutC p0) 0))) ((Tr.n (anyT (cutC p0) 0))) ((Tr.xs (anyT (cutC p0) 0))) ((treeDs (Tr.ks (anyT (cutC p0) 0)))))))) && decide ((((tokDs (toksT (mkT ((Tr.k (anyT (cutC p0) 0))) ((Tr.s (anyT (cutC p0) 0))) ((Tr.n (anyT (cutC p0) 0))) ((Tr.xs (anyT (cutC p0) 0))) ((treeDs (Tr.ks (anyT (cutC p0) 0)))))))) : List D).length < 9223372036854775808) && decide ((((tokDs (toksT (mkT ((Tr.k (anyT (cutC p0) 0))) ((Tr.s (anyT (cutC p0) 0))) ((Tr.n (anyT (cutC p0) 0))) ((Tr.xs (anyT (cutC p0) 0))) ((treeDs (Tr.ks (anyT (cutC p0) 0)))))))) : List D).length < 9223372036854775808) then
  (bif (!(toksEq ((tokDs (toksT (mkT ((Tr.k (anyT (cutC p0) 0))) ((Tr.s (anyT (cutC p0) 0))) ((Tr.n (anyT (cutC p0) 0))) ((Tr.xs (anyT (cutC p0) 0))) ((treeDs (Tr.ks (anyT (cutC p0) 0)))))))) ((tokDs (toksT (mkT ((Tr.k (anyT (cutC p0) 0))) ((Tr.s (anyT (cutC p0) 0))) ((Tr.n (anyT (cutC p0) 0))) ((Tr.xs (anyT (cutC p0) 0))) ((treeDs (Tr.ks (anyT (cutC p0) 0)))))))))) then
  (bif toksB ((tokDs (toksT (mkT ((Tr.k (anyT (cutC p0) 0))) ((Tr.s (anyT (cutC p0) 0))) ((Tr.n (anyT (cutC p0) 0))) ((Tr.xs (anyT (cutC p0) 0))) ((treeDs (Tr.ks (anyT (cutC p0) 0)))))))) && toksB ((tokDs (toksT (mkT ((Tr.k (anyT (cutC p0) 0))) ((Tr.s (anyT (cutC p0) 0))) ((Tr.n (anyT (cutC p0) 0))) ((Tr.xs (anyT (cutC p0) 0))) ((treeDs (Tr.ks (anyT (cutC p0) 0)))))))) && decide ((((tokDs (toksT (mkT ((Tr.k (anyT (cutC p0) 0))) ((Tr.s (anyT (cutC p0) 0))) ((Tr.n (anyT (cutC p0) 0))) ((Tr.xs (anyT (cutC p0) 0))) ((treeDs (Tr.ks (anyT (cutC p0) 0)))))))) : List D).length < 9223372036854775808) && decide ((((tokDs (toksT (mkT ((Tr.k (anyT (cutC p0) 0))) ((Tr.s (anyT (cutC p0) 0))) ((Tr.n (anyT (cutC p0) 0))) ((Tr.xs (anyT (cutC p0) 0))) ((treeDs (Tr.ks (anyT (cutC p0) 0)))))))) : List D).length < 9223372036854775808) then
  (bif (toksEq ((tokDs (toksT (mkT ((Tr.k (anyT (cutC p0) 0))) ((Tr.s (anyT (cutC p0) 0))) ((Tr.n (anyT (cutC p0) 0))) ((Tr.xs (anyT (cutC p0) 0))) ((treeDs (Tr.ks (anyT (cutC p0) 0)))))))) ((tokDs (toksT (mkT ((Tr.k (anyT (cutC p0) 0))) ((Tr.s (anyT (cutC p0) 0))) ((Tr.n (anyT (cutC p0) 0))) ((Tr.xs (anyT (cutC p0) 0))) ((treeDs (Tr.ks (anyT (cutC p0) 0))))))))) then
  some ([.one ((.bool (true == true)), false)], [])
  else
  some ([.one ((.bool false), false)], []))
  else
  none)
  else
  (bif (!(true == true)) then
  (bif toksB ((tokDs (toksT (mkT ((Tr.k (anyT (cutC p0) 0))) ((Tr.s (anyT (cutC p0) 0))) ((Tr.n (anyT (cutC p0) 0))) ((Tr.xs (anyT (cutC p0) 0))) ((treeDs (Tr.ks (anyT (cutC p0) 0)))))))) && toksB ((tokDs (toksT (mkT ((Tr.k (anyT (cutC p0) 0))) ((Tr.s (anyT (cutC p0) 0))) ((Tr.n (anyT (cutC p0) 0))) ((Tr.xs (anyT (cutC p0) 0))) ((treeDs (Tr.ks (anyT (cutC p0) 0)))))))) && decide ((((tokDs (toksT (mkT ((Tr.k (anyT (cutC p0) 0))) ((Tr.s (anyT (cutC p0) 0))) ((Tr.n (anyT (cutC p0) 0))) ((Tr.xs (anyT (cutC p0) 0))) ((treeDs (Tr.ks (anyT (cutC p0) 0)))))))) : List D).length < 9223372036854775808) && decide ((((tokDs (toksT (mkT ((Tr.k (anyT (cutC p0) 0))) ((Tr.s (anyT (cutC p0) 0))) ((Tr.n (anyT (cutC p0) 0))) ((Tr.xs (anyT (cutC p0) 0))) ((treeDs (Tr.ks (anyT (cutC p0) 0)))))))) : List D).length < 9223372036854775808) then
  (bif (toksEq ((tokDs (toksT (mkT ((Tr.k (anyT (cutC p0) 0))) ((Tr.s (anyT (cutC p0) 0))) ((Tr.n (anyT (cutC p0) 0))) ((Tr.xs (anyT (cutC p0) 0))) ((treeDs (Tr.ks (anyT (cutC p0) 0)))))))) ((tokDs (toksT (mkT ((Tr.k (anyT (cutC p0) 0))) ((Tr.s (anyT (cutC p0) 0))) ((Tr.n (anyT (cutC p0) 0))) ((Tr.xs (anyT (cutC p0) 0))) ((treeDs (Tr.ks (anyT (cutC p0) 0))))))))) then
  some ([.one ((.bool (true == true)), false)], [])
  else
  some ([.one ((.bool false), false)], []))
  else
  none)
  else
  (bif toksB ((tokDs (toksT (mkT ((Tr.k (anyT (cutC p0) 0))) ((Tr.s (anyT (cutC p0) 0))) ((Tr.n (anyT (cutC p0) 0))) ((Tr.xs (anyT (cutC p0) 0))) ((treeDs (Tr.ks (anyT (cutC p0) 0)))))))) && decide ((((tokDs (toksT (mkT ((Tr.k (anyT (cutC p0) 0))) ((Tr.s (anyT (cutC p0) 0))) ((Tr.n (anyT (cutC p0) 0))) ((Tr.xs (anyT (cutC p0) 0))) ((treeDs (Tr.ks (anyT (cutC p0) 0)))))))) : List D).length < 9223372036854775808) then
  (bif parseB (revK ((tokDs (toksT (mkT ((Tr.k (anyT (cutC p0) 0))) ((Tr.s (anyT (cutC p0) 0))) ((Tr.n (anyT (cutC p0) 0))) ((Tr.xs (anyT (cutC p0) 0))) ((treeDs (Tr.ks (anyT (cutC p0) 0))))))))) then
  (bif treesB ((treeDs (Tr.ks (readE (revK ((tokDs (toksT (mkT ((Tr.k (anyT (cutC p0) 0))) ((Tr.s (anyT (cutC p0) 0))) ((Tr.n (anyT (cutC p0) 0))) ((Tr.xs (anyT (cutC p0) 0))) ((treeDs (Tr.ks (anyT (cutC p0) 0)))))))))).1))) && treesB ((treeDs (Tr.ks (anyT (cutC p0) 0)))) && smallT (mkT ((Tr.k (readE (revK ((tokDs (toksT (mkT ((Tr.k (anyT (cutC p0) 0))) ((Tr.s (anyT (cutC p0) 0))) ((Tr.n (anyT (cutC p0) 0))) ((Tr.xs (anyT (cutC p0) 0))) ((treeDs (Tr.ks (anyT (cutC p0) 0)))))))))).1)) ((Tr.s (readE (revK ((tokDs (toksT (mkT ((Tr.k (anyT (cutC p0) 0))) ((Tr.s (anyT (cutC p0) 0))) ((Tr.n (anyT (cutC p0) 0))) ((Tr.xs (anyT (cutC p0) 0))) ((treeDs (Tr.ks (anyT (cutC p0) 0)))))))))).1)) ((Tr.n (readE (revK ((tokDs (toksT (mkT ((Tr.k (anyT (cutC p0) 0))) ((Tr.s (anyT (cutC p0) 0))) ((Tr.n (anyT (cutC p0) 0))) ((Tr.xs (anyT (cutC p0) 0))) ((treeDs (Tr.ks (anyT (cutC p0) 0)))))))))).1)) ((Tr.xs (readE (revK ((tokDs (toksT (mkT ((Tr.k (anyT (cutC p0) 0))) ((Tr.s (anyT (cutC p0) 0))) ((Tr.n (anyT (cutC p0) 0))) ((Tr.xs (anyT (cutC p0) 0))) ((treeDs (Tr.ks (anyT (cutC p0) 0)))))))))).1)) ((treeDs (Tr.ks (readE (revK ((tokDs (toksT (mkT ((Tr.k (anyT (cutC p0) 0))) ((Tr.s (anyT (cutC p0) 0))) ((Tr.n (anyT (cutC p0) 0))) ((Tr.xs (anyT (cutC p0) 0))) ((treeDs (Tr.ks (anyT (cutC p0) 0)))))))))).1)))) && smallT (mkT ((Tr.k (anyT (cutC p0) 0))) ((Tr.s (anyT (cutC p0) 0))) ((Tr.n (anyT (cutC p0) 0))) ((Tr.xs (anyT (cutC p0) 0))) ((treeDs (Tr.ks (anyT (cutC p0) 0))))) then
  (bif (Tr.beq (mkT ((Tr.k (readE (revK ((tokDs (toksT (mkT ((Tr.k (anyT (cutC p0) 0))) ((Tr.s (anyT (cutC p0) 0))) ((Tr.n (anyT (cutC p0) 0))) ((Tr.xs (anyT (cutC p0) 0))) ((treeDs (Tr.ks (anyT (cutC p0) 0)))))))))).1)) ((Tr.s (readE (revK ((tokDs (toksT (mkT ((Tr.k (anyT (cutC p0) 0))) ((Tr.s (anyT (cutC p0) 0))) ((Tr.n (anyT (cutC p0) 0))) ((Tr.xs (anyT (cutC p0) 0))) ((treeDs (Tr.ks (anyT (cutC p0) 0)))))))))).1)) ((Tr.n (readE (revK ((tokDs (toksT (mkT ((Tr.k (anyT (cutC p0) 0))) ((Tr.s (anyT (cutC p0) 0))) ((Tr.n (anyT (cutC p0) 0))) ((Tr.xs (anyT (cutC p0) 0))) ((treeDs (Tr.ks (anyT (cutC p0) 0)))))))))).1)) ((Tr.xs (readE (revK ((tokDs (toksT (mkT ((Tr.k (anyT (cutC p0) 0))) ((Tr.s (anyT (cutC p0) 0))) ((Tr.n (anyT (cutC p0) 0))) ((Tr.xs (anyT (cutC p0) 0))) ((treeDs (Tr.ks (anyT (cutC p0) 0)))))))))).1)) ((treeDs (Tr.ks (readE (revK ((tokDs (toksT (mkT ((Tr.k (anyT (cutC p0) 0))) ((Tr.s (anyT (cutC p0) 0))) ((Tr.n (anyT (cutC p0) 0))) ((Tr.xs (anyT (cutC p0) 0))) ((treeDs (Tr.ks (anyT (cutC p0) 0)))))))))).1)))) (mkT ((Tr.k (anyT (cutC p0) 0))) ((Tr.s (anyT (cutC p0) 0))) ((Tr.n (anyT (cutC p0) 0))) ((Tr.xs (anyT (cutC p0) 0))) ((treeDs (Tr.ks (anyT (cutC p0) 0)))))) then
  (bif toksB ((tokDs (toksT (mkT ((Tr.k (anyT (cutC p0) 0))) ((Tr.s (anyT (cutC p0) 0))) ((Tr.n (anyT (cutC p0) 0))) ((Tr.xs (anyT (cutC p0) 0))) ((treeDs (Tr.ks (anyT (cutC p0) 0)))))))) && decide ((((tokDs (toksT (mkT ((Tr.k (anyT (cutC p0) 0))) ((Tr.s (anyT (cutC p0) 0))) ((Tr.n (anyT (cutC p0) 0))) ((Tr.xs (anyT (cutC p0) 0))) ((treeDs (Tr.ks (anyT (cutC p0) 0)))))))) : List D).length < 9223372036854775808) then
  some ([.one ((.bool (decide ((((tokDs (toksT (mkT ((Tr.k (anyT (cutC p0) 0))) ((Tr.s (anyT (cutC p0) 0))) ((Tr.n (anyT (cutC p0) 0))) ((Tr.xs (anyT (cutC p0) 0))) ((treeDs (Tr.ks (anyT (cutC p0) 0)))))))) : List D).length ≤ 40) && allK ((tokDs (toksT (mkT ((Tr.k (anyT (cutC p0) 0))) ((Tr.s (anyT (cutC p0) 0))) ((Tr.n (anyT (cutC p0) 0))) ((Tr.xs (anyT (cutC p0) 0))) ((treeDs (Tr.ks (anyT (cutC p0) 0)))))))))), false)], [])
  else
  none)
  else
  some ([.one ((.bool false), false)], []))
  else
  none)
  else
  some ([.one ((.bool false), false)], []))
  else
  none)))
  else
  none)
  else
  (bif toksB ((tokDs (toksT (mkT ((Tr.k (anyT (cutC p0) 0))) ((Tr.s (anyT (cutC p0) 0))) ((Tr.n (anyT (cutC p0) 0))) ((Tr.xs (anyT (cutC p0) 0))) ((treeDs (Tr.ks (anyT (cutC p0) 0)))))))) && toksB (([] : List D)) && decide ((((tokDs (toksT (mkT ((Tr.k (anyT (cutC p0) 0))) ((Tr.s (anyT (cutC p0) 0))) ((Tr.n (anyT (cutC p0) 0))) ((Tr.xs (anyT (cutC p0) 0))) ((treeDs (Tr.ks (anyT (cutC p0) 0)))))))) : List D).length < 9223372036854775808) && decide (((([] : List D)) : List D).length < 9223372036854775808) then
  (bif (!(toksEq ((tokDs (toksT (mkT ((Tr.k (anyT (cutC p0) 0))) ((Tr.s (anyT (cutC p0) 0))) ((Tr.n (anyT (cutC p0) 0))) ((Tr.xs (anyT (cutC p0) 0))) ((treeDs (Tr.ks (anyT (cutC p0) 0)))))))) (([] : List D)))) then
  (bif toksB ((tokDs (toksT (mkT ((Tr.k (anyT (cutC p0) 0))) ((Tr.s (anyT (cutC p0) 0))) ((Tr.n (anyT (cutC p0) 0))) ((Tr.xs (anyT (cutC p0) 0))) ((treeDs (Tr.ks (anyT (cutC p0) 0)))))))) && toksB (([] : List D)) && decide ((((tokDs (toksT (mkT ((Tr.k (anyT (cutC p0) 0))) ((Tr.s (anyT (cutC p0) 0))) ((Tr.n (anyT (cutC p0) 0))) ((Tr.xs (anyT (cutC p0) 0))) ((treeDs (Tr.ks (anyT (cutC p0) 0)))))))) : List D).length < 9223372036854775808) && decide (((([] : List D)) : List D).length < 9223372036854775808) then
  (bif (toksEq ((tokDs (toksT (mkT ((Tr.k (anyT (cutC p0) 0))) ((Tr.s (anyT (cutC p0) 0))) ((Tr.n (anyT (cutC p0) 0))) ((Tr.xs (anyT (cutC p0) 0))) ((treeDs (Tr.ks (anyT (cutC p0) 0)))))))) (([] : List D))) then
  some ([.one ((.bool (true == false)), false)], [])
  else
  some ([.one ((.bool false), false)], []))
  else
  none)
  else
  (bif (!(true == false)) then
  (bif toksB ((tokDs (toksT (mkT ((Tr.k (anyT (cutC p0) 0))) ((Tr.s (anyT (cutC p0) 0))) ((Tr.n (anyT (cutC p0) 0))) ((Tr.xs (anyT (cutC p0) 0))) ((treeDs (Tr.ks (anyT (cutC p0) 0)))))))) && toksB (([] : List D)) && decide ((((tokDs (toksT (mkT ((Tr.k (anyT (cutC p0) 0))) ((Tr.s (anyT (cutC p0) 0))) ((Tr.n (anyT (cutC p0) 0))) ((Tr.xs (anyT (cutC p0) 0))) ((treeDs (Tr.ks (anyT (cutC p0) 0)))))))) : List D).length < 9223372036854775808) && decide (((([] : List D)) : List D).length < 9223372036854775808) then
  (bif (toksEq ((tokDs (toksT (mkT ((Tr.k (anyT (cutC p0) 0))) ((Tr.s (anyT (cutC p0) 0))) ((Tr.n (anyT (cutC p0) 0))) ((Tr.xs (anyT (cutC p0) 0))) ((treeDs (Tr.ks (anyT (cutC p0) 0)))))))) (([] : List D))) then
  some ([.one ((.bool (true == false)), false)], [])
  else
  some ([.one ((.bool false), false)], []))
  else
  none)
  else
  (bif toksB ((tokDs (toksT (mkT ((Tr.k (anyT (cutC p0) 0))) ((Tr.s (anyT (cutC p0) 0))) ((Tr.n (anyT (cutC p0) 0))) ((Tr.xs (anyT (cutC p0) 0))) ((treeDs (Tr.ks (anyT (cutC p0) 0)))))))) && decide ((((tokDs (toksT (mkT ((Tr.k (anyT (cutC p0) 0))) ((Tr.s (anyT (cutC p0) 0))) ((Tr.n (anyT (cutC p0) 0))) ((Tr.xs (anyT (cutC p0) 0))) ((treeDs (Tr.ks (anyT (cutC p0) 0)))))))) : List D).length < 9223372036854775808) then
  (bif parseB (revK ((tokDs (toksT (mkT ((Tr.k (anyT (cutC p0) 0))) ((Tr.s (anyT (cutC p0) 0))) ((Tr.n (anyT (cutC p0) 0))) ((Tr.xs (anyT (cutC p0) 0))) ((treeDs (Tr.ks (anyT (cutC p0) 0))))))))) then
  (bif treesB ((treeDs (Tr.ks (readE (revK ((tokDs (toksT (mkT ((Tr.k (anyT (cutC p0) 0))) ((Tr.s (anyT (cutC p0) 0))) ((Tr.n (anyT (cutC p0) 0))) ((Tr.xs (anyT (cutC p0) 0))) ((treeDs (Tr.ks (anyT (cutC p0) 0)))))))))).1))) && treesB ((treeDs (Tr.ks (anyT (cutC p0) 0)))) && smallT (mkT ((Tr.k (readE (revK ((tokDs (toksT (mkT ((Tr.k (anyT (cutC p0) 0))) ((Tr.s (anyT (cutC p0) 0))) ((Tr.n (anyT (cutC p0) 0))) ((Tr.xs (anyT (cutC p0) 0))) ((treeDs (Tr.ks (anyT (cutC p0) 0)))))))))).1)) ((Tr.s (readE (revK ((tokDs (toksT (mkT ((Tr.k (anyT (cutC p0) 0))) ((Tr.s (anyT (cutC p0) 0))) ((Tr.n (anyT (cutC p0) 0))) ((Tr.xs (anyT (cutC p0) 0))) ((treeDs (Tr.ks (anyT (cutC p0) 0)))))))))).1)) ((Tr.n (readE (revK ((tokDs (toksT (mkT ((Tr.k (anyT (cutC p0) 0))) ((Tr.s (anyT (cutC p0) 0))) ((Tr.n (anyT (cutC p0) 0))) ((Tr.xs (anyT (cutC p0) 0))) ((treeDs (Tr.ks (anyT (cutC p0) 0)))))))))).1)) ((Tr.xs (readE (revK ((tokDs (toksT (mkT ((Tr.k (anyT (cutC p0) 0))) ((Tr.s (anyT (cutC p0) 0))) ((Tr.n (anyT (cutC p0) 0))) ((Tr.xs (anyT (cutC p0) 0))) ((treeDs (Tr.ks (anyT (cutC p0) 0)))))))))).1)) ((treeDs (Tr.ks (readE (revK ((tokDs (toksT (mkT ((Tr.k (anyT (cutC p0) 0))) ((Tr.s (anyT (cutC p0) 0))) ((Tr.n (anyT (cutC p0) 0))) ((Tr.xs (anyT (cutC p0) 0))) ((treeDs (Tr.ks (anyT (cutC p0) 0)))))))))).1)))) && smallT (mkT ((Tr.k (anyT (cutC p0) 0))) ((Tr.s (anyT (cutC p0) 0))) ((Tr.n (anyT (cutC p0) 0))) ((Tr.xs (anyT (cutC p0) 0))) ((treeDs (Tr.ks (anyT (cutC p0) 0))))) then
  (bif (Tr.beq (mkT ((Tr.k (readE (revK ((tokDs (toksT (mkT ((Tr.k (anyT (cutC p0) 0))) ((Tr.s (anyT (cutC p0) 0))) ((Tr.n (anyT (cutC p0) 0))) ((Tr.xs (anyT (cutC p0) 0))) ((treeDs (Tr.ks (anyT (cutC p0) 0)))))))))).1)) ((Tr.s (readE (revK ((tokDs (toksT (mkT ((Tr.k (anyT (cutC p0) 0))) ((Tr.s (anyT (cutC p0) 0))) ((Tr.n (anyT (cutC p0) 0))) ((Tr.xs (anyT (cutC p0) 0))) ((treeDs (Tr.ks (anyT (cutC p0) 0)))))))))).1)) ((Tr.n (readE (revK ((tokDs (toksT (mkT ((Tr.k (anyT (cutC p0) 0))) ((Tr.s (anyT (cutC p0) 0))) ((Tr.n (anyT (cutC p0) 0))) ((Tr.xs (anyT (cutC p0) 0))) ((treeDs (Tr.ks (anyT (cutC p0) 0)))))))))).1)) ((Tr.xs (readE (revK ((tokDs (toksT (mkT ((Tr.k (anyT (cutC p0) 0))) ((Tr.s (anyT (cutC p0) 0))) ((Tr.n (anyT (cutC p0) 0))) ((Tr.xs (anyT (cutC p0) 0))) ((treeDs (Tr.ks (anyT (cutC p0) 0)))))))))).1)) ((treeDs (Tr.ks (readE (revK ((tokDs (toksT (mkT ((Tr.k (anyT (cutC p0) 0))) ((Tr.s (anyT (cutC p0) 0))) ((Tr.n (anyT (cutC p0) 0))) ((Tr.xs (anyT (cutC p0) 0))) ((treeDs (Tr.ks (anyT (cutC p0) 0)))))))))).1)))) (mkT ((Tr.k (anyT (cutC p0) 0))) ((Tr.s (anyT (cutC p0) 0))) ((Tr.n (anyT (cutC p0) 0))) ((Tr.xs (anyT (cutC p0) 0))) ((treeDs (Tr.ks (anyT (cutC p0) 0)))))) then
  (bif toksB ((tokDs (toksT (mkT ((Tr.k (anyT (cutC p0) 0))) ((Tr.s (anyT (cutC p0) 0))) ((Tr.n (anyT (cutC p0) 0))) ((Tr.xs (anyT (cutC p0) 0))) ((treeDs (Tr.ks (anyT (cutC p0) 0)))))))) && decide ((((tokDs (toksT (mkT ((Tr.k (anyT (cutC p0) 0))) ((Tr.s (anyT (cutC p0) 0))) ((Tr.n (anyT (cutC p0) 0))) ((Tr.xs (anyT (cutC p0) 0))) ((treeDs (Tr.ks (anyT (cutC p0) 0)))))))) : List D).length < 9223372036854775808) then
  some ([.one ((.bool (decide ((((tokDs (toksT (mkT ((Tr.k (anyT (cutC p0) 0))) ((Tr.s (anyT (cutC p0) 0))) ((Tr.n (anyT (cutC p0) 0))) ((Tr.xs (anyT (cutC p0) 0))) ((treeDs (Tr.ks (anyT (cutC p0) 0)))))))) : List D).length ≤ 40) && allK ((tokDs (toksT (mkT ((Tr.k (anyT (cutC p0) 0))) ((Tr.s (anyT (cutC p0) 0))) ((Tr.n (anyT (cutC p0) 0))) ((Tr.xs (anyT (cutC p0) 0))) ((treeDs (Tr.ks (anyT (cutC p0) 0)))))))))), false)], [])
  else
  none)
  else
  some ([.one ((.bool false), false)], []))
  else
  none)
  else
  some ([.one ((.bool false), false)], []))
  else
  none)))
  else
  none))
  else
  none)
  else
  (bif treesB ((treeDs (Tr.ks (anyT (cutC p0) 0)))) then
  (bif validT 8 (mkT ((Tr.k (anyT (cutC p0) 0))) ((Tr.s (anyT (cutC p0) 0))) ((Tr.n (anyT (cutC p0) 0))) ((Tr.xs (anyT (cutC p0) 0))) ((treeDs (Tr.ks (anyT (cutC p0) 0))))) && decide ((toksT (mkT ((Tr.k (anyT (cutC p0) 0))) ((Tr.s (anyT (cutC p0) 0))) ((Tr.n (anyT (cutC p0) 0))) ((Tr.xs (anyT (cutC p0) 0))) ((treeDs (Tr.ks (anyT (cutC p0) 0)))))).length ≤ 40) then
  (bif toksB (([] : List D)) && toksB ((tokDs (toksT (mkT ((Tr.k (anyT (cutC p0) 0))) ((Tr.s (anyT (cutC p0) 0))) ((Tr.n (anyT (cutC p0) 0))) ((Tr.xs (anyT (cutC p0) 0))) ((treeDs (Tr.ks (anyT (cutC p0) 0)))))))) && decide (((([] : List D)) : List D).length < 9223372036854775808) && decide ((((tokDs (toksT (mkT ((Tr.k (anyT (cutC p0) 0))) ((Tr.s (anyT (cutC p0) 0))) ((Tr.n (anyT (cutC p0) 0))) ((Tr.xs (anyT (cutC p0) 0))) ((treeDs (Tr.ks (anyT (cutC p0) 0)))))))) : List D).length < 9223372036854775808) then
  (bif (!(toksEq (([] : List D)) ((tokDs (toksT (mkT ((Tr.k (anyT (cutC p0) 0))) ((Tr.s (anyT (cutC p0) 0))) ((Tr.n (anyT (cutC p0) 0))) ((Tr.xs (anyT (cutC p0) 0))) ((treeDs (Tr.ks (anyT (cutC p0) 0)))))))))) then
  (bif toksB (([] : List D)) && toksB ((tokDs (toksT (mkT ((Tr.k (anyT (cutC p0) 0))) ((Tr.s (anyT (cutC p0) 0))) ((Tr.n (anyT (cutC p0) 0))) ((Tr.xs (anyT (cutC p0) 0))) ((treeDs (Tr.ks (anyT (cutC p0) 0)))))))) && decide (((([] : List D)) : List D).length < 9223372036854775808) && decide ((((tokDs (toksT (mkT ((Tr.k (anyT (cutC p0) 0))) ((Tr.s (anyT (cutC p0) 0))) ((Tr.n (anyT (cutC p0) 0))) ((Tr.xs (anyT (cutC p0) 0))) ((treeDs (Tr.ks (anyT (cutC p0) 0)))))))) : List D).length < 9223372036854775808) then
  (bif (toksEq (([] : List D)) ((tokDs (toksT (mkT ((Tr.k (anyT (cutC p0) 0))) ((Tr.s (anyT (cutC p0) 0))) ((Tr.n (anyT (cutC p0) 0))) ((Tr.xs (anyT (cutC p0) 0))) ((treeDs (Tr.ks (anyT (cutC p0) 0))))))))) then
  some ([.one ((.bool (false == true)), false)], [])
  else
  some ([.one ((.bool false), false)], []))
  else
  none)
  else
  (bif (!(false == true)) then
  (bif toksB (([] : List D)) && toksB ((tokDs (toksT (mkT ((Tr.k (anyT (cutC p0) 0))) ((Tr.s (anyT (cutC p0) 0))) ((Tr.n (anyT (cutC p0) 0))) ((Tr.xs (anyT (cutC p0) 0))) ((treeDs (Tr.ks (anyT (cutC p0) 0)))))))) && decide (((([] : List D)) : List D).length < 9223372036854775808) && decide ((((tokDs (toksT (mkT ((Tr.k (anyT (cutC p0) 0))) ((Tr.s (anyT (cutC p0) 0))) ((Tr.n (anyT (cutC p0) 0))) ((Tr.xs (anyT (cutC p0) 0))) ((treeDs (Tr.ks (anyT (cutC p0) 0)))))))) : List D).length < 9223372036854775808) then
  (bif (toksEq (([] : List D)) ((tokDs (toksT (mkT ((Tr.k (anyT (cutC p0) 0))) ((Tr.s (anyT (cutC p0) 0))) ((Tr.n (anyT (cutC p0) 0))) ((Tr.xs (anyT (cutC p0) 0))) ((treeDs (Tr.ks (anyT (cutC p0) 0))))))))) then
  some ([.one ((.bool (false == true)), false)], [])
  else
  some ([.one ((.bool false), false)], []))
  else
  none)
  else
  (bif toksB (([] : List D)) && toksB ((tokDs (toksT (mkT ((Tr.k (anyT (cutC p0) 0))) ((Tr.s (anyT (cutC p0) 0))) ((Tr.n (anyT (cutC p0) 0))) ((Tr.xs (anyT (cutC p0) 0))) ((treeDs (Tr.ks (anyT (cutC p0) 0)))))))) && decide (((([] : List D)) : List D).length < 9223372036854775808) && decide ((((tokDs (toksT (mkT ((Tr.k (anyT (cutC p0) 0))) ((Tr.s (anyT (cutC p0) 0))) ((Tr.n (anyT (cutC p0) 0))) ((Tr.xs (anyT (cutC p0) 0))) ((treeDs (Tr.ks (anyT (cutC p0) 0)))))))) : List D).length < 9223372036854775808) then
  (bif (toksEq (([] : List D)) ((tokDs (toksT (mkT ((Tr.k (anyT (cutC p0) 0))) ((Tr.s (anyT (cutC p0) 0))) ((Tr.n (anyT (cutC p0) 0))) ((Tr.xs (anyT (cutC p0) 0))) ((treeDs (Tr.ks (anyT (cutC p0) 0))))))))) then
  some ([.one ((.bool (false == true)), false)], [])
  else
  some ([.one ((.bool false), false)], []))
  else
  none)))
  else
  none)
  else
  (bif toksB (([] : List D)) && toksB (([] : List D)) && decide (((([] : List D)) : List D).length < 9223372036854775808) && decide (((([] : List D)) : List D).length < 9223372036854775808) then
  (bif (!(toksEq (([] : List D)) (([] : List D)))) then
  (bif toksB (([] : List D)) && toksB (([] : List D)) && decide (((([] : List D)) : List D).length < 9223372036854775808) && decide (((([] : List D)) : List D).length < 9223372036854775808) then
  (bif (toksEq (([] : List D)) (([] : List D))) then
  some ([.one ((.bool (false == false)), false)], [])
  else
  some ([.one ((.bool false), false)], []))
  else
  none)
  else
  (bif (!(false == false)) then
  (bif toksB (([] : List D)) && toksB (([] : List D)) && decide (((([] : List D)) : List D).length < 9223372036854775808) && decide (((([] : List D)) : List D).length < 9223372036854775808) then
  (bif (toksEq (([] : List D)) (([] : List D))) then
  some ([.one ((.bool (false == false)), false)], [])
  else
  some ([.one ((.bool false), false)], []))
  else
  none)
  else
  (bif toksB (([] : List D)) && toksB (([] : List D)) && decide (((([] : List D)) : List D).length < 9223372036854775808) && decide (((([] : List D)) : List D).length < 9223372036854775808) then
  (bif (toksEq (([] : List D)) (([] : List D))) then
  some ([.one ((.bool (false == false)), false)], [])
  else
  some ([.one ((.bool false), false)], []))
  else
  none)))
  else
  none))
  else
  none))
  else
  none)
  else
  none)) := by kernel_rfl
end laws_FnTreeTokens
theorem laws_FnTreeTokens.ok_of (hX : ∀ E ∈ laws_FnTreeTokens.X, CallSpec Try.prog E) (h : ∀ (bs : List Int), (bytesB bs) = true → ∃ fuel, runF Try.prog laws_FnTreeTokens.X laws_FnTreeTokens.I 0 fuel 6 Try.f6 [.d (.ints .u8 bs)] = some ([.one ((.bool true), false)], [])) : CallSpec Try.prog laws_FnTreeTokens.E :=
  callSpec_of (d := 0) hX (by kernel_rfl) laws_FnTreeTokens.I_ok (by kernel_rfl) (by kernel_rfl) (by kernel_rfl) (fun _ _ _ _ h => by dsimp only [laws_FnTreeTokens.E] at h; cases h) (fun xs hp => by
    dsimp only [laws_FnTreeTokens.E] at hp ⊢
    split at hp
    · exact h _ hp
    · cases hp)
theorem laws_FnTreeTokens.ok : CallSpec Try.prog laws_FnTreeTokens.E := laws_FnTreeTokens.ok_of (by simp [laws_FnTreeTokens.X, spec_DrawTreeTokens.ok, impl_TreeTokens.ok, spec_TreeTokens.ok, laws_equalTokens.ok, impl_ParseTokens.ok, laws_equalTree.ok, impl_ValidTokens.ok]) fun bs h => by
  generalize hT : anyT (cutC bs) 0 = T
  refine ⟨4, ?_⟩
  rw [laws_FnTreeTokens.e, h, hT, treesB_treeDs, mkT_treeDs, Tr.eta]
  by_cases hl : ((bs.length : Nat) : Int) > 1048576
  · rw [decide_eq_true hl]; rfl
  rw [decide_eq_false hl, cond_false, cond_true, cond_true, cond_true]
  have hnil : toksB ([] : List D) = true := toksB_tokDs []
  have hnn : toksEq ([] : List D) [] = true := toksEq_iff.2 rfl
  cases hv : validT 8 T && decide ((toksT T).length ≤ 40) with
  | false =>
    rw [cond_false, cond_false, hnil, hnn]
    rfl
  | true =>
    simp only [Bool.and_eq_true, decide_eq_true_eq] at hv
    obtain ⟨hv, h40⟩ := hv
    have h63 : decide ((toksT T).length < 9223372036854775808) = true := decide_eq_true (by omega)
    have hsm : smallT T = true := smT_valid 8 T hv
    rw [cond_true, cond_true, toksB_tokDs, toksEq_tok, decide_eq_true (p := toksT T = toksT T) rfl, tokDs_length, h63, Bool.and_self, Bool.and_self, cond_true, Bool.not_true, cond_false, beq_self_eq_true, Bool.not_true, cond_false, cond_true, parse_back hv h40, read_back hv h40, cond_true, treesB_treeDs, mkT_treeDs, Tr.eta, hsm, Tr.beq_self, decide_eq_true h40, allK_tokDs, toks_tokV 8 T hv]
    rfl

namespace laws_FnTreeTokensAround
noncomputable def E : Entry := ⟨7, true, false, fun | [.d (.ints .u8 bs)] => bytesB bs | _ => false, fun | [.d (.ints .u8 bs)] => ([.one ((.bool true), false)], []) | _ => ([], []), fun _ => [], false, fun _ => none, none⟩
end laws_FnTreeTokensAround
namespace laws_FnTreeTokensAround
noncomputable def X : List Entry := [spec_DrawTreeTokens.E, impl_TreeTokens.E, spec_TreeTokens.E, laws_equalTokens.E, impl_ParseTokens.E, laws_equalTree.E]
noncomputable def I : List Inl := [⟨7, Try.f7, ⟨[15, 18, 23, 62], [], [(3000062, [8])], [], [], [62]⟩⟩]
theorem I_ok : ∀ i ∈ I, Try.prog.funcs[i.f]? = some i.fn ∧ (i.fn.name == "runtime.NumGoroutine") = false := by
  intro i hi
  simp only [I, List.mem_cons, List.not_mem_nil, or_false] at hi
  subst hi
  exact ⟨by kernel_rfl, by kernel_rfl⟩
theorem e (fuel : Nat) (p0 : List Int) : runF Try.prog X I 0 fuel 7 Try.f7 [.d (.ints .u8 p0)] =
  (bif (decide ((((p0.length : Nat) : Int) : Int) > 1048576)) then
  some ([.one ((.bool true), false)], [])
  else
  (bif bytesB p0 then
  (bif treesB ((treeDs (Tr.ks (anyT (cutC p0) 0)))) then
  (bif validT 8 (mkT ((Tr.k (anyT (cutC p0) 0))) ((Tr.s (anyT (cutC p0) 0))) ((Tr.n (anyT (cutC p0) 0))) ((Tr.xs (anyT (cutC p0) 0))) ((treeDs (Tr.ks (anyT (cutC p0) 0))))) && decide ((toksT (mkT ((Tr.k (anyT (cutC p0) 0))) ((Tr.s (anyT (cutC p0) 0))) ((Tr.n (anyT (cutC p0) 0))) ((Tr.xs (anyT (cutC p0) 0))) ((treeDs (Tr.ks (anyT (cutC p0) 0)))))).length ≤ 40) then
  (bif treesB ((treeDs (Tr.ks (anyT (cutC p0) 0)))) then
  (bif validT 8 (mkT ((Tr.k (anyT (cutC p0) 0))) ((Tr.s (anyT (cutC p0) 0))) ((Tr.n (anyT (cutC p0) 0))) ((Tr.xs (anyT (cutC p0) 0))) ((treeDs (Tr.ks (anyT (cutC p0) 0))))) && decide ((toksT (mkT ((Tr.k (anyT (cutC p0) 0))) ((Tr.s (anyT (cutC p0) 0))) ((Tr.n (anyT (cutC p0) 0))) ((Tr.xs (anyT (cutC p0) 0))) ((treeDs (Tr.ks (anyT (cutC p0) 0)))))).length ≤ 40) then
  (bif toksB ((tokDs (toksT (mkT ((Tr.k (anyT (cutC p0) 0))) ((Tr.s (anyT (cutC p0) 0))) ((Tr.n (anyT (cutC p0) 0))) ((Tr.xs (anyT (cutC p0) 0))) ((treeDs (Tr.ks (anyT (cutC p0) 0)))))))) && toksB ((tokDs (toksT (mkT ((Tr.k (anyT (cutC p0) 0))) ((Tr.s (anyT (cutC p0) 0))) ((Tr.n (anyT (cutC p0) 0))) ((Tr.xs (anyT (cutC p0) 0))) ((treeDs (Tr.ks (anyT (cutC p0) 0)))))))) && decide ((((tokDs (toksT (mkT ((Tr.k (anyT (cutC p0) 0))) ((Tr.s (anyT (cutC p0) 0))) ((Tr.n (anyT (cutC p0) 0))) ((Tr.xs (anyT (cutC p0) 0))) ((treeDs (Tr.ks (anyT (cutC p0) 0)))))))) : List D).length < 9223372036854775808) && decide ((((tokDs (toksT (mkT ((Tr.k (anyT (cutC p0) 0))) ((Tr.s (anyT (cutC p0) 0))) ((Tr.n (anyT (cutC p0) 0))) ((Tr.xs (anyT (cutC p0) 0))) ((treeDs (Tr.ks (anyT (cutC p0) 0)))))))) : List D).length < 9223372036854775808) then
  (bif (!(toksEq ((tokDs (toksT (mkT ((Tr.k (anyT (cutC p0) 0))) ((Tr.s (anyT (cutC p0) 0))) ((Tr.n (anyT (cutC p0) 0))) ((Tr.xs (anyT (cutC p0) 0))) ((treeDs (Tr.ks (anyT (cutC p0) 0)))))))) ((tokDs (toksT (mkT ((Tr.k (anyT (cutC p0) 0))) ((Tr.s (anyT (cutC p0) 0))) ((Tr.n (anyT (cutC p0) 0))) ((Tr.xs (anyT (cutC p0) 0))) ((treeDs (Tr.ks (anyT (cutC p0) 0)))))))))) then
  (bif toksB ((tokDs (toksT (mkT ((Tr.k (anyT (cutC p0) 0))) ((Tr.s (anyT (cutC p0) 0))) ((Tr.n (anyT (cutC p0) 0))) ((Tr.xs (anyT (cutC p0) 0))) ((treeDs (Tr.ks (anyT (cutC p0) 0)))))))) && toksB ((tokDs (toksT (mkT ((Tr.k (anyT (cutC p0) 0))) ((Tr.s (anyT (cutC p0) 0))) ((Tr.n (anyT (cutC p0) 0))) ((Tr.xs (anyT (cutC p0) 0))) ((treeDs (Tr.ks (anyT (cutC p0) 0)))))))) && decide ((((tokDs (toksT (mkT ((Tr.k (anyT (cutC p0) 0))) ((Tr.s (anyT (cutC p0) 0))) ((Tr.n (anyT (cutC p0) 0))) ((Tr.xs (anyT (cutC p0) 0))) ((treeDs (Tr.ks (anyT (cutC p0) 0)))))))) : List D).length < 9223372036854775808) && decide ((((tokDs (toksT (mkT ((Tr.k (anyT (cutC p0) 0))) ((Tr.s (anyT (cutC p0) 0))) ((Tr.n (anyT (cutC p0) 0))) ((Tr.xs (anyT (cutC p0) 0))) ((treeDs (Tr.ks (anyT (cutC p0) 0)))))))) : List D).length < 9223372036854775808) then
  (bif (toksEq ((tokDs (toksT (mkT ((Tr.k (anyT (cutC p0) 0))) ((Tr.s (anyT (cutC p0) 0))) ((Tr.n (anyT (cutC p0) 0))) ((Tr.xs (anyT (cutC p0) 0))) ((treeDs (Tr.ks (anyT (cutC p0) 0)))))))) ((tokDs (toksT (mkT ((Tr.k (anyT (cutC p0) 0))) ((Tr.s (anyT (cutC p0) 0))) ((Tr.n (anyT (cutC p0) 0))) ((Tr.xs (anyT (cutC p0) 0))) ((treeDs (Tr.ks (anyT (cutC p0) 0))))))))) then
  some ([.one ((.bool (true == true)), false)], [])
  else
  some ([.one ((.bool false), false)], []))
  else
  none)
  else
  (bif (!(true == true)) then
  (bif toksB ((tokDs (toksT (mkT ((Tr.k (anyT (cutC p0) 0))) ((Tr.s (anyT (cutC p0) 0))) ((Tr.n (anyT (cutC p0) 0))) ((Tr.xs (anyT (cutC p0) 0))) ((treeDs (Tr.ks (anyT (cutC p0) 0)))))))) && toksB ((tokDs (toksT (mkT ((Tr.k (anyT (cutC p0) 0))) ((Tr.s (anyT (cutC p0) 0))) ((Tr.n (anyT (cutC p0) 0))) ((Tr.xs (anyT (cutC p0) 0))) ((treeDs (Tr.ks (anyT (cutC p0) 0)))))))) && decide ((((tokDs (toksT (mkT ((Tr.k (anyT (cutC p0) 0))) ((Tr.s (anyT (cutC p0) 0))) ((Tr.n (anyT (cutC p0) 0))) ((Tr.xs (anyT (cutC p0) 0))) ((treeDs (Tr.ks (anyT (cutC p0) 0)))))))) : List D).length < 9223372036854775808) && decide ((((tokDs (toksT (mkT ((Tr.k (anyT (cutC p0) 0))) ((Tr.s (anyT (cutC p0) 0))) ((Tr.n (anyT (cutC p0) 0))) ((Tr.xs (anyT (cutC p0) 0))) ((treeDs (Tr.ks (anyT (cutC p0) 0)))))))) : List D).length < 9223372036854775808) then
  (bif (toksEq ((tokDs (toksT (mkT ((Tr.k (anyT (cutC p0) 0))) ((Tr.s (anyT (cutC p0) 0))) ((Tr.n (anyT (cutC p0) 0))) ((Tr.xs (anyT (cutC p0) 0))) ((treeDs (Tr.ks (anyT (cutC p0) 0)))))))) ((tokDs (toksT (mkT ((Tr.k (anyT (cutC p0) 0))) ((Tr.s (anyT (cutC p0) 0))) ((Tr.n (anyT (cutC p0) 0))) ((Tr.xs (anyT (cutC p0) 0))) ((treeDs (Tr.ks (anyT (cutC p0) 0))))))))) then
  some ([.one ((.bool (true == true)), false)], [])
  else
  some ([.one ((.bool false), false)], []))
  else
  none)
  else
  (bif (decide (((IntKind.wrap .i64 ((((tokDs (toksT (mkT ((Tr.k (anyT (cutC p0) 0))) ((Tr.s (anyT (cutC p0) 0))) ((Tr.n (anyT (cutC p0) 0))) ((Tr.xs (anyT (cutC p0) 0))) ((treeDs (Tr.ks (anyT (cutC p0) 0))))))).length : Nat) : Int) + 2)) : Int) > 40)) then
  (bif toksB ((tokDs (toksT (mkT ((Tr.k (anyT (cutC p0) 0))) ((Tr.s (anyT (cutC p0) 0))) ((Tr.n (anyT (cutC p0) 0))) ((Tr.xs (anyT (cutC p0) 0))) ((treeDs (Tr.ks (anyT (cutC p0) 0)))))))) && toksB ((tokDs (toksT (mkT ((Tr.k (anyT (cutC p0) 0))) ((Tr.s (anyT (cutC p0) 0))) ((Tr.n (anyT (cutC p0) 0))) ((Tr.xs (anyT (cutC p0) 0))) ((treeDs (Tr.ks (anyT (cutC p0) 0)))))))) && decide ((((tokDs (toksT (mkT ((Tr.k (anyT (cutC p0) 0))) ((Tr.s (anyT (cutC p0) 0))) ((Tr.n (anyT (cutC p0) 0))) ((Tr.xs (anyT (cutC p0) 0))) ((treeDs (Tr.ks (anyT (cutC p0) 0)))))))) : List D).length < 9223372036854775808) && decide ((((tokDs (toksT (mkT ((Tr.k (anyT (cutC p0) 0))) ((Tr.s (anyT (cutC p0) 0))) ((Tr.n (anyT (cutC p0) 0))) ((Tr.xs (anyT (cutC p0) 0))) ((treeDs (Tr.ks (anyT (cutC p0) 0)))))))) : List D).length < 9223372036854775808) then
  (bif (toksEq ((tokDs (toksT (mkT ((Tr.k (anyT (cutC p0) 0))) ((Tr.s (anyT (cutC p0) 0))) ((Tr.n (anyT (cutC p0) 0))) ((Tr.xs (anyT (cutC p0) 0))) ((treeDs (Tr.ks (anyT (cutC p0) 0)))))))) ((tokDs (toksT (mkT ((Tr.k (anyT (cutC p0) 0))) ((Tr.s (anyT (cutC p0) 0))) ((Tr.n (anyT (cutC p0) 0))) ((Tr.xs (anyT (cutC p0) 0))) ((treeDs (Tr.ks (anyT (cutC p0) 0))))))))) then
  some ([.one ((.bool (true == true)), false)], [])
  else
  some ([.one ((.bool false), false)], []))
  else
  none)
  else
  (bif okDs 2 ((tokDs (toksT (mkT ((Tr.k (anyT (cutC p0) 0))) ((Tr.s (anyT (cutC p0) 0))) ((Tr.n (anyT (cutC p0) 0))) ((Tr.xs (anyT (cutC p0) 0))) ((treeDs (Tr.ks (anyT (cutC p0) 0)))))))) then
  (bif fits (([(.agg [(.int .i64 2), (.int .i64 13)])] : List D).length + (tokDs (toksT (mkT ((Tr.k (anyT (cutC p0) 0))) ((Tr.s (anyT (cutC p0) 0))) ((Tr.n (anyT (cutC p0) 0))) ((Tr.xs (anyT (cutC p0) 0))) ((treeDs (Tr.ks (anyT (cutC p0) 0))))))).length) 16 then
  (bif okDs 2 (([(.agg [(.int .i64 2), (.int .i64 14)])] : List D)) then
  (bif fits ((([(.agg [(.int .i64 2), (.int .i64 13)])] : List D) ++ (tokDs (toksT (mkT ((Tr.k (anyT (cutC p0) 0))) ((Tr.s (anyT (cutC p0) 0))) ((Tr.n (anyT (cutC p0) 0))) ((Tr.xs (anyT (cutC p0) 0))) ((treeDs (Tr.ks (anyT (cutC p0) 0)))))))).length + ([(.agg [(.int .i64 2), (.int .i64 14)])] : List D).length) 16 then
  (bif toksB (((([(.agg [(.int .i64 2), (.int .i64 13)])] : List D) ++ (tokDs (toksT (mkT ((Tr.k (anyT (cutC p0) 0))) ((Tr.s (anyT (cutC p0) 0))) ((Tr.n (anyT (cutC p0) 0))) ((Tr.xs (anyT (cutC p0) 0))) ((treeDs (Tr.ks (anyT (cutC p0) 0)))))))) ++ ([(.agg [(.int .i64 2), (.int .i64 14)])] : List D))) && decide (((((([(.agg [(.int .i64 2), (.int .i64 13)])] : List D) ++ (tokDs (toksT (mkT ((Tr.k (anyT (cutC p0) 0))) ((Tr.s (anyT (cutC p0) 0))) ((Tr.n (anyT (cutC p0) 0))) ((Tr.xs (anyT (cutC p0) 0))) ((treeDs (Tr.ks (anyT (cutC p0) 0)))))))) ++ ([(.agg [(.int .i64 2), (.int .i64 14)])] : List D))) : List D).length < 9223372036854775808) then
  (bif parseB (revK (((([(.agg [(.int .i64 2), (.int .i64 13)])] : List D) ++ (tokDs (toksT (mkT ((Tr.k (anyT (cutC p0) 0))) ((Tr.s (anyT (cutC p0) 0))) ((Tr.n (anyT (cutC p0) 0))) ((Tr.xs (anyT (cutC p0) 0))) ((treeDs (Tr.ks (anyT (cutC p0) 0)))))))) ++ ([(.agg [(.int .i64 2), (.int .i64 14)])] : List D)))) then
  (bif treesB ((treeDs (Tr.ks (readE (revK (((([(.agg [(.int .i64 2), (.int .i64 13)])] : List D) ++ (tokDs (toksT (mkT ((Tr.k (anyT (cutC p0) 0))) ((Tr.s (anyT (cutC p0) 0))) ((Tr.n (anyT (cutC p0) 0))) ((Tr.xs (anyT (cutC p0) 0))) ((treeDs (Tr.ks (anyT (cutC p0) 0)))))))) ++ ([(.agg [(.int .i64 2), (.int .i64 14)])] : List D))))).1))) && treesB ((treeDs (Tr.ks (anyT (cutC p0) 0)))) && smallT (mkT ((Tr.k (readE (revK (((([(.agg [(.int .i64 2), (.int .i64 13)])] : List D) ++ (tokDs (toksT (mkT ((Tr.k (anyT (cutC p0) 0))) ((Tr.s (anyT (cutC p0) 0))) ((Tr.n (anyT (cutC p0) 0))) ((Tr.xs (anyT (cutC p0) 0))) ((treeDs (Tr.ks (anyT (cutC p0) 0)))))))) ++ ([(.agg [(.int .i64 2), (.int .i64 14)])] : List D))))).1)) ((Tr.s (readE (revK (((([(.agg [(.int .i64 2), (.int .i64 13)])] : List D) ++ (tokDs (toksT (mkT ((Tr.k (anyT (cutC p0) 0))) ((Tr.s (anyT (cutC p0) 0))) ((Tr.n (anyT (cutC p0) 0))) ((Tr.xs (anyT (cutC p0) 0))) ((treeDs (Tr.ks (anyT (cutC p0) 0)))))))) ++ ([(.agg [(.int .i64 2), (.int .i64 14)])] : List D))))).1)) ((Tr.n (readE (revK (((([(.agg [(.int .i64 2), (.int .i64 13)])] : List D) ++ (tokDs (toksT (mkT ((Tr.k (anyT (cutC p0) 0))) ((Tr.s (anyT (cutC p0) 0))) ((Tr.n (anyT (cutC p0) 0))) ((Tr.xs (anyT (cutC p0) 0))) ((treeDs (Tr.ks (anyT (cutC p0) 0)))))))) ++ ([(.agg [(.int .i64 2), (.int .i64 14)])] : List D))))).1)) ((Tr.xs (readE (revK (((([(.agg [(.int .i64 2), (.int .i64 13)])] : List D) ++ (tokDs (toksT (mkT ((Tr.k (anyT (cutC p0) 0))) ((Tr.s (anyT (cutC p0) 0))) ((Tr.n (anyT (cutC p0) 0))) ((Tr.xs (anyT (cutC p0) 0))) ((treeDs (Tr.ks (anyT (cutC p0) 0)))))))) ++ ([(.agg [(.int .i64 2), (.int .i64 14)])] : List D))))).1)) ((treeDs (Tr.ks (readE (revK (((([(.agg [(.int .i64 2), (.int .i64 13)])] : List D) ++ (tokDs (toksT (mkT ((Tr.k (anyT (cutC p0) 0))) ((Tr.s (anyT (cutC p0) 0))) ((Tr.n (anyT (cutC p0) 0))) ((Tr.xs (anyT (cutC p0) 0))) ((treeDs (Tr.ks (anyT (cutC p0) 0)))))))) ++ ([(.agg [(.int .i64 2), (.int .i64 14)])] : List D))))).1)))) && smallT (mkT ((Tr.k (anyT (cutC p0) 0))) ((Tr.s (anyT (cutC p0) 0))) ((Tr.n (anyT (cutC p0) 0))) ((Tr.xs (anyT (cutC p0) 0))) ((treeDs (Tr.ks (anyT (cutC p0) 0))))) then
  some ([.one ((.bool (Tr.beq (mkT ((Tr.k (readE (revK (((([(.agg [(.int .i64 2), (.int .i64 13)])] : List D) ++ (tokDs (toksT (mkT ((Tr.k (anyT (cutC p0) 0))) ((Tr.s (anyT (cutC p0) 0))) ((Tr.n (anyT (cutC p0) 0))) ((Tr.xs (anyT (cutC p0) 0))) ((treeDs (Tr.ks (anyT (cutC p0) 0)))))))) ++ ([(.agg [(.int .i64 2), (.int .i64 14)])] : List D))))).1)) ((Tr.s (readE (revK (((([(.agg [(.int .i64 2), (.int .i64 13)])] : List D) ++ (tokDs (toksT (mkT ((Tr.k (anyT (cutC p0) 0))) ((Tr.s (anyT (cutC p0) 0))) ((Tr.n (anyT (cutC p0) 0))) ((Tr.xs (anyT (cutC p0) 0))) ((treeDs (Tr.ks (anyT (cutC p0) 0)))))))) ++ ([(.agg [(.int .i64 2), (.int .i64 14)])] : List D))))).1)) ((Tr.n (readE (revK (((([(.agg [(.int .i64 2), (.int .i64 13)])] : List D) ++ (tokDs (toksT (mkT ((Tr.k (anyT (cutC p0) 0))) ((Tr.s (anyT (cutC p0) 0))) ((Tr.n (anyT (cutC p0) 0))) ((Tr.xs (anyT (cutC p0) 0))) ((treeDs (Tr.ks (anyT (cutC p0) 0)))))))) ++ ([(.agg [(.int .i64 2), (.int .i64 14)])] : List D))))).1)) ((Tr.xs (readE (revK (((([(.agg [(.int .i64 2), (.int .i64 13)])] : List D) ++ (tokDs (toksT (mkT ((Tr.k (anyT (cutC p0) 0))) ((Tr.s (anyT (cutC p0) 0))) ((Tr.n (anyT (cutC p0) 0))) ((Tr.xs (anyT (cutC p0) 0))) ((treeDs (Tr.ks (anyT (cutC p0) 0)))))))) ++ ([(.agg [(.int .i64 2), (.int .i64 14)])] : List D))))).1)) ((treeDs (Tr.ks (readE (revK (((([(.agg [(.int .i64 2), (.int .i64 13)])] : List D) ++ (tokDs (toksT (mkT ((Tr.k (anyT (cutC p0) 0))) ((Tr.s (anyT (cutC p0) 0))) ((Tr.n (anyT (cutC p0) 0))) ((Tr.xs (anyT (cutC p0) 0))) ((treeDs (Tr.ks (anyT (cutC p0) 0)))))))) ++ ([(.agg [(.int .i64 2), (.int .i64 14)])] : List D))))).1)))) (mkT ((Tr.k (anyT (cutC p0) 0))) ((Tr.s (anyT (cutC p0) 0))) ((Tr.n (anyT (cutC p0) 0))) ((Tr.xs (anyT (cutC p0) 0))) ((treeDs (Tr.ks (anyT (cutC p0) 0))))))), false)], [])
  else
  none)
  else
  some ([.one ((.bool false), false)], []))
  else
  none)
  else
  none)
  else
  none)
  else
  none)
  else
  none))))
  else
  none)
  else
  (bif toksB ((tokDs (toksT (mkT ((Tr.k (anyT (cutC p0) 0))) ((Tr.s (anyT (cutC p0) 0))) ((Tr.n (anyT (cutC p0) 0))) ((Tr.xs (anyT (cutC p0) 0))) ((treeDs (Tr.ks (anyT (cutC p0) 0)))))))) && toksB (([] : List D)) && decide ((((tokDs (toksT (mkT ((Tr.k (anyT (cutC p0) 0))) ((Tr.s (anyT (cutC p0) 0))) ((Tr.n (anyT (cutC p0) 0))) ((Tr.xs (anyT (cutC p0) 0))) ((treeDs (Tr.ks (anyT (cutC p0) 0)))))))) : List D).length < 9223372036854775808) && decide (((([] : List D)) : List D).length < 9223372036854775808) then
  (bif (!(toksEq ((tokDs (toksT (mkT ((Tr.k (anyT (cutC p0) 0))) ((Tr.s (anyT (cutC p0) 0))) ((Tr.n (anyT (cutC p0) 0))) ((Tr.xs (anyT (cutC p0) 0))) ((treeDs (Tr.ks (anyT (cutC p0) 0)))))))) (([] : List D)))) then
  (bif toksB ((tokDs (toksT (mkT ((Tr.k (anyT (cutC p0) 0))) ((Tr.s (anyT (cutC p0) 0))) ((Tr.n (anyT (cutC p0) 0))) ((Tr.xs (anyT (cutC p0) 0))) ((treeDs (Tr.ks (anyT (cutC p0) 0)))))))) && toksB (([] : List D)) && decide ((((tokDs (toksT (mkT ((Tr.k (anyT (cutC p0) 0))) ((Tr.s (anyT (cutC p0) 0))) ((Tr.n (anyT (cutC p0) 0))) ((Tr.xs (anyT (cutC p0) 0))) ((treeDs (Tr.ks (anyT (cutC p0) 0)))))))) : List D).length < 9223372036854775808) && decide (((([] : List D)) : List D).length < 9223372036854775808) then
  (bif (toksEq ((tokDs (toksT (mkT ((Tr.k (anyT (cutC p0) 0))) ((Tr.s (anyT (cutC p0) 0))) ((Tr.n (anyT (cutC p0) 0))) ((Tr.xs (anyT (cutC p0) 0))) ((treeDs (Tr.ks (anyT (cutC p0) 0)))))))) (([] : List D))) then
  some ([.one ((.bool (true == false)), false)], [])
  else
  some ([.one ((.bool false), false)], []))
  else
  none)
  else
  (bif (!(true == false)) then
  (bif toksB ((tokDs (toksT (mkT ((Tr.k (anyT (cutC p0) 0))) ((Tr.s (anyT (cutC p0) 0))) ((Tr.n (anyT (cutC p0) 0))) ((Tr.xs (anyT (cutC p0) 0))) ((treeDs (Tr.ks (anyT (cutC p0) 0)))))))) && toksB (([] : List D)) && decide ((((tokDs (toksT (mkT ((Tr.k (anyT (cutC p0) 0))) ((Tr.s (anyT (cutC p0) 0))) ((Tr.n (anyT (cutC p0) 0))) ((Tr.xs (anyT (cutC p0) 0))) ((treeDs (Tr.ks (anyT (cutC p0) 0)))))))) : List D).length < 9223372036854775808) && decide (((([] : List D)) : List D).length < 9223372036854775808) then
  (bif (toksEq ((tokDs (toksT (mkT ((Tr.k (anyT (cutC p0) 0))) ((Tr.s (anyT (cutC p0) 0))) ((Tr.n (anyT (cutC p0) 0))) ((Tr.xs (anyT (cutC p0) 0))) ((treeDs (Tr.ks (anyT (cutC p0) 0)))))))) (([] : List D))) then
  some ([.one ((.bool (true == false)), false)], [])
  else
  some ([.one ((.bool false), false)], []))
  else
  none)
  else
  (bif (decide (((IntKind.wrap .i64 ((((tokDs (toksT (mkT ((Tr.k (anyT (cutC p0) 0))) ((Tr.s (anyT (cutC p0) 0))) ((Tr.n (anyT (cutC p0) 0))) ((Tr.xs (anyT (cutC p0) 0))) ((treeDs (Tr.ks (anyT (cutC p0) 0))))))).length : Nat) : Int) + 2)) : Int) > 40)) then
  (bif toksB ((tokDs (toksT (mkT ((Tr.k (anyT (cutC p0) 0))) ((Tr.s (anyT (cutC p0) 0))) ((Tr.n (anyT (cutC p0) 0))) ((Tr.xs (anyT (cutC p0) 0))) ((treeDs (Tr.ks (anyT (cutC p0) 0)))))))) && toksB (([] : List D)) && decide ((((tokDs (toksT (mkT ((Tr.k (anyT (cutC p0) 0))) ((Tr.s (anyT (cutC p0) 0))) ((Tr.n (anyT (cutC p0) 0))) ((Tr.xs (anyT (cutC p0) 0))) ((treeDs (Tr.ks (anyT (cutC p0) 0)))))))) : List D).length < 9223372036854775808) && decide (((([] : List D)) : List D).length < 9223372036854775808) then
  (bif (toksEq ((tokDs (toksT (mkT ((Tr.k (anyT (cutC p0) 0))) ((Tr.s (anyT (cutC p0) 0))) ((Tr.n (anyT (cutC p0) 0))) ((Tr.xs (anyT (cutC p0) 0))) ((treeDs (Tr.ks (anyT (cutC p0) 0)))))))) (([] : List D))) then
  some ([.one ((.bool (true == false)), false)], [])
  else
  some ([.one ((.bool false), false)], []))
  else
  none)
  else
  (bif okDs 2 ((tokDs (toksT (mkT ((Tr.k (anyT (cutC p0) 0))) ((Tr.s (anyT (cutC p0) 0))) ((Tr.n (anyT (cutC p0) 0))) ((Tr.xs (anyT (cutC p0) 0))) ((treeDs (Tr.ks (anyT (cutC p0) 0)))))))) then
  (bif fits (([(.agg [(.int .i64 2), (.int .i64 13)])] : List D).length + (tokDs (toksT (mkT ((Tr.k (anyT (cutC p0) 0))) ((Tr.s (anyT (cutC p0) 0))) ((Tr.n (anyT (cutC p0) 0))) ((Tr.xs (anyT (cutC p0) 0))) ((treeDs (Tr.ks (anyT (cutC p0) 0))))))).length) 16 then
  (bif okDs 2 (([(.agg [(.int .i64 2), (.int .i64 14)])] : List D)) then
  (bif fits ((([(.agg [(.int .i64 2), (.int .i64 13)])] : List D) ++ (tokDs (toksT (mkT ((Tr.k (anyT (cutC p0) 0))) ((Tr.s (anyT (cutC p0) 0))) ((Tr.n (anyT (cutC p0) 0))) ((Tr.xs (anyT (cutC p0) 0))) ((treeDs (Tr.ks (anyT (cutC p0) 0)))))))).length + ([(.agg [(.int .i64 2), (.int .i64 14)])] : List D).length) 16 then
  (bif toksB (((([(.agg [(.int .i64 2), (.int .i64 13)])] : List D) ++ (tokDs (toksT (mkT ((Tr.k (anyT (cutC p0) 0))) ((Tr.s (anyT (cutC p0) 0))) ((Tr.n (anyT (cutC p0) 0))) ((Tr.xs (anyT (cutC p0) 0))) ((treeDs (Tr.ks (anyT (cutC p0) 0)))))))) ++ ([(.agg [(.int .i64 2), (.int .i64 14)])] : List D))) && decide (((((([(.agg [(.int .i64 2), (.int .i64 13)])] : List D) ++ (tokDs (toksT (mkT ((Tr.k (anyT (cutC p0) 0))) ((Tr.s (anyT (cutC p0) 0))) ((Tr.n (anyT (cutC p0) 0))) ((Tr.xs (anyT (cutC p0) 0))) ((treeDs (Tr.ks (anyT (cutC p0) 0)))))))) ++ ([(.agg [(.int .i64 2), (.int .i64 14)])] : List D))) : List D).length < 9223372036854775808) then
  (bif parseB (revK (((([(.agg [(.int .i64 2), (.int .i64 13)])] : List D) ++ (tokDs (toksT (mkT ((Tr.k (anyT (cutC p0) 0))) ((Tr.s (anyT (cutC p0) 0))) ((Tr.n (anyT (cutC p0) 0))) ((Tr.xs (anyT (cutC p0) 0))) ((treeDs (Tr.ks (anyT (cutC p0) 0)))))))) ++ ([(.agg [(.int .i64 2), (.int .i64 14)])] : List D)))) then
  (bif treesB ((treeDs (Tr.ks (readE (revK (((([(.agg [(.int .i64 2), (.int .i64 13)])] : List D) ++ (tokDs (toksT (mkT ((Tr.k (anyT (cutC p0) 0))) ((Tr.s (anyT (cutC p0) 0))) ((Tr.n (anyT (cutC p0) 0))) ((Tr.xs (anyT (cutC p0) 0))) ((treeDs (Tr.ks (anyT (cutC p0) 0)))))))) ++ ([(.agg [(.int .i64 2), (.int .i64 14)])] : List D))))).1))) && treesB ((treeDs (Tr.ks (anyT (cutC p0) 0)))) && smallT (mkT ((Tr.k (readE (revK (((([(.agg [(.int .i64 2), (.int .i64 13)])] : List D) ++ (tokDs (toksT (mkT ((Tr.k (anyT (cutC p0) 0))) ((Tr.s (anyT (cutC p0) 0))) ((Tr.n (anyT (cutC p0) 0))) ((Tr.xs (anyT (cutC p0) 0))) ((treeDs (Tr.ks (anyT (cutC p0) 0)))))))) ++ ([(.agg [(.int .i64 2), (.int .i64 14)])] : List D))))).1)) ((Tr.s (readE (revK (((([(.agg [(.int .i64 2), (.int .i64 13)])] : List D) ++ (tokDs (toksT (mkT ((Tr.k (anyT (cutC p0) 0))) ((Tr.s (anyT (cutC p0) 0))) ((Tr.n (anyT (cutC p0) 0))) ((Tr.xs (anyT (cutC p0) 0))) ((treeDs (Tr.ks (anyT (cutC p0) 0)))))))) ++ ([(.agg [(.int .i64 2), (.int .i64 14)])] : List D))))).1)) ((Tr.n (readE (revK (((([(.agg [(.int .i64 2), (.int .i64 13)])] : List D) ++ (tokDs (toksT (mkT ((Tr.k (anyT (cutC p0) 0))) ((Tr.s (anyT (cutC p0) 0))) ((Tr.n (anyT (cutC p0) 0))) ((Tr.xs (anyT (cutC p0) 0))) ((treeDs (Tr.ks (anyT (cutC p0) 0)))))))) ++ ([(.agg [(.int .i64 2), (.int .i64 14)])] : List D))))).1)) ((Tr.xs (readE (revK (((([(.agg [(.int .i64 2), (.int .i64 13)])] : List D) ++ (tokDs (toksT (mkT ((Tr.k (anyT (cutC p0) 0))) ((Tr.s (anyT (cutC p0) 0))) ((Tr.n (anyT (cutC p0) 0))) ((Tr.xs (anyT (cutC p0) 0))) ((treeDs (Tr.ks (anyT (cutC p0) 0)))))))) ++ ([(.agg [(.int .i64 2), (.int .i64 14)])] : List D))))).1)) ((treeDs (Tr.ks (readE (revK (((([(.agg [(.int .i64 2), (.int .i64 13)])] : List D) ++ (tokDs (toksT (mkT ((Tr.k (anyT (cutC p0) 0))) ((Tr.s (anyT (cutC p0) 0))) ((Tr.n (anyT (cutC p0) 0))) ((Tr.xs (anyT (cutC p0) 0))) ((treeDs (Tr.ks (anyT (cutC p0) 0)))))))) ++ ([(.agg [(.int .i64 2), (.int .i64 14)])] : List D))))).1)))) && smallT (mkT ((Tr.k (anyT (cutC p0) 0))) ((Tr.s (anyT (cutC p0) 0))) ((Tr.n (anyT (cutC p0) 0))) ((Tr.xs (anyT (cutC p0) 0))) ((treeDs (Tr.ks (anyT (cutC p0) 0))))) then
  some ([.one ((.bool (Tr.beq (mkT ((Tr.k (readE (revK (((([(.agg [(.int .i64 2), (.int .i64 13)])] : List D) ++ (tokDs (toksT (mkT ((Tr.k (anyT (cutC p0) 0))) ((Tr.s (anyT (cutC p0) 0))) ((Tr.n (anyT (cutC p0) 0))) ((Tr.xs (anyT (cutC p0) 0))) ((treeDs (Tr.ks (anyT (cutC p0) 0)))))))) ++ ([(.agg [(.int .i64 2), (.int .i64 14)])] : List D))))).1)) ((Tr.s (readE (revK (((([(.agg [(.int .i64 2), (.int .i64 13)])] : List D) ++ (tokDs (toksT (mkT ((Tr.k (anyT (cutC p0) 0))) ((Tr.s (anyT (cutC p0) 0))) ((Tr.n (anyT (cutC p0) 0))) ((Tr.xs (anyT (cutC p0) 0))) ((treeDs (Tr.ks (anyT (cutC p0) 0)))))))) ++ ([(.agg [(.int .i64 2), (.int .i64 14)])] : List D))))).1)) ((Tr.n (readE (revK (((([(.agg [(.int .i64 2), (.int .i64 13)])] : List D) ++ (tokDs (toksT (mkT ((Tr.k (anyT (cutC p0) 0))) ((Tr.s (anyT (cutC p0) 0))) ((Tr.n (anyT (cutC p0) 0))) ((Tr.xs (anyT (cutC p0) 0))) ((treeDs (Tr.ks (anyT (cutC p0) 0)))))))) ++ ([(.agg [(.int .i64 2), (.int .i64 14)])] : List D))))).1)) ((Tr.xs (readE (revK (((([(.agg [(.int .i64 2), (.int .i64 13)])] : List D) ++ (tokDs (toksT (mkT ((Tr.k (anyT (cutC p0) 0))) ((Tr.s (anyT (cutC p0) 0))) ((Tr.n (anyT (cutC p0) 0))) ((Tr.xs (anyT (cutC p0) 0))) ((treeDs (Tr.ks (anyT (cutC p0) 0)))))))) ++ ([(.agg [(.int .i64 2), (.int .i64 14)])] : List D))))).1)) ((treeDs (Tr.ks (readE (revK (((([(.agg [(.int .i64 2), (.int .i64 13)])] : List D) ++ (tokDs (toksT (mkT ((Tr.k (anyT (cutC p0) 0))) ((Tr.s (anyT (cutC p0) 0))) ((Tr.n (anyT (cutC p0) 0))) ((Tr.xs (anyT (cutC p0) 0))) ((treeDs (Tr.ks (anyT (cutC p0) 0)))))))) ++ ([(.agg [(.int .i64 2), (.int .i64 14)])] : List D))))).1)))) (mkT ((Tr.k (anyT (cutC p0) 0))) ((Tr.s (anyT (cutC p0) 0))) ((Tr.n (anyT (cutC p0) 0))) ((Tr.xs (anyT (cutC p0) 0))) ((treeDs (Tr.ks (anyT (cutC p0) 0))))))), false)], [])
  else
  none)
  else
  some ([.one ((.bool false), false)], []))
  else
  none)
  else
  none)
  else
  none)
  else
  none)
  else
  none))))
  else
  none))
  else
  none)
  else
  (bif treesB ((treeDs (Tr.ks (anyT (cutC p0) 0)))) then
  (bif validT 8 (mkT ((Tr.k (anyT (cutC p0) 0))) ((Tr.s (anyT (cutC p0) 0))) ((Tr.n (anyT (cutC p0) 0))) ((Tr.xs (anyT (cutC p0) 0))) ((treeDs (Tr.ks (anyT (cutC p0) 0))))) && decide ((toksT (mkT ((Tr.k (anyT (cutC p0) 0))) ((Tr.s (anyT (cutC p0) 0))) ((Tr.n (anyT (cutC p0) 0))) ((Tr.xs (anyT (cutC p0) 0))) ((treeDs (Tr.ks (anyT (cutC p0) 0)))))).length ≤ 40) then
  (bif toksB (([] : List D)) && toksB ((tokDs (toksT (mkT ((Tr.k (anyT (cutC p0) 0))) ((Tr.s (anyT (cutC p0) 0))) ((Tr.n (anyT (cutC p0) 0))) ((Tr.xs (anyT (cutC p0) 0))) ((treeDs (Tr.ks (anyT (cutC p0) 0)))))))) && decide (((([] : List D)) : List D).length < 9223372036854775808) && decide ((((tokDs (toksT (mkT ((Tr.k (anyT (cutC p0) 0))) ((Tr.s (anyT (cutC p0) 0))) ((Tr.n (anyT (cutC p0) 0))) ((Tr.xs (anyT (cutC p0) 0))) ((treeDs (Tr.ks (anyT (cutC p0) 0)))))))) : List D).length < 9223372036854775808) then
  (bif (!(toksEq (([] : List D)) ((tokDs (toksT (mkT ((Tr.k (anyT (cutC p0) 0))) ((Tr.s (anyT (cutC p0) 0))) ((Tr.n (anyT (cutC p0) 0))) ((Tr.xs (anyT (cutC p0) 0))) ((treeDs (Tr.ks (anyT (cutC p0) 0)))))))))) then
  (bif toksB (([] : List D)) && toksB ((tokDs (toksT (mkT ((Tr.k (anyT (cutC p0) 0))) ((Tr.s (anyT (cutC p0) 0))) ((Tr.n (anyT (cutC p0) 0))) ((Tr.xs (anyT (cutC p0) 0))) ((treeDs (Tr.ks (anyT (cutC p0) 0)))))))) && decide (((([] : List D)) : List D).length < 9223372036854775808) && decide ((((tokDs (toksT (mkT ((Tr.k (anyT (cutC p0) 0))) ((Tr.s (anyT (cutC p0) 0))) ((Tr.n (anyT (cutC p0) 0))) ((Tr.xs (anyT (cutC p0) 0))) ((treeDs (Tr.ks (anyT (cutC p0) 0)))))))) : List D).length < 9223372036854775808) then
  (bif (toksEq (([] : List D)) ((tokDs (toksT (mkT ((Tr.k (anyT (cutC p0) 0))) ((Tr.s (anyT (cutC p0) 0))) ((Tr.n (anyT (cutC p0) 0))) ((Tr.xs (anyT (cutC p0) 0))) ((treeDs (Tr.ks (anyT (cutC p0) 0))))))))) then
  some ([.one ((.bool (false == true)), false)], [])
  else
  some ([.one ((.bool false), false)], []))
  else
  none)
  else
  (bif (!(false == true)) then
  (bif toksB (([] : List D)) && toksB ((tokDs (toksT (mkT ((Tr.k (anyT (cutC p0) 0))) ((Tr.s (anyT (cutC p0) 0))) ((Tr.n (anyT (cutC p0) 0))) ((Tr.xs (anyT (cutC p0) 0))) ((treeDs (Tr.ks (anyT (cutC p0) 0)))))))) && decide (((([] : List D)) : List D).length < 9223372036854775808) && decide ((((tokDs (toksT (mkT ((Tr.k (anyT (cutC p0) 0))) ((Tr.s (anyT (cutC p0) 0))) ((Tr.n (anyT (cutC p0) 0))) ((Tr.xs (anyT (cutC p0) 0))) ((treeDs (Tr.ks (anyT (cutC p0) 0)))))))) : List D).length < 9223372036854775808) then
  (bif (toksEq (([] : List D)) ((tokDs (toksT (mkT ((Tr.k (anyT (cutC p0) 0))) ((Tr.s (anyT (cutC p0) 0))) ((Tr.n (anyT (cutC p0) 0))) ((Tr.xs (anyT (cutC p0) 0))) ((treeDs (Tr.ks (anyT (cutC p0) 0))))))))) then
  some ([.one ((.bool (false == true)), false)], [])
  else
  some ([.one ((.bool false), false)], []))
  else
  none)
  else
  (bif toksB (([] : List D)) && toksB ((tokDs (toksT (mkT ((Tr.k (anyT (cutC p0) 0))) ((Tr.s (anyT (cutC p0) 0))) ((Tr.n (anyT (cutC p0) 0))) ((Tr.xs (anyT (cutC p0) 0))) ((treeDs (Tr.ks (anyT (cutC p0) 0)))))))) && decide (((([] : List D)) : List D).length < 9223372036854775808) && decide ((((tokDs (toksT (mkT ((Tr.k (anyT (cutC p0) 0))) ((Tr.s (anyT (cutC p0) 0))) ((Tr.n (anyT (cutC p0) 0))) ((Tr.xs (anyT (cutC p0) 0))) ((treeDs (Tr.ks (anyT (cutC p0) 0)))))))) : List D).length < 9223372036854775808) then
  (bif (toksEq (([] : List D)) ((tokDs (toksT (mkT ((Tr.k (anyT (cutC p0) 0))) ((Tr.s (anyT (cutC p0) 0))) ((Tr.n (anyT (cutC p0) 0))) ((Tr.xs (anyT (cutC p0) 0))) ((treeDs (Tr.ks (anyT (cutC p0) 0))))))))) then
  some ([.one ((.bool (false == true)), false)], [])
  else
  some ([.one ((.bool false), false)], []))
  else
  none)))
  else
  none)
  else
  (bif toksB (([] : List D)) && toksB (([] : List D)) && decide (((([] : List D)) : List D).length < 9223372036854775808) && decide (((([] : List D)) : List D).length < 9223372036854775808) then
  (bif (!(toksEq (([] : List D)) (([] : List D)))) then
  (bif toksB (([] : List D)) && toksB (([] : List D)) && decide (((([] : List D)) : List D).length < 9223372036854775808) && decide (((([] : List D)) : List D).length < 9223372036854775808) then
  (bif (toksEq (([] : List D)) (([] : List D))) then
  some ([.one ((.bool (false == false)), false)], [])
  else
  some ([.one ((.bool false), false)], []))
  else
  none)
  else
  (bif (!(false == false)) then
  (bif toksB (([] : List D)) && toksB (([] : List D)) && decide (((([] : List D)) : List D).length < 9223372036854775808) && decide (((([] : List D)) : List D).length < 9223372036854775808) then
  (bif (toksEq (([] : List D)) (([] : List D))) then
  some ([.one ((.bool (false == false)), false)], [])
  else
  some ([.one ((.bool false), false)], []))
  else
  none)
  else
  (bif toksB (([] : List D)) && toksB (([] : List D)) && decide (((([] : List D)) : List D).length < 9223372036854775808) && decide (((([] : List D)) : List D).length < 9223372036854775808) then
  (bif (toksEq (([] : List D)) (([] : List D))) then
  some ([.one ((.bool (false == false)), false)], [])
  else
  some ([.one ((.bool false), false)], []))
  else
  none)))
  else
  none))
  else
  none))
  else
  none)
  else
  none)) := by kernel_rfl
end laws_FnTreeTokensAround
theorem laws_FnTreeTokensAround.ok_of (hX : ∀ E ∈ laws_FnTreeTokensAround.X, CallSpec Try.prog E) (h : ∀ (bs : List Int), (bytesB bs) = true → ∃ fuel, runF Try.prog laws_FnTreeTokensAround.X laws_FnTreeTokensAround.I 0 fuel 7 Try.f7 [.d (.ints .u8 bs)] = some ([.one ((.bool true), false)], [])) : CallSpec Try.prog laws_FnTreeTokensAround.E :=
  callSpec_of (d := 0) hX (by kernel_rfl) laws_FnTreeTokensAround.I_ok (by kernel_rfl) (by kernel_rfl) (by kernel_rfl) (fun _ _ _ _ h => by dsimp only [laws_FnTreeTokensAround.E] at h; cases h) (fun xs hp => by
    dsimp only [laws_FnTreeTokensAround.E] at hp ⊢
    split at hp
    · exact h _ hp
    · cases hp)
theorem laws_FnTreeTokensAround.ok : CallSpec Try.prog laws_FnTreeTokensAround.E := laws_FnTreeTokensAround.ok_of (by simp [laws_FnTreeTokensAround.X, spec_DrawTreeTokens.ok, impl_TreeTokens.ok, spec_TreeTokens.ok, laws_equalTokens.ok, impl_ParseTokens.ok, laws_equalTree.ok]) fun bs h => by
  generalize hT : anyT (cutC bs) 0 = T
  refine ⟨4, ?_⟩
  rw [laws_FnTreeTokensAround.e, h, hT, treesB_treeDs, mkT_treeDs, Tr.eta]
  by_cases hl : ((bs.length : Nat) : Int) > 1048576
  · rw [decide_eq_true hl]; rfl
  rw [decide_eq_false hl, cond_false, cond_true, cond_true, cond_true]
  have hnil : toksB ([] : List D) = true := toksB_tokDs []
  have hnn : toksEq ([] : List D) [] = true := toksEq_iff.2 rfl
  cases hv : validT 8 T && decide ((toksT T).length ≤ 40) with
  | false =>
    rw [cond_false, cond_false, hnil, hnn]
    rfl
  | true =>
    simp only [Bool.and_eq_true, decide_eq_true_eq] at hv
    obtain ⟨hv, h40⟩ := hv
    have h63 : decide ((toksT T).length < 9223372036854775808) = true := decide_eq_true (by omega)
    have hsm : smallT T = true := smT_valid 8 T hv
    rw [cond_true, cond_true, toksB_tokDs, toksEq_tok, decide_eq_true (p := toksT T = toksT T) rfl, tokDs_length, h63, Bool.and_self, Bool.and_self, cond_true, Bool.not_true, cond_false, beq_self_eq_true, Bool.not_true, cond_false]
    have ew : IntKind.wrap .i64 ((((toksT T).length : Nat) : Int) + 2) = (((toksT T).length : Nat) : Int) + 2 := wS (by omega) (by omega)
    rw [ew]
    by_cases h38 : (toksT T).length ≤ 38
    · have t1 : ∀ a b : Int, ([.agg [.int .i64 a, .int .i64 b]] : List D) = tokDs [(a, b)] := fun _ _ => rfl
      have e : ([((2 : Int), (13 : Int))] ++ toksT T) ++ [(2, 14)] = (2, 13) :: (toksT T ++ [(2, 14)]) := rfl
      rw [decide_eq_false (by omega), cond_false, tokDs_ok, cond_true, t1, t1, tokDs_app, tokDs_app, tokDs_ok, cond_true, e, tokDs_length, tokDs_length, tokDs_length, tokDs_length, fits16 (by simp; omega), fits16 (by simp; omega), cond_true, cond_true, toksB_tokDs, decide_eq_true (by simp; omega), Bool.and_self, cond_true, around_parse hv h38, around_back hv h38, cond_true, treesB_treeDs, mkT_treeDs, Tr.eta, hsm, Tr.beq_self]
      rfl
    · rw [decide_eq_true (by omega)]
      rfl

end Go.Ab
