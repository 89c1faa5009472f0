import Derived.Test.YtgflgjocnglmjaaEd1
import Derived.Test.YtgflgjocnglmjaaProg
import Derived.Test.YtgflgjocnglmjaaChecked
open Go Go.Ab Go.Proofs
set_option maxRecDepth 100000
set_option linter.unusedVariables false
set_option linter.unusedSimpArgs false
namespace Go.Ab
namespace spec_BitsOf
noncomputable def E : Entry := ⟨21, false, false, fun | [.d (.int .i64 n)] => true | _ => false, fun | [.d (.int .i64 n)] => ([.agg [((.ints .i64 (btS n)), true), ((.ints .i64 (btD n)), true)]], []) | _ => ([], []), fun _ => [], true, fun _ => none⟩
end spec_BitsOf
namespace spec_BitsOf
noncomputable def X : List Entry := [spec_inRange.E, spec_vector.E]
noncomputable def I : List Inl := [⟨21, Try.f21, ⟨[22], [(1000004, [1, 4, 5, 6, 7, 8, 9, 10, 11, 12, 13, 14, 15, 16, 17, 18, 19, 20, 21, 22])], [], [], [], []⟩⟩]
theorem I_ok : ∀ i ∈ I, Try.prog.funcs[i.f]? = some i.fn ∧ (i.fn.name == "runtime.NumGoroutine") = false := by
  intro i hi
  simp only [I, List.mem_cons, List.not_mem_nil, or_false] at hi
  subst hi
  exact ⟨by kernel_rfl, by kernel_rfl⟩
noncomputable abbrev L0 (fuel n : Nat) (s : St) (k : Kont) := lAt Try.prog X I fuel true 0 false 21 (bodyOf Try.f21) [1, 1, 1, 0, 0] n s k
noncomputable abbrev k0  (fuel : Nat) : Kont := (kAt Try.prog X I fuel true 0 false 21 (bodyOf Try.f21) [1, 1, 1, 0, 0] [] (endK Try.prog Try.f21))
noncomputable def t0 (x0q0 : Int) (x0q1 : List Int) : St := ⟨[(.imm (.int .i64 x0q0)), .dead, (.ptr 1000000000 0 0), (.all 1000000001 1), .dead, .dead, .dead, .dead, .dead, .dead, .dead, .dead, .dead, .dead, .dead, .dead, .dead, .dead, .dead, .dead, .dead, .dead, .dead], hOf [(1000000000, (.box [(.imm .nils), (.imm .nils)])), (1000000001, (.ints .i64 x0q1))], [], []⟩
theorem e (fuel : Nat) (p0 : Int) : runF Try.prog X I 0 fuel 21 Try.f21 [.d (.int .i64 p0)] =
  (bif (!(decide (0 ≤ p0) && decide (p0 ≤ 1000000))) then
  some ([.agg [((.ints .i64 []), true), ((.ints .i64 []), true)]], [])
  else
  L0 fuel fuel (t0 p0 ([])) (k0  fuel)) := by kernel_rfl
theorem s0 (fuel n0 : Nat) (x0q0 : Int) (x0q1 : List Int) : L0 fuel (n0 + 1) (t0 x0q0 x0q1) (k0  fuel) =
  (bif (decide ((x0q0 : Int) > 1)) then
  (bif fits (([(Int.tmod x0q0 2)] : List Int).length + x0q1.length) 8 then
  L0 fuel n0 (t0 ((IntKind.wrap .i64 (Int.tdiv x0q0 2))) ((([(Int.tmod x0q0 2)] : List Int) ++ x0q1))) (k0  fuel)
  else
  none)
  else
  (bif fits (([x0q0] : List Int).length + x0q1.length) 8 then
  (bif szB ((([x0q0] : List Int) ++ x0q1)) then
  some ([.agg [((.ints .i64 [((((([x0q0] : List Int) ++ x0q1)).length : Nat) : Int)]), true), ((.ints .i64 ((([x0q0] : List Int) ++ x0q1))), true)]], [])
  else
  none)
  else
  none)) := by kernel_rfl
end spec_BitsOf
theorem spec_BitsOf.ok_of (hX : ∀ E ∈ spec_BitsOf.X, CallSpec Try.prog E) (h : ∀ (n : Int), (true) = true → ∃ fuel, runF Try.prog spec_BitsOf.X spec_BitsOf.I 0 fuel 21 Try.f21 [.d (.int .i64 n)] = some ([.agg [((.ints .i64 (btS n)), true), ((.ints .i64 (btD n)), true)]], [])) : CallSpec Try.prog spec_BitsOf.E :=
  callSpec_of (d := 0) hX (by kernel_rfl) spec_BitsOf.I_ok (by kernel_rfl) (by kernel_rfl) (by kernel_rfl) (fun _ _ _ _ h => by dsimp only [spec_BitsOf.E] at h; cases h) (fun xs hp => by
    dsimp only [spec_BitsOf.E] at hp ⊢
    split at hp
    · exact h _ hp
    · cases hp)
theorem spec_BitsOf.loop (fuel : Nat) : ∀ (f n : Nat) (out : List Int), n < f → n ≤ 1000000 → (btL n).length + out.length ≤ 60 →
    spec_BitsOf.L0 fuel f (spec_BitsOf.t0 (n : Int) out) (spec_BitsOf.k0 fuel) = some ([.agg [((.ints .i64 [(((btL n ++ out).length : Nat) : Int)]), true), ((.ints .i64 (btL n ++ out)), true)]], []) := by
  intro f
  induction f with
  | zero => intro n _ h; omega
  | succ f ih =>
    intro n out h1 h2 h3
    rw [spec_BitsOf.s0]
    by_cases hn : 1 < n
    · have hs := bt_step hn
      rw [hs, List.length_append, List.length_singleton] at h3
      rw [decide_eq_true (p := (n : Int) > 1) (by omega), cond_true, show Int.tmod (n : Int) 2 = ((n % 2 : Nat) : Int) from rfl, show Int.tdiv (n : Int) 2 = ((n / 2 : Nat) : Int) from rfl, wN (by omega), fitsOk (by simp only [List.length_cons, List.length_nil]; omega), cond_true, ih (n / 2) _ (by omega) (by omega) (by simp only [List.length_append, List.length_singleton]; omega), hs, List.append_assoc]
    · have hs := bt_small (n := n) (by omega)
      rw [hs, List.length_singleton] at h3
      rw [decide_eq_false (p := (n : Int) > 1) (by omega), cond_false, fitsOk (by simp only [List.length_cons, List.length_nil]; omega), cond_true, szB_of (by simp only [List.length_append, List.length_singleton]; omega), hs]
      rfl
theorem spec_BitsOf.ok : CallSpec Try.prog spec_BitsOf.E := spec_BitsOf.ok_of (by simp [spec_BitsOf.X, spec_inRange.ok, spec_vector.ok]) fun n _ => by
  obtain ⟨F, hF⟩ : ∃ F : Nat, 1000000 < F := ⟨1000001, by omega⟩
  refine ⟨F, ?_⟩
  rw [spec_BitsOf.e]
  unfold btS btD btB
  by_cases h0 : 0 ≤ n
  · by_cases h1 : n ≤ 1000000
    · obtain ⟨j, rfl⟩ : ∃ j : Nat, n = j := ⟨n.toNat, by omega⟩
      have hl := log2_le (n := j) (by omega)
      have hb := btL_length j
      rw [decide_eq_true h0, decide_eq_true h1, Int.toNat_natCast]
      have := spec_BitsOf.loop F F j [] (by omega) (by omega) (by simp; omega)
      simp only [List.append_nil, hb] at this
      exact this
    · rw [decide_eq_false h1, Bool.and_false]; rfl
  · rw [decide_eq_false h0, Bool.false_and]; rfl

namespace laws_equalArray
noncomputable def E : Entry := ⟨20, true, false, fun | [.d (.agg [(.ints .i64 sa), (.ints .i64 da)]), .d (.agg [(.ints .i64 sb), (.ints .i64 db)])] => decide (sa.length < 9223372036854775808) && decide (da.length < 9223372036854775808) && decide (sb.length < 9223372036854775808) && decide (db.length < 9223372036854775808) | _ => false, fun | [.d (.agg [(.ints .i64 sa), (.ints .i64 da)]), .d (.agg [(.ints .i64 sb), (.ints .i64 db)])] => ([.one ((.bool (decide (sa = sb) && decide (da = db))), false)], []) | _ => ([], []), fun _ => [], false, fun _ => none⟩
end laws_equalArray
namespace laws_equalArray
noncomputable def X : List Entry := [laws_equalInts.E]
noncomputable def I : List Inl := [⟨20, Try.f20, ⟨[], [], [], [], [], []⟩⟩]
theorem I_ok : ∀ i ∈ I, Try.prog.funcs[i.f]? = some i.fn ∧ (i.fn.name == "runtime.NumGoroutine") = false := by
  intro i hi
  simp only [I, List.mem_cons, List.not_mem_nil, or_false] at hi
  subst hi
  exact ⟨by kernel_rfl, by kernel_rfl⟩
theorem e (fuel : Nat) (p0q0 : List Int) (p0q1 : List Int) (p1q0 : List Int) (p1q1 : List Int) : runF Try.prog X I 0 fuel 20 Try.f20 [.d (.agg [(.ints .i64 p0q0), (.ints .i64 p0q1)]), .d (.agg [(.ints .i64 p1q0), (.ints .i64 p1q1)])] =
  (bif decide (p0q0.length < 9223372036854775808) && decide (p1q0.length < 9223372036854775808) then
  (bif (decide (p0q0 = p1q0)) then
  (bif decide (p0q1.length < 9223372036854775808) && decide (p1q1.length < 9223372036854775808) then
  some ([.one ((.bool (decide (p0q1 = p1q1))), false)], [])
  else
  none)
  else
  some ([.one ((.bool false), false)], []))
  else
  none) := by kernel_rfl
end laws_equalArray
theorem laws_equalArray.ok_of (hX : ∀ E ∈ laws_equalArray.X, CallSpec Try.prog E) (h : ∀ (sa : List Int) (da : List Int) (sb : List Int) (db : List Int), (decide (sa.length < 9223372036854775808) && decide (da.length < 9223372036854775808) && decide (sb.length < 9223372036854775808) && decide (db.length < 9223372036854775808)) = true → ∃ fuel, runF Try.prog laws_equalArray.X laws_equalArray.I 0 fuel 20 Try.f20 [.d (.agg [(.ints .i64 sa), (.ints .i64 da)]), .d (.agg [(.ints .i64 sb), (.ints .i64 db)])] = some ([.one ((.bool (decide (sa = sb) && decide (da = db))), false)], [])) : CallSpec Try.prog laws_equalArray.E :=
  callSpec_of (d := 0) hX (by kernel_rfl) laws_equalArray.I_ok (by kernel_rfl) (by kernel_rfl) (by kernel_rfl) (fun _ _ _ _ h => by dsimp only [laws_equalArray.E] at h; cases h) (fun xs hp => by
    dsimp only [laws_equalArray.E] at hp ⊢
    split at hp
    · exact h _ _ _ _ hp
    · cases hp)
theorem laws_equalArray.ok : CallSpec Try.prog laws_equalArray.E := laws_equalArray.ok_of (by simp [laws_equalArray.X, laws_equalInts.ok]) fun sa da sb db h => ⟨0, by
  simp only [Bool.and_eq_true, decide_eq_true_eq] at h
  obtain ⟨⟨⟨h1, h2⟩, h3⟩, h4⟩ := h
  rw [laws_equalArray.e]
  simp only [h1, h2, h3, h4, decide_true, Bool.and_self, cond_true]
  cases decide (sa = sb) <;> cases decide (da = db) <;> rfl⟩

namespace impl_isVector
noncomputable def E : Entry := ⟨44, true, false, fun | [.d (.agg [(.ints .i64 sh), (.ints .i64 da)])] => decide (sh.length < 9223372036854775808) && decide (da.length < 9223372036854775808) | _ => false, fun | [.d (.agg [(.ints .i64 sh), (.ints .i64 da)])] => ([.one ((.bool (vcB sh da)), false)], []) | _ => ([], []), fun _ => [], false, fun _ => none⟩
end impl_isVector
namespace impl_isVector
noncomputable def X : List Entry := [impl_ValidArray.E]
noncomputable def I : List Inl := [⟨44, Try.f44, ⟨[], [], [], [], [], []⟩⟩]
theorem I_ok : ∀ i ∈ I, Try.prog.funcs[i.f]? = some i.fn ∧ (i.fn.name == "runtime.NumGoroutine") = false := by
  intro i hi
  simp only [I, List.mem_cons, List.not_mem_nil, or_false] at hi
  subst hi
  exact ⟨by kernel_rfl, by kernel_rfl⟩
theorem e (fuel : Nat) (p0q0 : List Int) (p0q1 : List Int) : runF Try.prog X I 0 fuel 44 Try.f44 [.d (.agg [(.ints .i64 p0q0), (.ints .i64 p0q1)])] =
  (bif decide (p0q0.length < 9223372036854775808) && decide (p0q1.length < 9223372036854775808) then
  (bif (validA p0q0 p0q1) then
  some ([.one ((.bool ((((p0q0.length : Nat) : Int) : Int) == 1)), false)], [])
  else
  some ([.one ((.bool false), false)], []))
  else
  none) := by kernel_rfl
end impl_isVector
theorem impl_isVector.ok_of (hX : ∀ E ∈ impl_isVector.X, CallSpec Try.prog E) (h : ∀ (sh : List Int) (da : List Int), (decide (sh.length < 9223372036854775808) && decide (da.length < 9223372036854775808)) = true → ∃ fuel, runF Try.prog impl_isVector.X impl_isVector.I 0 fuel 44 Try.f44 [.d (.agg [(.ints .i64 sh), (.ints .i64 da)])] = some ([.one ((.bool (vcB sh da)), false)], [])) : CallSpec Try.prog impl_isVector.E :=
  callSpec_of (d := 0) hX (by kernel_rfl) impl_isVector.I_ok (by kernel_rfl) (by kernel_rfl) (by kernel_rfl) (fun _ _ _ _ h => by dsimp only [impl_isVector.E] at h; cases h) (fun xs hp => by
    dsimp only [impl_isVector.E] at hp ⊢
    split at hp
    · exact h _ _ hp
    · cases hp)
theorem impl_isVector.ok : CallSpec Try.prog impl_isVector.E := impl_isVector.ok_of (by simp [impl_isVector.X, impl_ValidArray.ok]) fun sh da h => ⟨0, by
  rw [impl_isVector.e, h]
  unfold vcB
  cases validA sh da with
  | false => rfl
  | true =>
    rw [show ((((sh.length : Nat) : Int)) == 1) = decide (sh.length = 1) by by_cases h : sh.length = 1 <;> simp [h]; omega]
    rfl⟩

namespace impl_PolyAt
noncomputable def E : Entry := ⟨23, true, false, fun | [.d (.agg [(.ints .i64 sh), (.ints .i64 da)]), .d (.int .i64 x)] => decide (sh.length < 9223372036854775808) && decide (da.length < 9223372036854775808) | _ => false, fun | [.d (.agg [(.ints .i64 sh), (.ints .i64 da)]), .d (.int .i64 x)] => ([.one ((.int .i64 (poV sh da x)), false), .one ((.bool (poB sh da x)), false)], []) | _ => ([], []), fun _ => [], false, fun _ => none⟩
end impl_PolyAt
namespace impl_PolyAt
noncomputable def X : List Entry := [impl_isVector.E, impl_isNumber.E, impl_limited.E]
noncomputable def I : List Inl := [⟨23, Try.f23, ⟨[], [(1000005, [0, 2, 3, 4, 5, 7, 8, 9, 10, 11, 12, 13, 14, 15, 16, 17, 21, 22, 23, 24, 25, 26, 27, 28, 29, 30, 31, 32])], [], [], [], []⟩⟩]
theorem I_ok : ∀ i ∈ I, Try.prog.funcs[i.f]? = some i.fn ∧ (i.fn.name == "runtime.NumGoroutine") = false := by
  intro i hi
  simp only [I, List.mem_cons, List.not_mem_nil, or_false] at hi
  subst hi
  exact ⟨by kernel_rfl, by kernel_rfl⟩
noncomputable abbrev L0 (fuel n : Nat) (s : St) (k : Kont) := lAt Try.prog X I fuel true 0 false 23 (bodyOf Try.f23) [1, 1, 1, 0, 1, 0] n s k
noncomputable abbrev k0  (fuel : Nat) : Kont := (kAt Try.prog X I fuel true 0 false 23 (bodyOf Try.f23) [1, 1, 1, 0, 1, 0] [] (endK Try.prog Try.f23))
noncomputable def t0 (p1 : Int) (p0q1 : List Int) (x0q1 : Int) (x0q4 : Int) : St := ⟨[.dead, (.imm (.int .i64 p1)), .dead, .dead, .dead, .dead, (.imm (.int .i64 x0q1)), .dead, .dead, .dead, .dead, .dead, .dead, .dead, .dead, .dead, .dead, .dead, (.imm (.ints .i64 p0q1)), (.imm (.int .i64 ((p0q1.length : Nat) : Int))), (.imm (.int .i64 x0q4)), .dead, .dead, .dead, .dead, .dead, .dead, .dead, .dead, .dead, .dead, .dead, .dead], hOf [], [], []⟩
theorem e (fuel : Nat) (p0q0 : List Int) (p0q1 : List Int) (p1 : Int) : runF Try.prog X I 0 fuel 23 Try.f23 [.d (.agg [(.ints .i64 p0q0), (.ints .i64 p0q1)]), .d (.int .i64 p1)] =
  (bif decide (p0q0.length < 9223372036854775808) && decide (p0q1.length < 9223372036854775808) then
  (bif (!(vcB p0q0 p0q1)) then
  some ([.one ((.int .i64 0), false), .one ((.bool false), false)], [])
  else
  (bif (!(numB p1)) then
  some ([.one ((.int .i64 0), false), .one ((.bool false), false)], [])
  else
  L0 fuel fuel (t0 p1 p0q1 0 0) (k0  fuel)))
  else
  none) := by kernel_rfl
theorem s0 (fuel n0 : Nat) (p1 : Int) (p0q1 : List Int) (x0q1 : Int) (x0q4 : Int) : L0 fuel (n0 + 1) (t0 p1 p0q1 x0q1 x0q4) (k0  fuel) =
  (bif (decide ((x0q4 : Int) < ((p0q1.length : Nat) : Int))) then
  (idx x0q4 p0q1.length).bind fun j5 =>
  (p0q1[j5]?).bind fun v6 =>
  L0 fuel n0 (t0 p1 p0q1 ((limV ((IntKind.wrap .i64 ((limV ((IntKind.wrap .i64 (x0q1 * p1)))) + v6))))) ((IntKind.wrap .i64 (x0q4 + 1)))) (k0  fuel)
  else
  some ([.one ((.int .i64 x0q1), false), .one ((.bool true), false)], [])) := by kernel_rfl
end impl_PolyAt
theorem impl_PolyAt.ok_of (hX : ∀ E ∈ impl_PolyAt.X, CallSpec Try.prog E) (h : ∀ (sh : List Int) (da : List Int) (x : Int), (decide (sh.length < 9223372036854775808) && decide (da.length < 9223372036854775808)) = true → ∃ fuel, runF Try.prog impl_PolyAt.X impl_PolyAt.I 0 fuel 23 Try.f23 [.d (.agg [(.ints .i64 sh), (.ints .i64 da)]), .d (.int .i64 x)] = some ([.one ((.int .i64 (poV sh da x)), false), .one ((.bool (poB sh da x)), false)], [])) : CallSpec Try.prog impl_PolyAt.E :=
  callSpec_of (d := 0) hX (by kernel_rfl) impl_PolyAt.I_ok (by kernel_rfl) (by kernel_rfl) (by kernel_rfl) (fun _ _ _ _ h => by dsimp only [impl_PolyAt.E] at h; cases h) (fun xs hp => by
    dsimp only [impl_PolyAt.E] at hp ⊢
    split at hp
    · exact h _ _ _ hp
    · cases hp)
theorem impl_PolyAt.loop (fuel : Nat) (da : List Int) (x : Int) (hx : da.length ≤ 60) : ∀ (m n j : Nat) (a : Int), da.length - j = m → m < n → j ≤ da.length →
    impl_PolyAt.L0 fuel n (impl_PolyAt.t0 x da a (j : Int)) (impl_PolyAt.k0 fuel) = some ([.one (.int .i64 (poF x (da.drop j) a), false), .one (.bool true, false)], []) := by
  intro m
  induction m with
  | zero =>
    intro n j a h1 h2 h3
    obtain ⟨n, rfl⟩ : ∃ n', n = n' + 1 := ⟨n - 1, by omega⟩
    have hj : ¬ j < da.length := by omega
    rw [impl_PolyAt.s0, dge hj, dropE hj]
    rfl
  | succ m ih =>
    intro n j a h1 h2 h3
    obtain ⟨n, rfl⟩ : ∃ n', n = n' + 1 := ⟨n - 1, by omega⟩
    have hj : j < da.length := by omega
    rw [impl_PolyAt.s0, dlt hj, idx_nat hj, w1 (by omega), dropS hj]
    simp only [cond_true, Option.bind_some, getS hj, poF]
    exact ih n (j + 1) _ (by omega) (by omega) (by omega)
theorem impl_PolyAt.ok : CallSpec Try.prog impl_PolyAt.E := impl_PolyAt.ok_of (by simp [impl_PolyAt.X, impl_isVector.ok, impl_isNumber.ok, impl_limited.ok]) fun sh da x h => ⟨da.length + 1, by
  rw [impl_PolyAt.e, h]
  unfold poV poB
  cases hb : vcB sh da with
  | false => rfl
  | true =>
    obtain ⟨_, _, hl, _⟩ := vcB_inv hb
    simp only [cond_true]
    cases hn : numB x with
    | false => rfl
    | true => exact impl_PolyAt.loop (da.length + 1) da x hl da.length (da.length + 1) 0 0 (by omega) (by omega) (by omega)⟩

namespace laws_FnBitsOf
noncomputable def E : Entry := ⟨7, true, false, fun | [.d (.ints .u8 bs)] => bytesB bs | _ => false, fun | [.d (.ints .u8 bs)] => ([.one ((.bool true), false)], []) | _ => ([], []), fun _ => [], false, fun _ => none⟩
end laws_FnBitsOf
namespace laws_FnBitsOf
noncomputable def X : List Entry := [spec_DrawBitsOf.E, impl_BitsOf.E, spec_BitsOf.E, laws_equalArray.E, impl_ValidArray.E, impl_PolyAt.E]
noncomputable def I : List Inl := [⟨7, Try.f7, ⟨[14, 17, 27], [(1000009, [0, 1, 2, 8, 9, 10, 11, 12, 13, 14, 15, 16, 17, 18, 19, 20, 21, 22, 23, 24, 25, 26, 27, 28, 29, 30, 31, 32, 33, 34, 35, 36, 37, 38, 39, 40, 41, 42, 43, 44, 45, 46, 47, 48, 49, 50, 51, 52, 53, 54, 55, 56, 57, 58, 59, 60, 61, 62, 63, 64, 65, 66, 67, 68, 69, 70, 71])], [], [(5, [1, 0, 2, 3, 4, 5, 6, 7, 8, 9]), (6, [1, 0, 2, 3, 4])], [], []⟩⟩]
theorem I_ok : ∀ i ∈ I, Try.prog.funcs[i.f]? = some i.fn ∧ (i.fn.name == "runtime.NumGoroutine") = false := by
  intro i hi
  simp only [I, List.mem_cons, List.not_mem_nil, or_false] at hi
  subst hi
  exact ⟨by kernel_rfl, by kernel_rfl⟩
noncomputable abbrev L0 (fuel n : Nat) (s : St) (k : Kont) := lAt Try.prog X I fuel true 0 false 7 (bodyOf Try.f7) [1, 1, 1, 1, 1, 1, 0, 1, 0] n s k
noncomputable abbrev k0  (fuel : Nat) : Kont := (kAt Try.prog X I fuel true 0 false 7 (bodyOf Try.f7) [1, 1, 1, 1, 1, 1, 0, 1, 0] [] (endK Try.prog Try.f7))
noncomputable def t0 (p0 : List Int) (x0q3 : Int) : St := ⟨[.dead, .dead, .dead, (.imm (.int .i64 (oneV (cutC p0) 0 bitL))), (.ptr 1000000000 0 0), (.imm (.int .i64 (poV ((btS ((oneV (cutC p0) 0 bitL)))) ((btD ((oneV (cutC p0) 0 bitL)))) 2))), (.imm (.bool (poB ((btS ((oneV (cutC p0) 0 bitL)))) ((btD ((oneV (cutC p0) 0 bitL)))) 2))), (.imm (.int .i64 x0q3)), .dead, .dead, .dead, .dead, .dead, .dead, .dead, .dead, .dead, .dead, .dead, .dead, .dead, .dead, .dead, .dead, .dead, .dead, .dead, .dead, .dead, .dead, .dead, .dead, .dead, .dead, .dead, .dead, .dead, .dead, .dead, .dead, .dead, .dead, .dead, .dead, .dead, .dead, .dead, .dead, .dead, .dead, .dead, .dead, .dead, .dead, .dead, .dead, .dead, .dead, .dead, .dead, .dead, .dead, .dead, .dead, .dead, .dead, .dead, .dead, .dead, .dead, .dead, .dead], hOf [(1000000000, (.box [(.all 1000000001 1), (.all 1000000002 1)])), (1000000001, (.ints .i64 (btS ((oneV (cutC p0) 0 bitL))))), (1000000002, (.ints .i64 (btD ((oneV (cutC p0) 0 bitL)))))], [], []⟩
theorem e (fuel : Nat) (p0 : List Int) : runF Try.prog X I 0 fuel 7 Try.f7 [.d (.ints .u8 p0)] =
  (bif (decide ((((p0.length : Nat) : Int) : Int) > 1048576)) then
  some ([.one ((.bool true), false)], [])
  else
  (bif bytesB p0 then
  (bif decide (((btS ((oneV (cutC p0) 0 bitL)))).length < 9223372036854775808) && decide (((btD ((oneV (cutC p0) 0 bitL)))).length < 9223372036854775808) && decide (((btS ((oneV (cutC p0) 0 bitL)))).length < 9223372036854775808) && decide (((btD ((oneV (cutC p0) 0 bitL)))).length < 9223372036854775808) then
  (bif (!(decide (((btS ((oneV (cutC p0) 0 bitL)))) = ((btS ((oneV (cutC p0) 0 bitL))))) && decide (((btD ((oneV (cutC p0) 0 bitL)))) = ((btD ((oneV (cutC p0) 0 bitL))))))) then
  (bif decide (((btS ((oneV (cutC p0) 0 bitL)))).length < 9223372036854775808) && decide (((btD ((oneV (cutC p0) 0 bitL)))).length < 9223372036854775808) && decide (((btS ((oneV (cutC p0) 0 bitL)))).length < 9223372036854775808) && decide (((btD ((oneV (cutC p0) 0 bitL)))).length < 9223372036854775808) then
  some ([.one ((.bool (decide (((btS ((oneV (cutC p0) 0 bitL)))) = ((btS ((oneV (cutC p0) 0 bitL))))) && decide (((btD ((oneV (cutC p0) 0 bitL)))) = ((btD ((oneV (cutC p0) 0 bitL))))))), false)], [])
  else
  none)
  else
  (bif decide (((btS ((oneV (cutC p0) 0 bitL)))).length < 9223372036854775808) && decide (((btD ((oneV (cutC p0) 0 bitL)))).length < 9223372036854775808) then
  (bif (!(validA ((btS ((oneV (cutC p0) 0 bitL)))) ((btD ((oneV (cutC p0) 0 bitL)))))) then
  (bif decide (((btS ((oneV (cutC p0) 0 bitL)))).length < 9223372036854775808) && decide (((btD ((oneV (cutC p0) 0 bitL)))).length < 9223372036854775808) && decide (((btS ((oneV (cutC p0) 0 bitL)))).length < 9223372036854775808) && decide (((btD ((oneV (cutC p0) 0 bitL)))).length < 9223372036854775808) then
  some ([.one ((.bool (decide (((btS ((oneV (cutC p0) 0 bitL)))) = ((btS ((oneV (cutC p0) 0 bitL))))) && decide (((btD ((oneV (cutC p0) 0 bitL)))) = ((btD ((oneV (cutC p0) 0 bitL))))))), false)], [])
  else
  none)
  else
  (bif decide (((btS ((oneV (cutC p0) 0 bitL)))).length < 9223372036854775808) && decide (((btD ((oneV (cutC p0) 0 bitL)))).length < 9223372036854775808) then
  L0 fuel fuel (t0 p0 0) (k0  fuel)
  else
  none))
  else
  none))
  else
  none)
  else
  none)) := by kernel_rfl
theorem s0 (fuel n0 : Nat) (p0 : List Int) (x0q3 : Int) : L0 fuel (n0 + 1) (t0 p0 x0q3) (k0  fuel) =
  (bif (decide ((x0q3 : Int) < (((btD ((oneV (cutC p0) 0 bitL))).length : Nat) : Int))) then
  (idx x0q3 (btD ((oneV (cutC p0) 0 bitL))).length).bind fun j13 =>
  ((btD ((oneV (cutC p0) 0 bitL)))[j13]?).bind fun v14 =>
  (bif ((v14 : Int) != 0) then
  (idx x0q3 (btD ((oneV (cutC p0) 0 bitL))).length).bind fun j15 =>
  ((btD ((oneV (cutC p0) 0 bitL)))[j15]?).bind fun v16 =>
  (bif ((v16 : Int) != 1) then
  some ([.one ((.bool false), false)], [])
  else
  L0 fuel n0 (t0 p0 ((IntKind.wrap .i64 (x0q3 + 1)))) (k0  fuel))
  else
  L0 fuel n0 (t0 p0 ((IntKind.wrap .i64 (x0q3 + 1)))) (k0  fuel))
  else
  (bif (poB ((btS ((oneV (cutC p0) 0 bitL)))) ((btD ((oneV (cutC p0) 0 bitL)))) 2) then
  (bif (((poV ((btS ((oneV (cutC p0) 0 bitL)))) ((btD ((oneV (cutC p0) 0 bitL)))) 2) : Int) == (oneV (cutC p0) 0 bitL)) then
  (bif (((oneV (cutC p0) 0 bitL) : Int) == 0) then
  some ([.one ((.bool true), false)], [])
  else
  (idx 0 (btD ((oneV (cutC p0) 0 bitL))).length).bind fun j17 =>
  ((btD ((oneV (cutC p0) 0 bitL)))[j17]?).bind fun v18 =>
  some ([.one ((.bool ((v18 : Int) == 1)), false)], []))
  else
  some ([.one ((.bool false), false)], []))
  else
  some ([.one ((.bool false), false)], []))) := by kernel_rfl
end laws_FnBitsOf
theorem laws_FnBitsOf.ok_of (hX : ∀ E ∈ laws_FnBitsOf.X, CallSpec Try.prog E) (h : ∀ (bs : List Int), (bytesB bs) = true → ∃ fuel, runF Try.prog laws_FnBitsOf.X laws_FnBitsOf.I 0 fuel 7 Try.f7 [.d (.ints .u8 bs)] = some ([.one ((.bool true), false)], [])) : CallSpec Try.prog laws_FnBitsOf.E :=
  callSpec_of (d := 0) hX (by kernel_rfl) laws_FnBitsOf.I_ok (by kernel_rfl) (by kernel_rfl) (by kernel_rfl) (fun _ _ _ _ h => by dsimp only [laws_FnBitsOf.E] at h; cases h) (fun xs hp => by
    dsimp only [laws_FnBitsOf.E] at hp ⊢
    split at hp
    · exact h _ hp
    · cases hp)
theorem laws_FnBitsOf.ok : CallSpec Try.prog laws_FnBitsOf.E := laws_FnBitsOf.ok_of (by simp [laws_FnBitsOf.X, spec_DrawBitsOf.ok, impl_BitsOf.ok, spec_BitsOf.ok, laws_equalArray.ok, impl_ValidArray.ok, impl_PolyAt.ok]) fun bs h => by
  obtain ⟨F, hF⟩ : ∃ F : Nat, 4000 < F := ⟨4001, by omega⟩
  refine ⟨F, ?_⟩
  rw [laws_FnBitsOf.e]
  by_cases hl : ((bs.length : Nat) : Int) > 1048576
  · rw [decide_eq_true hl]; rfl
  rw [decide_eq_false hl, cond_false, h, cond_true]
  have r0 := cut_ok h (p := 0) (by omega) (by omega)
  obtain ⟨n, hn⟩ : ∃ x, oneV (cutC bs) 0 bitL = x := ⟨_, rfl⟩
  have hnm : n ∈ bitL := by rw [← hn]; exact oneV_mem r0 (by simp [bitL]) (by simp [bitL])
  have bl := bt_len n
  have g1 := lt_of (xs := btS n) (by omega)
  have g2 := lt_of (xs := btD n) (by omega)
  simp only [hn]
  cases hb : btB n with
  | false =>
    have e1 : btS n = [] := by simp only [btS, hb, cond_false]
    have e2 : btD n = [] := by simp only [btD, hb, cond_false]
    rw [e1] at g1
    have hv : validA [] [] = false := rfl
    simp only [Bool.and_self, Bool.and_true, Bool.true_and, cond_true, cond_false, Bool.not_true, Bool.not_false, bne_self_eq_false, beq_self_eq_true, decide_true, eq_self, g1, e1, e2, hv]
  | true =>
    obtain ⟨j, rfl, hj, hS, hD, hvo, hl1, hl2⟩ := bt_facts hb
    have hva := validA_vec hvo
    rw [hS] at g1
    rw [hD] at g2
    simp only [Bool.and_self, Bool.and_true, Bool.true_and, cond_true, cond_false, Bool.not_true, Bool.not_false, bne_self_eq_false, beq_self_eq_true, decide_true, eq_self, g1, g2, hS, hD, hva]
    refine run_loop (N := (btL j).length) (fun m i (_ : Unit) => laws_FnBitsOf.L0 F m (laws_FnBitsOf.t0 bs (i : Int)) (laws_FnBitsOf.k0 F)) (fun _ _ => True) ?_ ?_ F 0 () (by omega) (by omega) trivial
    · intro m _ _
      have n2 : numB 2 = true := rfl
      have hpB : poB [(((btL j).length : Nat) : Int)] (btL j) 2 = true := by simp only [poB, vcB_of hvo, n2, Bool.and_self]
      have hpV : poV [(((btL j).length : Nat) : Int)] (btL j) 2 = (j : Int) := by simp only [poV, hpB, cond_true]; exact poly_bits (j + 1) j (by omega) hj
      rw [laws_FnBitsOf.s0]
      simp only [hn, hS, hD]
      rw [dge (by omega)]
      simp only [Bool.and_self, Bool.and_true, Bool.true_and, cond_true, cond_false, Bool.not_true, Bool.not_false, bne_self_eq_false, beq_self_eq_true, decide_true, eq_self, hpB, hpV]
      by_cases h0 : j = 0
      · subst h0; rfl
      · have e0 : ((j : Int) == 0) = false := by simp; omega
        have hh := bit_head (j + 1) j (by omega) (by omega)
        rw [e0, cond_false, show idx 0 (btL j).length = some 0 from idx_nat (j := 0) hl2]
        simp only [Option.bind_some, getD_get hl2, hh]
        rfl
    · intro m i _ hi _
      refine ⟨(), trivial, ?_⟩
      have hx := btL_mem (mem_getD hi)
      rw [laws_FnBitsOf.s0]
      simp only [hn, hS, hD]
      rw [dlt hi, cond_true, idx_nat hi, w1 (by omega)]
      simp only [Option.bind_some, getD_get hi]
      rcases hx with hx | hx
      · rw [hx]; rfl
      · rw [hx]; rfl

namespace impl_axisLength
noncomputable def E : Entry := ⟨46, true, false, fun | [.d (.agg [(.ints .i64 sh), (.ints .i64 da)]), .d (.int .i64 k)] => decide (sh.length < 9223372036854775808) && decide (da.length < 9223372036854775808) | _ => false, fun | [.d (.agg [(.ints .i64 sh), (.ints .i64 da)]), .d (.int .i64 k)] => ([.one ((.int .i64 (axL sh da k)), false), .one ((.bool (axB sh da k)), false)], []) | _ => ([], []), fun _ => [], false, fun _ => none⟩
end impl_axisLength
namespace impl_axisLength
noncomputable def X : List Entry := [impl_ValidArray.E]
noncomputable def I : List Inl := [⟨46, Try.f46, ⟨[], [], [], [], [], []⟩⟩]
theorem I_ok : ∀ i ∈ I, Try.prog.funcs[i.f]? = some i.fn ∧ (i.fn.name == "runtime.NumGoroutine") = false := by
  intro i hi
  simp only [I, List.mem_cons, List.not_mem_nil, or_false] at hi
  subst hi
  exact ⟨by kernel_rfl, by kernel_rfl⟩
theorem e (fuel : Nat) (p0q0 : List Int) (p0q1 : List Int) (p1 : Int) : runF Try.prog X I 0 fuel 46 Try.f46 [.d (.agg [(.ints .i64 p0q0), (.ints .i64 p0q1)]), .d (.int .i64 p1)] =
  (bif decide (p0q0.length < 9223372036854775808) && decide (p0q1.length < 9223372036854775808) then
  (bif (!(validA p0q0 p0q1)) then
  some ([.one ((.int .i64 0), false), .one ((.bool false), false)], [])
  else
  (bif (decide ((p1 : Int) < 0)) then
  some ([.one ((.int .i64 0), false), .one ((.bool false), false)], [])
  else
  (bif (decide ((p1 : Int) ≥ ((p0q0.length : Nat) : Int))) then
  some ([.one ((.int .i64 0), false), .one ((.bool false), false)], [])
  else
  (idx p1 p0q0.length).bind fun j1 =>
  (p0q0[j1]?).bind fun v2 =>
  some ([.one ((.int .i64 v2), false), .one ((.bool true), false)], []))))
  else
  none) := by kernel_rfl
end impl_axisLength
theorem impl_axisLength.ok_of (hX : ∀ E ∈ impl_axisLength.X, CallSpec Try.prog E) (h : ∀ (sh : List Int) (da : List Int) (k : Int), (decide (sh.length < 9223372036854775808) && decide (da.length < 9223372036854775808)) = true → ∃ fuel, runF Try.prog impl_axisLength.X impl_axisLength.I 0 fuel 46 Try.f46 [.d (.agg [(.ints .i64 sh), (.ints .i64 da)]), .d (.int .i64 k)] = some ([.one ((.int .i64 (axL sh da k)), false), .one ((.bool (axB sh da k)), false)], [])) : CallSpec Try.prog impl_axisLength.E :=
  callSpec_of (d := 0) hX (by kernel_rfl) impl_axisLength.I_ok (by kernel_rfl) (by kernel_rfl) (by kernel_rfl) (fun _ _ _ _ h => by dsimp only [impl_axisLength.E] at h; cases h) (fun xs hp => by
    dsimp only [impl_axisLength.E] at hp ⊢
    split at hp
    · exact h _ _ _ hp
    · cases hp)
theorem impl_axisLength.ok : CallSpec Try.prog impl_axisLength.E := impl_axisLength.ok_of (by simp [impl_axisLength.X, impl_ValidArray.ok]) fun sh da k h => ⟨0, by
  rw [impl_axisLength.e, h]
  unfold axL axB
  cases hv : validA sh da with
  | false => rfl
  | true =>
    by_cases h0 : k < 0
    · rw [decide_eq_true h0, show axOk sh k = false by simp [axOk]; omega]; rfl
    by_cases h1 : k ≥ ((sh.length : Nat) : Int)
    · rw [decide_eq_false h0, decide_eq_true h1, show axOk sh k = false by simp [axOk]; omega]; rfl
    obtain ⟨j, rfl⟩ : ∃ j : Nat, k = j := ⟨k.toNat, by omega⟩
    have hj : j < sh.length := by omega
    rw [decide_eq_false h0, decide_eq_false h1, show axOk sh j = true by simp [axOk]; omega, idx_nat hj]
    simp [hj]⟩

namespace slices_Equal_int_int
noncomputable def E : Entry := ⟨48, true, false, fun | [.d (.ints .i64 xs), .d (.ints .i64 ys)] => decide (xs.length < 9223372036854775808) && decide (ys.length < 9223372036854775808) | _ => false, fun | [.d (.ints .i64 xs), .d (.ints .i64 ys)] => ([.one ((.bool (decide (xs = ys))), false)], []) | _ => ([], []), fun _ => [], false, fun _ => none⟩
end slices_Equal_int_int
namespace slices_Equal_int_int
noncomputable def X : List Entry := []
noncomputable def I : List Inl := [⟨48, Try.f48, ⟨[], [(1000004, [2, 3, 4, 5, 6, 7, 8, 9, 10, 11, 14, 15, 16, 17, 18, 19, 20, 21, 22, 23, 24, 25])], [], [(6, [0, 1, 4, 5, 2, 3, 6, 7, 8])], [], []⟩⟩]
theorem I_ok : ∀ i ∈ I, Try.prog.funcs[i.f]? = some i.fn ∧ (i.fn.name == "runtime.NumGoroutine") = false := by
  intro i hi
  simp only [I, List.mem_cons, List.not_mem_nil, or_false] at hi
  subst hi
  exact ⟨by kernel_rfl, by kernel_rfl⟩
noncomputable abbrev L0 (fuel n : Nat) (s : St) (k : Kont) := lAt Try.prog X I fuel true 0 false 48 (bodyOf Try.f48) [1, 1, 0, 1, 0] n s k
noncomputable abbrev k0  (fuel : Nat) : Kont := (kAt Try.prog X I fuel true 0 false 48 (bodyOf Try.f48) [1, 1, 0, 1, 0] [] (endK Try.prog Try.f48))
noncomputable def t0 (p0 : List Int) (p1 : List Int) (x0q3 : Int) : St := ⟨[(.imm (.ints .i64 p0)), (.imm (.ints .i64 p1)), .dead, .dead, .dead, .dead, .dead, .dead, .dead, .dead, .dead, .dead, (.imm (.int .i64 ((p0.length : Nat) : Int))), (.imm (.int .i64 x0q3)), .dead, .dead, .dead, .dead, .dead, .dead, .dead, .dead, .dead, .dead, .dead, .dead], hOf [], [], []⟩
theorem e (fuel : Nat) (p0 : List Int) (p1 : List Int) : runF Try.prog X I 0 fuel 48 Try.f48 [.d (.ints .i64 p0), .d (.ints .i64 p1)] =
  (bif ((((p0.length : Nat) : Int) : Int) != ((p1.length : Nat) : Int)) then
  some ([.one ((.bool false), false)], [])
  else
  L0 fuel fuel (t0 p0 p1 0) (k0  fuel)) := by kernel_rfl
theorem s0 (fuel n0 : Nat) (p0 : List Int) (p1 : List Int) (x0q3 : Int) : L0 fuel (n0 + 1) (t0 p0 p1 x0q3) (k0  fuel) =
  (bif (decide ((x0q3 : Int) < ((p0.length : Nat) : Int))) then
  (idx x0q3 p0.length).bind fun j9 =>
  (p0[j9]?).bind fun v10 =>
  (idx x0q3 p1.length).bind fun j11 =>
  (p1[j11]?).bind fun v12 =>
  (bif ((v10 : Int) != v12) then
  some ([.one ((.bool false), false)], [])
  else
  L0 fuel n0 (t0 p0 p1 ((IntKind.wrap .i64 (x0q3 + 1)))) (k0  fuel))
  else
  some ([.one ((.bool true), false)], [])) := by kernel_rfl
end slices_Equal_int_int
theorem slices_Equal_int_int.ok_of (hX : ∀ E ∈ slices_Equal_int_int.X, CallSpec Try.prog E) (h : ∀ (xs : List Int) (ys : List Int), (decide (xs.length < 9223372036854775808) && decide (ys.length < 9223372036854775808)) = true → ∃ fuel, runF Try.prog slices_Equal_int_int.X slices_Equal_int_int.I 0 fuel 48 Try.f48 [.d (.ints .i64 xs), .d (.ints .i64 ys)] = some ([.one ((.bool (decide (xs = ys))), false)], [])) : CallSpec Try.prog slices_Equal_int_int.E :=
  callSpec_of (d := 0) hX (by kernel_rfl) slices_Equal_int_int.I_ok (by kernel_rfl) (by kernel_rfl) (by kernel_rfl) (fun _ _ _ _ h => by dsimp only [slices_Equal_int_int.E] at h; cases h) (fun xs hp => by
    dsimp only [slices_Equal_int_int.E] at hp ⊢
    split at hp
    · exact h _ _ hp
    · cases hp)
theorem slices_Equal_int_int.loop (fuel : Nat) (xs ys : List Int) (hl : xs.length = ys.length) (hx : xs.length < 9223372036854775808) : ∀ (m n j : Nat), xs.length - j = m → m < n → j ≤ xs.length →
    slices_Equal_int_int.L0 fuel n (slices_Equal_int_int.t0 xs ys (j : Int)) (slices_Equal_int_int.k0 fuel) = some ([.one (.bool (decide (xs.drop j = ys.drop j)), false)], []) := by
  intro m
  induction m with
  | zero =>
    intro n j h1 h2 h3
    obtain ⟨n, rfl⟩ : ∃ n', n = n' + 1 := ⟨n - 1, by omega⟩
    have hj : ¬ j < xs.length := by omega
    rw [slices_Equal_int_int.s0, dge hj, dropE hj, dropE (xs := ys) (by omega)]
    rfl
  | succ m ih =>
    intro n j h1 h2 h3
    obtain ⟨n, rfl⟩ : ∃ n', n = n' + 1 := ⟨n - 1, by omega⟩
    have hj : j < xs.length := by omega
    have hj2 : j < ys.length := by omega
    rw [slices_Equal_int_int.s0, dlt hj, idx_nat hj, idx_nat hj2, w1 (by omega), dropS hj, dropS hj2]
    simp only [cond_true, Option.bind_some, getS hj, getS hj2]
    rw [ih n (j + 1) (by omega) (by omega) (by omega)]
    by_cases hv : xs[j] = ys[j]
    · rw [hv]
      simp only [bne_self_eq_false, cond_false, List.cons.injEq, true_and]
    · have : (xs[j] != ys[j]) = true := by simp [hv]
      rw [this]
      simp only [cond_true, List.cons.injEq, hv, false_and, decide_false]

theorem slices_Equal_int_int.ok : CallSpec Try.prog slices_Equal_int_int.E := slices_Equal_int_int.ok_of (by simp [slices_Equal_int_int.X]) fun xs ys h => by
  simp only [Bool.and_eq_true, decide_eq_true_eq] at h
  refine ⟨xs.length + 1, ?_⟩
  rw [slices_Equal_int_int.e]
  by_cases hl : xs.length = ys.length
  · have := slices_Equal_int_int.loop (xs.length + 1) xs ys hl h.1 xs.length (xs.length + 1) 0 (by omega) (by omega) (by omega)
    simp only [List.drop_zero] at this
    simp only [hl, bne_self_eq_false, cond_false]
    rw [← hl]
    exact this
  · have hne : xs ≠ ys := fun e => hl (e ▸ rfl)
    have : (((xs.length : Nat) : Int) != ((ys.length : Nat) : Int)) = true := by simp; omega
    rw [this]
    simp [hne]

namespace impl_layoutOf_j
noncomputable def E : Entry := ⟨43, false, false, fun | [.d (.ints .i64 sh)] => decide (sh.length < 9223372036854775808) | _ => false, fun | [.d (.ints .i64 sh)] => ([.agg [(.junk, false), ((.int .i64 0), false), ((.int .i64 0), false), ((.int .i64 0), false), ((.int .i64 0), false)], .one ((.bool false), false)], []) | _ => ([], []), fun | [.d (.ints .i64 sh)] => [(validS sh, ([.agg [(.junk, false), ((.int .i64 (strd sh 0)), false), ((.int .i64 (strd sh 1)), false), ((.int .i64 (strd sh 2)), false), ((.int .i64 (volW sh)), false)], .one ((.bool true), false)], []))] | _ => [], true, fun _ => none⟩
end impl_layoutOf_j
theorem impl_layoutOf_j.ok : CallSpec Try.prog impl_layoutOf_j.E := CallSpec.le impl_layoutOf.ok rfl (fun _ _ _ _ h => by dsimp only [impl_layoutOf_j.E] at h; cases h) fun xs h => by
  dsimp only [impl_layoutOf_j.E] at h
  split at h
  case h_2 => simp at h
  rename_i sh
  refine ⟨h, ?_⟩
  simp only [Entry.r, impl_layoutOf_j.E, impl_layoutOf.E, pickR]
  cases hv : validS sh
  · refine ⟨.agg rfl (fun i h1 h2 => ?_) (.same .nil), rfl⟩
    match i, h1 with
    | 0, _ => exact .inr (.inr (.inl ⟨rfl, _, _, rfl⟩))
    | 1, _ | 2, _ | 3, _ | 4, _ => exact .inl rfl
  · refine ⟨.agg rfl (fun i h1 h2 => ?_) (.same .nil), rfl⟩
    match i, h1 with
    | 0, _ => exact .inr (.inl ⟨rfl, rfl, rfl, rfl⟩)
    | 1, _ | 2, _ | 3, _ | 4, _ => exact .inl rfl

namespace impl_JoinAxis
noncomputable def E : Entry := ⟨24, false, false, fun | [.d (.agg [(.ints .i64 sa), (.ints .i64 da)]), .d (.agg [(.ints .i64 sb), (.ints .i64 db)]), .d (.int .i64 k)] => decide (sa.length < 9223372036854775808) && decide (da.length < 9223372036854775808) && decide (sb.length < 9223372036854775808) && decide (db.length < 9223372036854775808) | _ => false, fun | [.d (.agg [(.ints .i64 sa), (.ints .i64 da)]), .d (.agg [(.ints .i64 sb), (.ints .i64 db)]), .d (.int .i64 k)] => ([.agg [((.ints .i64 (joS sa da sb db k)), true), ((.ints .i64 (joD sa da sb db k)), true)], .one ((.bool (joB sa da sb db k)), false)], []) | _ => ([], []), fun _ => [], true, fun _ => none⟩
end impl_JoinAxis
namespace impl_JoinAxis
noncomputable def X : List Entry := [impl_axisLength.E, impl_copyList.E, slices_Equal_int_int.E, impl_layoutOf_j.E]
noncomputable def I : List Inl := [⟨24, Try.f24, ⟨[40, 60], [(1000016, [0, 1, 2, 5, 7, 8, 9, 10, 11, 19, 20, 21, 22, 23, 24, 25, 26, 27, 28, 29, 30, 31, 32, 33, 34, 35, 36, 37, 38, 39, 40, 41, 42, 43, 44, 45, 46, 47, 48, 49, 50, 51, 52, 53, 54, 55, 56, 57, 58, 59, 60, 61, 62, 63, 64, 65, 66, 67, 68, 69, 70, 71, 72, 73, 74, 75, 76, 77, 78, 79, 80, 81, 82, 83, 84, 85, 86, 87, 88, 89, 90, 91, 92, 93, 94, 95, 96, 97, 98, 99, 100, 101, 102, 103, 104, 105, 106, 107, 108, 109, 110, 111, 112, 113, 114, 115, 116, 117, 118, 119, 120, 121])], [], [(13, [0, 1, 2, 6, 7, 8, 3, 4, 5, 12, 9, 10, 11, 13]), (18, [0, 1, 2, 4, 6, 7, 8, 9, 10, 11, 12, 3, 5, 13, 14, 15, 16]), (19, [0, 1, 2, 4, 6, 7, 8, 9, 10, 11, 12, 3, 5, 13, 14, 15, 16])], [], []⟩⟩]
theorem I_ok : ∀ i ∈ I, Try.prog.funcs[i.f]? = some i.fn ∧ (i.fn.name == "runtime.NumGoroutine") = false := by
  intro i hi
  simp only [I, List.mem_cons, List.not_mem_nil, or_false] at hi
  subst hi
  exact ⟨by kernel_rfl, by kernel_rfl⟩
noncomputable abbrev L0 (fuel n : Nat) (s : St) (k : Kont) := lAt Try.prog X I fuel true 0 false 24 (bodyOf Try.f24) [1, 1, 1, 1, 1, 1, 1, 1, 1, 1, 1, 1, 0, 1, 0] n s k
noncomputable abbrev k0  (fuel : Nat) : Kont := (kAt Try.prog X I fuel true 0 false 24 (bodyOf Try.f24) [1, 1, 1, 1, 1, 1, 1, 1, 1, 1, 1, 1, 0, 1, 0] [] (endK Try.prog Try.f24))
noncomputable def t0 (p0q0 : List Int) (p0q1 : List Int) (p1q0 : List Int) (p1q1 : List Int) (j1 : Nat) (p2 : Int) (j4 : Nat) (v3 : Int) (x0q0 : Int) (x0q1 : Int) (x0q2 : Int) (x0q3 : Int) (x0q13 : List Int) : St := ⟨[.dead, .dead, .dead, (.ptr 1000000000 0 0), (.ptr 1000000001 0 0), .dead, (.ptr 1000000002 0 0), .dead, .dead, .dead, .dead, .dead, (.all 1000000003 1), (.ptr 1000000004 0 0), (.imm (.int .i64 x0q0)), (.imm (.int .i64 x0q1)), (.all 1000000005 1), (.imm (.int .i64 x0q2)), (.imm (.int .i64 x0q3)), .dead, .dead, .dead, .dead, .dead, .dead, .dead, .dead, .dead, .dead, .dead, .dead, .dead, .dead, .dead, .dead, .dead, .dead, .dead, .dead, .dead, .dead, .dead, .dead, .dead, .dead, .dead, .dead, .dead, .dead, .dead, .dead, .dead, .dead, .dead, .dead, .dead, .dead, .dead, .dead, .dead, .dead, .dead, .dead, .dead, .dead, .dead, .dead, .dead, .dead, .dead, .dead, .dead, .dead, .dead, .dead, .dead, .dead, .dead, .dead, .dead, .dead, .dead, .dead, .dead, .dead, .dead, .dead, .dead, .dead, .dead, .dead, .dead, .dead, .dead, .dead, .dead, .dead, .dead, .dead, .dead, .dead, .dead, .dead, .dead, .dead, .dead, .dead, .dead, .dead, .dead, .dead, .dead, .dead, .dead, .dead, .dead, .dead, .dead, .dead, .dead, .dead, .dead], hOf [(1000000000, (.box [(.imm (.ints .i64 p0q0)), (.imm (.ints .i64 p0q1))])), (1000000001, (.box [(.imm (.ints .i64 p1q0)), (.imm (.ints .i64 p1q1))])), (1000000002, (.box [(.imm .nils), (.imm .nils)])), (1000000003, (.ints .i64 ((p0q0.set j1 (axL p1q0 p1q1 p2)).set j4 (IntKind.wrap .i64 (v3 + (axL p0q0 p0q1 p2)))))), (1000000004, (.box [(.imm .junk), (.imm (.int .i64 (strd (((p0q0.set j1 (axL p1q0 p1q1 p2)).set j4 (IntKind.wrap .i64 (v3 + (axL p0q0 p0q1 p2))))) 0))), (.imm (.int .i64 (strd (((p0q0.set j1 (axL p1q0 p1q1 p2)).set j4 (IntKind.wrap .i64 (v3 + (axL p0q0 p0q1 p2))))) 1))), (.imm (.int .i64 (strd (((p0q0.set j1 (axL p1q0 p1q1 p2)).set j4 (IntKind.wrap .i64 (v3 + (axL p0q0 p0q1 p2))))) 2))), (.imm (.int .i64 (volW (((p0q0.set j1 (axL p1q0 p1q1 p2)).set j4 (IntKind.wrap .i64 (v3 + (axL p0q0 p0q1 p2))))))))])), (1000000005, (.ints .i64 x0q13))], [], []⟩
theorem e (fuel : Nat) (p0q0 : List Int) (p0q1 : List Int) (p1q0 : List Int) (p1q1 : List Int) (p2 : Int) : runF Try.prog X I 0 fuel 24 Try.f24 [.d (.agg [(.ints .i64 p0q0), (.ints .i64 p0q1)]), .d (.agg [(.ints .i64 p1q0), (.ints .i64 p1q1)]), .d (.int .i64 p2)] =
  (bif decide (p0q0.length < 9223372036854775808) && decide (p0q1.length < 9223372036854775808) then
  (bif decide (p1q0.length < 9223372036854775808) && decide (p1q1.length < 9223372036854775808) then
  (bif (!(axB p0q0 p0q1 p2)) then
  some ([.agg [((.ints .i64 []), true), ((.ints .i64 []), true)], .one ((.bool false), false)], [])
  else
  (bif (!(axB p1q0 p1q1 p2)) then
  some ([.agg [((.ints .i64 []), true), ((.ints .i64 []), true)], .one ((.bool false), false)], [])
  else
  (bif szB p0q0 then
  (idx p2 p0q0.length).bind fun j1 =>
  (bif decide (j1 < p0q0.length) then
  (bif decide (((p0q0.set j1 (axL p1q0 p1q1 p2))).length < 9223372036854775808) && decide (p1q0.length < 9223372036854775808) then
  (bif (!(decide (((p0q0.set j1 (axL p1q0 p1q1 p2))) = p1q0))) then
  some ([.agg [((.ints .i64 []), true), ((.ints .i64 []), true)], .one ((.bool false), false)], [])
  else
  (idx p2 (p0q0.set j1 (axL p1q0 p1q1 p2)).length).bind fun j2 =>
  ((p0q0.set j1 (axL p1q0 p1q1 p2))[j2]?).bind fun v3 =>
  (idx p2 (p0q0.set j1 (axL p1q0 p1q1 p2)).length).bind fun j4 =>
  (bif decide (j4 < (p0q0.set j1 (axL p1q0 p1q1 p2)).length) then
  (bif decide ((((p0q0.set j1 (axL p1q0 p1q1 p2)).set j4 (IntKind.wrap .i64 (v3 + (axL p0q0 p0q1 p2))))).length < 9223372036854775808) then
  (bif validS (((p0q0.set j1 (axL p1q0 p1q1 p2)).set j4 (IntKind.wrap .i64 (v3 + (axL p0q0 p0q1 p2))))) then
  (bif decide (p2 = ((0 : Nat) : Int)) then
  (bif decide (p2 = ((0 : Nat) : Int)) then
  (bif decide (0 ≤ ((volW (((p0q0.set j1 (axL p1q0 p1q1 p2)).set j4 (IntKind.wrap .i64 (v3 + (axL p0q0 p0q1 p2)))))) : Int)) && decide (((volW (((p0q0.set j1 (axL p1q0 p1q1 p2)).set j4 (IntKind.wrap .i64 (v3 + (axL p0q0 p0q1 p2)))))) : Int) ≤ (volW (((p0q0.set j1 (axL p1q0 p1q1 p2)).set j4 (IntKind.wrap .i64 (v3 + (axL p0q0 p0q1 p2))))))) && decide (((volW (((p0q0.set j1 (axL p1q0 p1q1 p2)).set j4 (IntKind.wrap .i64 (v3 + (axL p0q0 p0q1 p2)))))) : Int) ≤ 1152921504606846976) && decide (((8 : Nat) : Int) * (volW (((p0q0.set j1 (axL p1q0 p1q1 p2)).set j4 (IntKind.wrap .i64 (v3 + (axL p0q0 p0q1 p2)))))) ≤ 281474976710656) then
  L0 fuel fuel (t0 p0q0 p0q1 p1q0 p1q1 j1 p2 j4 v3 ((IntKind.wrap .i64 ((axL p0q0 p0q1 p2) * (strd (((p0q0.set j1 (axL p1q0 p1q1 p2)).set j4 (IntKind.wrap .i64 (v3 + (axL p0q0 p0q1 p2))))) 0)))) ((IntKind.wrap .i64 ((axL p1q0 p1q1 p2) * (strd (((p0q0.set j1 (axL p1q0 p1q1 p2)).set j4 (IntKind.wrap .i64 (v3 + (axL p0q0 p0q1 p2))))) 0)))) 0 0 ((List.replicate ((volW (((p0q0.set j1 (axL p1q0 p1q1 p2)).set j4 (IntKind.wrap .i64 (v3 + (axL p0q0 p0q1 p2))))))).toNat (0 : Int)))) (k0  fuel)
  else
  none)
  else
  (bif decide (p2 = ((1 : Nat) : Int)) then
  (bif decide (0 ≤ ((volW (((p0q0.set j1 (axL p1q0 p1q1 p2)).set j4 (IntKind.wrap .i64 (v3 + (axL p0q0 p0q1 p2)))))) : Int)) && decide (((volW (((p0q0.set j1 (axL p1q0 p1q1 p2)).set j4 (IntKind.wrap .i64 (v3 + (axL p0q0 p0q1 p2)))))) : Int) ≤ (volW (((p0q0.set j1 (axL p1q0 p1q1 p2)).set j4 (IntKind.wrap .i64 (v3 + (axL p0q0 p0q1 p2))))))) && decide (((volW (((p0q0.set j1 (axL p1q0 p1q1 p2)).set j4 (IntKind.wrap .i64 (v3 + (axL p0q0 p0q1 p2)))))) : Int) ≤ 1152921504606846976) && decide (((8 : Nat) : Int) * (volW (((p0q0.set j1 (axL p1q0 p1q1 p2)).set j4 (IntKind.wrap .i64 (v3 + (axL p0q0 p0q1 p2)))))) ≤ 281474976710656) then
  L0 fuel fuel (t0 p0q0 p0q1 p1q0 p1q1 j1 p2 j4 v3 ((IntKind.wrap .i64 ((axL p0q0 p0q1 p2) * (strd (((p0q0.set j1 (axL p1q0 p1q1 p2)).set j4 (IntKind.wrap .i64 (v3 + (axL p0q0 p0q1 p2))))) 0)))) ((IntKind.wrap .i64 ((axL p1q0 p1q1 p2) * (strd (((p0q0.set j1 (axL p1q0 p1q1 p2)).set j4 (IntKind.wrap .i64 (v3 + (axL p0q0 p0q1 p2))))) 1)))) 0 0 ((List.replicate ((volW (((p0q0.set j1 (axL p1q0 p1q1 p2)).set j4 (IntKind.wrap .i64 (v3 + (axL p0q0 p0q1 p2))))))).toNat (0 : Int)))) (k0  fuel)
  else
  none)
  else
  (bif decide (p2 = ((2 : Nat) : Int)) then
  (bif decide (0 ≤ ((volW (((p0q0.set j1 (axL p1q0 p1q1 p2)).set j4 (IntKind.wrap .i64 (v3 + (axL p0q0 p0q1 p2)))))) : Int)) && decide (((volW (((p0q0.set j1 (axL p1q0 p1q1 p2)).set j4 (IntKind.wrap .i64 (v3 + (axL p0q0 p0q1 p2)))))) : Int) ≤ (volW (((p0q0.set j1 (axL p1q0 p1q1 p2)).set j4 (IntKind.wrap .i64 (v3 + (axL p0q0 p0q1 p2))))))) && decide (((volW (((p0q0.set j1 (axL p1q0 p1q1 p2)).set j4 (IntKind.wrap .i64 (v3 + (axL p0q0 p0q1 p2)))))) : Int) ≤ 1152921504606846976) && decide (((8 : Nat) : Int) * (volW (((p0q0.set j1 (axL p1q0 p1q1 p2)).set j4 (IntKind.wrap .i64 (v3 + (axL p0q0 p0q1 p2)))))) ≤ 281474976710656) then
  L0 fuel fuel (t0 p0q0 p0q1 p1q0 p1q1 j1 p2 j4 v3 ((IntKind.wrap .i64 ((axL p0q0 p0q1 p2) * (strd (((p0q0.set j1 (axL p1q0 p1q1 p2)).set j4 (IntKind.wrap .i64 (v3 + (axL p0q0 p0q1 p2))))) 0)))) ((IntKind.wrap .i64 ((axL p1q0 p1q1 p2) * (strd (((p0q0.set j1 (axL p1q0 p1q1 p2)).set j4 (IntKind.wrap .i64 (v3 + (axL p0q0 p0q1 p2))))) 2)))) 0 0 ((List.replicate ((volW (((p0q0.set j1 (axL p1q0 p1q1 p2)).set j4 (IntKind.wrap .i64 (v3 + (axL p0q0 p0q1 p2))))))).toNat (0 : Int)))) (k0  fuel)
  else
  none)
  else
  none)))
  else
  (bif decide (p2 = ((1 : Nat) : Int)) then
  (bif decide (p2 = ((0 : Nat) : Int)) then
  (bif decide (0 ≤ ((volW (((p0q0.set j1 (axL p1q0 p1q1 p2)).set j4 (IntKind.wrap .i64 (v3 + (axL p0q0 p0q1 p2)))))) : Int)) && decide (((volW (((p0q0.set j1 (axL p1q0 p1q1 p2)).set j4 (IntKind.wrap .i64 (v3 + (axL p0q0 p0q1 p2)))))) : Int) ≤ (volW (((p0q0.set j1 (axL p1q0 p1q1 p2)).set j4 (IntKind.wrap .i64 (v3 + (axL p0q0 p0q1 p2))))))) && decide (((volW (((p0q0.set j1 (axL p1q0 p1q1 p2)).set j4 (IntKind.wrap .i64 (v3 + (axL p0q0 p0q1 p2)))))) : Int) ≤ 1152921504606846976) && decide (((8 : Nat) : Int) * (volW (((p0q0.set j1 (axL p1q0 p1q1 p2)).set j4 (IntKind.wrap .i64 (v3 + (axL p0q0 p0q1 p2)))))) ≤ 281474976710656) then
  L0 fuel fuel (t0 p0q0 p0q1 p1q0 p1q1 j1 p2 j4 v3 ((IntKind.wrap .i64 ((axL p0q0 p0q1 p2) * (strd (((p0q0.set j1 (axL p1q0 p1q1 p2)).set j4 (IntKind.wrap .i64 (v3 + (axL p0q0 p0q1 p2))))) 1)))) ((IntKind.wrap .i64 ((axL p1q0 p1q1 p2) * (strd (((p0q0.set j1 (axL p1q0 p1q1 p2)).set j4 (IntKind.wrap .i64 (v3 + (axL p0q0 p0q1 p2))))) 0)))) 0 0 ((List.replicate ((volW (((p0q0.set j1 (axL p1q0 p1q1 p2)).set j4 (IntKind.wrap .i64 (v3 + (axL p0q0 p0q1 p2))))))).toNat (0 : Int)))) (k0  fuel)
  else
  none)
  else
  (bif decide (p2 = ((1 : Nat) : Int)) then
  (bif decide (0 ≤ ((volW (((p0q0.set j1 (axL p1q0 p1q1 p2)).set j4 (IntKind.wrap .i64 (v3 + (axL p0q0 p0q1 p2)))))) : Int)) && decide (((volW (((p0q0.set j1 (axL p1q0 p1q1 p2)).set j4 (IntKind.wrap .i64 (v3 + (axL p0q0 p0q1 p2)))))) : Int) ≤ (volW (((p0q0.set j1 (axL p1q0 p1q1 p2)).set j4 (IntKind.wrap .i64 (v3 + (axL p0q0 p0q1 p2))))))) && decide (((volW (((p0q0.set j1 (axL p1q0 p1q1 p2)).set j4 (IntKind.wrap .i64 (v3 + (axL p0q0 p0q1 p2)))))) : Int) ≤ 1152921504606846976) && decide (((8 : Nat) : Int) * (volW (((p0q0.set j1 (axL p1q0 p1q1 p2)).set j4 (IntKind.wrap .i64 (v3 + (axL p0q0 p0q1 p2)))))) ≤ 281474976710656) then
  L0 fuel fuel (t0 p0q0 p0q1 p1q0 p1q1 j1 p2 j4 v3 ((IntKind.wrap .i64 ((axL p0q0 p0q1 p2) * (strd (((p0q0.set j1 (axL p1q0 p1q1 p2)).set j4 (IntKind.wrap .i64 (v3 + (axL p0q0 p0q1 p2))))) 1)))) ((IntKind.wrap .i64 ((axL p1q0 p1q1 p2) * (strd (((p0q0.set j1 (axL p1q0 p1q1 p2)).set j4 (IntKind.wrap .i64 (v3 + (axL p0q0 p0q1 p2))))) 1)))) 0 0 ((List.replicate ((volW (((p0q0.set j1 (axL p1q0 p1q1 p2)).set j4 (IntKind.wrap .i64 (v3 + (axL p0q0 p0q1 p2))))))).toNat (0 : Int)))) (k0  fuel)
  else
  none)
  else
  (bif decide (p2 = ((2 : Nat) : Int)) then
  (bif decide (0 ≤ ((volW (((p0q0.set j1 (axL p1q0 p1q1 p2)).set j4 (IntKind.wrap .i64 (v3 + (axL p0q0 p0q1 p2)))))) : Int)) && decide (((volW (((p0q0.set j1 (axL p1q0 p1q1 p2)).set j4 (IntKind.wrap .i64 (v3 + (axL p0q0 p0q1 p2)))))) : Int) ≤ (volW (((p0q0.set j1 (axL p1q0 p1q1 p2)).set j4 (IntKind.wrap .i64 (v3 + (axL p0q0 p0q1 p2))))))) && decide (((volW (((p0q0.set j1 (axL p1q0 p1q1 p2)).set j4 (IntKind.wrap .i64 (v3 + (axL p0q0 p0q1 p2)))))) : Int) ≤ 1152921504606846976) && decide (((8 : Nat) : Int) * (volW (((p0q0.set j1 (axL p1q0 p1q1 p2)).set j4 (IntKind.wrap .i64 (v3 + (axL p0q0 p0q1 p2)))))) ≤ 281474976710656) then
  L0 fuel fuel (t0 p0q0 p0q1 p1q0 p1q1 j1 p2 j4 v3 ((IntKind.wrap .i64 ((axL p0q0 p0q1 p2) * (strd (((p0q0.set j1 (axL p1q0 p1q1 p2)).set j4 (IntKind.wrap .i64 (v3 + (axL p0q0 p0q1 p2))))) 1)))) ((IntKind.wrap .i64 ((axL p1q0 p1q1 p2) * (strd (((p0q0.set j1 (axL p1q0 p1q1 p2)).set j4 (IntKind.wrap .i64 (v3 + (axL p0q0 p0q1 p2))))) 2)))) 0 0 ((List.replicate ((volW (((p0q0.set j1 (axL p1q0 p1q1 p2)).set j4 (IntKind.wrap .i64 (v3 + (axL p0q0 p0q1 p2))))))).toNat (0 : Int)))) (k0  fuel)
  else
  none)
  else
  none)))
  else
  (bif decide (p2 = ((2 : Nat) : Int)) then
  (bif decide (p2 = ((0 : Nat) : Int)) then
  (bif decide (0 ≤ ((volW (((p0q0.set j1 (axL p1q0 p1q1 p2)).set j4 (IntKind.wrap .i64 (v3 + (axL p0q0 p0q1 p2)))))) : Int)) && decide (((volW (((p0q0.set j1 (axL p1q0 p1q1 p2)).set j4 (IntKind.wrap .i64 (v3 + (axL p0q0 p0q1 p2)))))) : Int) ≤ (volW (((p0q0.set j1 (axL p1q0 p1q1 p2)).set j4 (IntKind.wrap .i64 (v3 + (axL p0q0 p0q1 p2))))))) && decide (((volW (((p0q0.set j1 (axL p1q0 p1q1 p2)).set j4 (IntKind.wrap .i64 (v3 + (axL p0q0 p0q1 p2)))))) : Int) ≤ 1152921504606846976) && decide (((8 : Nat) : Int) * (volW (((p0q0.set j1 (axL p1q0 p1q1 p2)).set j4 (IntKind.wrap .i64 (v3 + (axL p0q0 p0q1 p2)))))) ≤ 281474976710656) then
  L0 fuel fuel (t0 p0q0 p0q1 p1q0 p1q1 j1 p2 j4 v3 ((IntKind.wrap .i64 ((axL p0q0 p0q1 p2) * (strd (((p0q0.set j1 (axL p1q0 p1q1 p2)).set j4 (IntKind.wrap .i64 (v3 + (axL p0q0 p0q1 p2))))) 2)))) ((IntKind.wrap .i64 ((axL p1q0 p1q1 p2) * (strd (((p0q0.set j1 (axL p1q0 p1q1 p2)).set j4 (IntKind.wrap .i64 (v3 + (axL p0q0 p0q1 p2))))) 0)))) 0 0 ((List.replicate ((volW (((p0q0.set j1 (axL p1q0 p1q1 p2)).set j4 (IntKind.wrap .i64 (v3 + (axL p0q0 p0q1 p2))))))).toNat (0 : Int)))) (k0  fuel)
  else
  none)
  else
  (bif decide (p2 = ((1 : Nat) : Int)) then
  (bif decide (0 ≤ ((volW (((p0q0.set j1 (axL p1q0 p1q1 p2)).set j4 (IntKind.wrap .i64 (v3 + (axL p0q0 p0q1 p2)))))) : Int)) && decide (((volW (((p0q0.set j1 (axL p1q0 p1q1 p2)).set j4 (IntKind.wrap .i64 (v3 + (axL p0q0 p0q1 p2)))))) : Int) ≤ (volW (((p0q0.set j1 (axL p1q0 p1q1 p2)).set j4 (IntKind.wrap .i64 (v3 + (axL p0q0 p0q1 p2))))))) && decide (((volW (((p0q0.set j1 (axL p1q0 p1q1 p2)).set j4 (IntKind.wrap .i64 (v3 + (axL p0q0 p0q1 p2)))))) : Int) ≤ 1152921504606846976) && decide (((8 : Nat) : Int) * (volW (((p0q0.set j1 (axL p1q0 p1q1 p2)).set j4 (IntKind.wrap .i64 (v3 + (axL p0q0 p0q1 p2)))))) ≤ 281474976710656) then
  L0 fuel fuel (t0 p0q0 p0q1 p1q0 p1q1 j1 p2 j4 v3 ((IntKind.wrap .i64 ((axL p0q0 p0q1 p2) * (strd (((p0q0.set j1 (axL p1q0 p1q1 p2)).set j4 (IntKind.wrap .i64 (v3 + (axL p0q0 p0q1 p2))))) 2)))) ((IntKind.wrap .i64 ((axL p1q0 p1q1 p2) * (strd (((p0q0.set j1 (axL p1q0 p1q1 p2)).set j4 (IntKind.wrap .i64 (v3 + (axL p0q0 p0q1 p2))))) 1)))) 0 0 ((List.replicate ((volW (((p0q0.set j1 (axL p1q0 p1q1 p2)).set j4 (IntKind.wrap .i64 (v3 + (axL p0q0 p0q1 p2))))))).toNat (0 : Int)))) (k0  fuel)
  else
  none)
  else
  (bif decide (p2 = ((2 : Nat) : Int)) then
  (bif decide (0 ≤ ((volW (((p0q0.set j1 (axL p1q0 p1q1 p2)).set j4 (IntKind.wrap .i64 (v3 + (axL p0q0 p0q1 p2)))))) : Int)) && decide (((volW (((p0q0.set j1 (axL p1q0 p1q1 p2)).set j4 (IntKind.wrap .i64 (v3 + (axL p0q0 p0q1 p2)))))) : Int) ≤ (volW (((p0q0.set j1 (axL p1q0 p1q1 p2)).set j4 (IntKind.wrap .i64 (v3 + (axL p0q0 p0q1 p2))))))) && decide (((volW (((p0q0.set j1 (axL p1q0 p1q1 p2)).set j4 (IntKind.wrap .i64 (v3 + (axL p0q0 p0q1 p2)))))) : Int) ≤ 1152921504606846976) && decide (((8 : Nat) : Int) * (volW (((p0q0.set j1 (axL p1q0 p1q1 p2)).set j4 (IntKind.wrap .i64 (v3 + (axL p0q0 p0q1 p2)))))) ≤ 281474976710656) then
  L0 fuel fuel (t0 p0q0 p0q1 p1q0 p1q1 j1 p2 j4 v3 ((IntKind.wrap .i64 ((axL p0q0 p0q1 p2) * (strd (((p0q0.set j1 (axL p1q0 p1q1 p2)).set j4 (IntKind.wrap .i64 (v3 + (axL p0q0 p0q1 p2))))) 2)))) ((IntKind.wrap .i64 ((axL p1q0 p1q1 p2) * (strd (((p0q0.set j1 (axL p1q0 p1q1 p2)).set j4 (IntKind.wrap .i64 (v3 + (axL p0q0 p0q1 p2))))) 2)))) 0 0 ((List.replicate ((volW (((p0q0.set j1 (axL p1q0 p1q1 p2)).set j4 (IntKind.wrap .i64 (v3 + (axL p0q0 p0q1 p2))))))).toNat (0 : Int)))) (k0  fuel)
  else
  none)
  else
  none)))
  else
  none)))
  else
  some ([.agg [((.ints .i64 []), true), ((.ints .i64 []), true)], .one ((.bool false), false)], []))
  else
  none)
  else
  none))
  else
  none)
  else
  none)
  else
  none)))
  else
  none)
  else
  none) := by kernel_rfl
theorem s0 (fuel n0 : Nat) (p0q0 : List Int) (p0q1 : List Int) (p1q0 : List Int) (p1q1 : List Int) (j1 : Nat) (p2 : Int) (j4 : Nat) (v3 : Int) (x0q0 : Int) (x0q1 : Int) (x0q2 : Int) (x0q3 : Int) (x0q13 : List Int) : L0 fuel (n0 + 1) (t0 p0q0 p0q1 p1q0 p1q1 j1 p2 j4 v3 x0q0 x0q1 x0q2 x0q3 x0q13) (k0  fuel) =
  (bif (decide ((x0q3 : Int) < (volW (((p0q0.set j1 (axL p1q0 p1q1 p2)).set j4 (IntKind.wrap .i64 (v3 + (axL p0q0 p0q1 p2)))))))) then
  (cutEnds x0q13.length (some (.imm (.int .i64 x0q3))) (none)).bind fun cq9 =>
  (cutEnds p0q1.length (some (.imm (.int .i64 (IntKind.wrap .i64 (x0q2 * x0q0))))) (some (.imm (.int .i64 (IntKind.wrap .i64 ((IntKind.wrap .i64 (x0q2 + 1)) * x0q0)))))).bind fun cq10 =>
  (bif decide (cq9.1 + (cq9.2 - cq9.1) ≤ x0q13.length) then
  (cutEnds (copyL x0q13 cq9.1 ((cq9.2 - cq9.1)) ((p0q1.drop cq10.1).take (cq10.2 - cq10.1))).length (some (.imm (.int .i64 (IntKind.wrap .i64 (x0q3 + ((min ((p0q1.drop cq10.1).take (cq10.2 - cq10.1)).length ((cq9.2 - cq9.1)) : Nat) : Int)))))) (none)).bind fun cq11 =>
  (cutEnds p1q1.length (some (.imm (.int .i64 (IntKind.wrap .i64 (x0q2 * x0q1))))) (some (.imm (.int .i64 (IntKind.wrap .i64 ((IntKind.wrap .i64 (x0q2 + 1)) * x0q1)))))).bind fun cq12 =>
  (bif decide (cq11.1 + (cq11.2 - cq11.1) ≤ (copyL x0q13 cq9.1 ((cq9.2 - cq9.1)) ((p0q1.drop cq10.1).take (cq10.2 - cq10.1))).length) then
  L0 fuel n0 (t0 p0q0 p0q1 p1q0 p1q1 j1 p2 j4 v3 x0q0 x0q1 ((IntKind.wrap .i64 (x0q2 + 1))) ((IntKind.wrap .i64 ((IntKind.wrap .i64 (x0q3 + ((min ((p0q1.drop cq10.1).take (cq10.2 - cq10.1)).length ((cq9.2 - cq9.1)) : Nat) : Int))) + ((min ((p1q1.drop cq12.1).take (cq12.2 - cq12.1)).length ((cq11.2 - cq11.1)) : Nat) : Int)))) ((copyL (copyL x0q13 cq9.1 ((cq9.2 - cq9.1)) ((p0q1.drop cq10.1).take (cq10.2 - cq10.1))) cq11.1 ((cq11.2 - cq11.1)) ((p1q1.drop cq12.1).take (cq12.2 - cq12.1))))) (k0  fuel)
  else
  none)
  else
  none)
  else
  some ([.agg [((.ints .i64 ((p0q0.set j1 (axL p1q0 p1q1 p2)).set j4 (IntKind.wrap .i64 (v3 + (axL p0q0 p0q1 p2))))), true), ((.ints .i64 x0q13), true)], .one ((.bool true), false)], [])) := by kernel_rfl
end impl_JoinAxis
theorem impl_JoinAxis.ok_of (hX : ∀ E ∈ impl_JoinAxis.X, CallSpec Try.prog E) (h : ∀ (sa : List Int) (da : List Int) (sb : List Int) (db : List Int) (k : Int), (decide (sa.length < 9223372036854775808) && decide (da.length < 9223372036854775808) && decide (sb.length < 9223372036854775808) && decide (db.length < 9223372036854775808)) = true → ∃ fuel, runF Try.prog impl_JoinAxis.X impl_JoinAxis.I 0 fuel 24 Try.f24 [.d (.agg [(.ints .i64 sa), (.ints .i64 da)]), .d (.agg [(.ints .i64 sb), (.ints .i64 db)]), .d (.int .i64 k)] = some ([.agg [((.ints .i64 (joS sa da sb db k)), true), ((.ints .i64 (joD sa da sb db k)), true)], .one ((.bool (joB sa da sb db k)), false)], [])) : CallSpec Try.prog impl_JoinAxis.E :=
  callSpec_of (d := 0) hX (by kernel_rfl) impl_JoinAxis.I_ok (by kernel_rfl) (by kernel_rfl) (by kernel_rfl) (fun _ _ _ _ h => by dsimp only [impl_JoinAxis.E] at h; cases h) (fun xs hp => by
    dsimp only [impl_JoinAxis.E] at hp ⊢
    split at hp
    · exact h _ _ _ _ _ hp
    · cases hp)
theorem impl_JoinAxis.loop (fuel : Nat) (sa da sb db : List Int) (j : Nat) (o : JoOk sa da sb db j) (hk : (sa.set j (axL sb db (j : Int))).set j (IntKind.wrap .i64 (((lenN sb j : Nat) : Int) + (axL sa da (j : Int)))) = joSh sa sb j) (hf : 3600 < fuel) :
    impl_JoinAxis.L0 fuel fuel (impl_JoinAxis.t0 sa da sb db j (j : Int) j ((lenN sb j : Nat) : Int) ((lenN sa j * behN sa j : Nat) : Int) ((lenN sb j * behN sa j : Nat) : Int) 0 0 (List.replicate (befN sa j * (lenN sa j * behN sa j + lenN sb j * behN sa j)) 0)) (impl_JoinAxis.k0 fuel) = some ([.agg [((.ints .i64 (joSh sa sb j)), true), ((.ints .i64 (joN sa da sb db j)), true)], .one ((.bool true), false)], []) := by
  have hda := o.da
  have hdb := o.db
  have hle := o.le
  have hvol := o.vol
  have hla := validA_len o.va
  have hlb := validA_len o.vb
  have hB := o.xa.bef_le
  unfold joN
  generalize hxe : lenN sa j * behN sa j = x at *
  generalize hye : lenN sb j * behN sa j = y at *
  generalize befN sa j = B at *
  by_cases hz : x + y = 0
  · obtain ⟨f, hf1⟩ : ∃ f, fuel = f + 1 := ⟨fuel - 1, by omega⟩
    have e0 : joC x y da db B = [] := by
      have := joC_len (x := x) (y := y) (da := da) (db := db) B (by omega) (by omega)
      rw [hz, Nat.mul_zero] at this
      exact List.length_eq_zero_iff.1 this
    rw [hz, Nat.mul_zero] at hvol ⊢
    conv => lhs; arg 2; rw [hf1]
    rw [impl_JoinAxis.s0, hk, hvol, e0]
    rfl
  · refine run_loop (N := B) (fun n i (s : Int × List Int) => impl_JoinAxis.L0 fuel n (impl_JoinAxis.t0 sa da sb db j (j : Int) j ((lenN sb j : Nat) : Int) (x : Int) (y : Int) (i : Int) s.1 s.2) (impl_JoinAxis.k0 fuel)) (fun i s => s.1 = ((i * (x + y) : Nat) : Int) ∧ s.2 = joC x y da db i ++ List.replicate (B * (x + y) - i * (x + y)) 0) ?_ ?_ fuel 0 (0, List.replicate (B * (x + y)) 0) (by omega) (by omega) ⟨by simp, by simp [joC]⟩
    · rintro n ⟨c, out⟩ ⟨hc, ho⟩
      simp only at hc ho
      subst hc
      dsimp only
      rw [Nat.sub_self, List.replicate_zero, List.append_nil] at ho
      rw [impl_JoinAxis.s0, hk, hvol, dge (by omega), cond_false, ho]
    · rintro n i ⟨c, out⟩ hi ⟨hc, ho⟩
      simp only at hc ho
      subst hc
      dsimp only
      have h1 : (i + 1) * x ≤ B * x := Nat.mul_le_mul_right _ hi
      have h2 : (i + 1) * y ≤ B * y := Nat.mul_le_mul_right _ hi
      have h3 : i * x ≤ (i + 1) * x := Nat.mul_le_mul_right _ (by omega)
      have h4 : i * y ≤ (i + 1) * y := Nat.mul_le_mul_right _ (by omega)
      have hl := joC_len (x := x) (y := y) (da := da) (db := db) i (by omega) (by omega)
      have h5 : (i + 1) * (x + y) ≤ B * (x + y) := Nat.mul_le_mul_right _ hi
      have h6 : (i + 1) * (x + y) = i * (x + y) + (x + y) := by rw [Nat.add_mul, Nat.one_mul]
      have q1 : ((da.drop (i * x)).take x).length = x := by simp only [List.length_take, List.length_drop]; rw [Nat.add_mul, Nat.one_mul] at h1; omega
      have q2 : ((db.drop (i * y)).take y).length = y := by simp only [List.length_take, List.length_drop]; rw [Nat.add_mul, Nat.one_mul] at h2; omega
      have hol : out.length = B * (x + y) := by rw [ho, List.length_append, hl, List.length_replicate]; omega
      have c1 : copyL out (i * (x + y)) (B * (x + y) - i * (x + y)) ((da.drop (i * x)).take x) = joC x y da db i ++ (da.drop (i * x)).take x ++ List.replicate (B * (x + y) - i * (x + y) - x) 0 := by
        have := copy_zero (A := joC x y da db i) (ys := (da.drop (i * x)).take x) (K := B * (x + y) - i * (x + y)) (by omega)
        rw [hl, q1] at this
        rw [ho, this]
      have hl2 : (joC x y da db i ++ (da.drop (i * x)).take x).length = i * (x + y) + x := by rw [List.length_append, hl, q1]
      have c2 : copyL (joC x y da db i ++ (da.drop (i * x)).take x ++ List.replicate (B * (x + y) - i * (x + y) - x) 0) (i * (x + y) + x) (B * (x + y) - (i * (x + y) + x)) ((db.drop (i * y)).take y) = joC x y da db (i + 1) ++ List.replicate (B * (x + y) - (i + 1) * (x + y)) 0 := by
        have := copy_zero (A := joC x y da db i ++ (da.drop (i * x)).take x) (ys := (db.drop (i * y)).take y) (K := B * (x + y) - i * (x + y) - x) (by omega)
        rw [hl2, q2] at this
        rw [show B * (x + y) - (i * (x + y) + x) = B * (x + y) - i * (x + y) - x by omega, this, show B * (x + y) - i * (x + y) - x - y = B * (x + y) - (i + 1) * (x + y) by omega]
        rfl
      rw [impl_JoinAxis.s0, hk, hvol, dlt (by omega), cond_true, hol, cut_lo (by omega), w1 (by omega), wMul (by omega), wMul (by omega), wMul (by omega), wMul (by omega), cut_both h3 (by omega), cut_both h4 (by omega)]
      simp only [Option.bind_some, ce_cut, c1]
      rw [decide_eq_true (by omega), cond_true, q1, show min x (B * (x + y) - i * (x + y)) = x by omega, wAdd (by omega)]
      have hl3 : (joC x y da db i ++ (da.drop (i * x)).take x ++ List.replicate (B * (x + y) - i * (x + y) - x) 0).length = B * (x + y) := by rw [List.length_append, hl2, List.length_replicate]; omega
      rw [hl3, cut_lo (by omega)]
      simp only [Option.bind_some, c2]
      rw [decide_eq_true (by omega), cond_true, q2, show min y (B * (x + y) - (i * (x + y) + x)) = y by omega, wAdd (by omega)]
      exact ⟨(((i + 1) * (x + y) : Nat), _), ⟨rfl, rfl⟩, by rw [show i * (x + y) + x + y = (i + 1) * (x + y) by omega]⟩
theorem impl_JoinAxis.ok : CallSpec Try.prog impl_JoinAxis.E := impl_JoinAxis.ok_of (by simp [impl_JoinAxis.X, impl_axisLength.ok, impl_copyList.ok, slices_Equal_int_int.ok, impl_layoutOf_j.ok]) fun sa da sb db k h => by
  obtain ⟨F, hF⟩ : ∃ F : Nat, 3600 < F := ⟨3601, by omega⟩
  refine ⟨F, ?_⟩
  simp only [Bool.and_eq_true] at h
  obtain ⟨⟨⟨h1, h2⟩, h3⟩, h4⟩ := h
  rw [impl_JoinAxis.e, h1, h2, h3, h4]
  unfold joS joD
  cases ha : axB sa da k with
  | false =>
    have : joB sa da sb db k = false := by simp only [joB, ha, Bool.false_and]
    rw [this]; rfl
  | true =>
    cases hb : axB sb db k with
    | false =>
      have : joB sa da sb db k = false := by simp only [joB, hb, Bool.false_and, Bool.and_false]
      rw [this]; rfl
    | true =>
      obtain ⟨j, rfl, hj, hv, ax, hd, hl⟩ := axB_inv ha
      obtain ⟨j2, e2, hj2, hv2, ax2, hd2, hl2⟩ := axB_inv hb
      obtain rfl : j = j2 := by omega
      have hr := ax.rank
      have hr2 := ax2.rank
      have hLa := ax.len_le
      have hLb := ax2.len_le
      have hset : sa.set j (axL sb db (j : Int)) = sa.set j (sb.getD j 0) := by rw [hl2, ax2.len]
      have hk : (sa.set j (axL sb db (j : Int))).set j (IntKind.wrap .i64 (((lenN sb j : Nat) : Int) + (axL sa da (j : Int)))) = joSh sa sb j := by
        rw [List.set_set, hl, wAdd (by omega)]
        unfold joSh
        rw [ax.len, ax2.len, ← Int.natCast_add, Nat.add_comm]
      rw [szB_of (xs := sa) (by omega), idx_nat hj]
      simp only [cond_true, Bool.not_true, cond_false, Option.bind_some]
      rw [decide_eq_true hj, cond_true, lt_of (by rw [List.length_set]; omega)]
      by_cases hs : sa.set j (sb.getD j 0) = sb
      · rw [hset] at hk ⊢
        rw [decide_eq_true hs, List.length_set, idx_nat hj]
        simp only [cond_true, Bool.and_self, Bool.not_true, cond_false, Option.bind_some]
        rw [List.getElem?_set_self hj]
        simp only [Option.bind_some]
        rw [decide_eq_true hj, cond_true, ax2.len]
        rw [ax2.len] at hk
        rw [hk, lt_of (by unfold joSh; rw [List.length_set]; omega), cond_true]
        have hjo : joB sa da sb db (j : Int) = validS (joSh sa sb j) := by
          simp only [joB, ha, hb, Int.toNat_natCast, decide_eq_true hs, Bool.true_and]
        cases hvs : validS (joSh sa sb j) with
        | false => rw [hjo, hvs]; rfl
        | true =>
          rw [hvs] at hjo
          obtain ⟨j3, e3, o⟩ := joB_inv hjo
          obtain rfl : j = j3 := by omega
          have hvol := o.vol
          have hle := o.le
          have hj5 : j < (joSh sa sb j).length := by unfold joSh; rw [List.length_set]; exact hj
          have hst : strd (joSh sa sb j) j = ((behN sa j : Nat) : Int) := by
            rw [strd_beh (ax_of hvs hj5), o.sh, beh_set]
          have hx : lenN sa j * behN sa j ≤ 60 * 3600 := Nat.mul_le_mul hLa ax.beh_le
          have hy : lenN sb j * behN sa j ≤ 60 * 3600 := Nat.mul_le_mul hLb ax.beh_le
          have hk2 : (sa.set j (axL sb db (j : Int))).set j (IntKind.wrap .i64 (((lenN sb j : Nat) : Int) + (axL sa da (j : Int)))) = joSh sa sb j := by rw [hset, ax2.len]; exact hk
          have lp := impl_JoinAxis.loop F sa da sb db j o hk2 hF
          rw [hvol, mkOk (by omega) (by omega), hl, hl2, Int.toNat_natCast]
          have fin : ∀ s : Int, s = ((behN sa j : Nat) : Int) → impl_JoinAxis.L0 F F (impl_JoinAxis.t0 sa da sb db j (j : Int) j ((lenN sb j : Nat) : Int) (IntKind.wrap .i64 (((lenN sa j : Nat) : Int) * s)) (IntKind.wrap .i64 (((lenN sb j : Nat) : Int) * s)) 0 0 (List.replicate (befN sa j * (lenN sa j * behN sa j + lenN sb j * behN sa j)) 0)) (impl_JoinAxis.k0 F) = some ([.agg [((.ints .i64 (bif joB sa da sb db (j : Int) then joSh sa sb (j : Int).toNat else [])), true), ((.ints .i64 (bif joB sa da sb db (j : Int) then joN sa da sb db (j : Int).toNat else [])), true)], .one ((.bool (joB sa da sb db (j : Int))), false)], []) := by
            rintro s rfl
            rw [wMul (by omega), wMul (by omega), lp, hjo, Int.toNat_natCast]
            rfl
          have hcase : j = 0 ∨ j = 1 ∨ j = 2 := by omega
          rcases hcase with rfl | rfl | rfl
          · exact fin _ hst
          · exact fin _ hst
          · exact fin _ hst
      · have : joB sa da sb db (j : Int) = false := by
          simp only [joB, Int.toNat_natCast, decide_eq_false hs, Bool.and_false, Bool.false_and]
        rw [hset, decide_eq_false hs, this]; rfl

namespace laws_FnBitsOfDouble
noncomputable def E : Entry := ⟨8, true, false, fun | [.d (.ints .u8 bs)] => bytesB bs | _ => false, fun | [.d (.ints .u8 bs)] => ([.one ((.bool true), false)], []) | _ => ([], []), fun _ => [], false, fun _ => none⟩
end laws_FnBitsOfDouble
namespace laws_FnBitsOfDouble
noncomputable def X : List Entry := [spec_DrawBitsOf.E, impl_BitsOf.E, spec_BitsOf.E, laws_equalArray.E, impl_ValidArray.E, impl_VectorOf.E, impl_JoinAxis.E]
noncomputable def I : List Inl := [⟨8, Try.f8, ⟨[13, 16, 35, 40, 41, 48], [], [], [(5, [1, 0, 2, 3, 4, 5, 6, 7, 8, 9, 10, 11, 12, 13, 14, 15, 16, 17, 18]), (6, [1, 0, 2, 3, 4]), (8, [0, 1, 2, 3, 5, 4, 6, 7, 8])], [39], []⟩⟩]
theorem I_ok : ∀ i ∈ I, Try.prog.funcs[i.f]? = some i.fn ∧ (i.fn.name == "runtime.NumGoroutine") = false := by
  intro i hi
  simp only [I, List.mem_cons, List.not_mem_nil, or_false] at hi
  subst hi
  exact ⟨by kernel_rfl, by kernel_rfl⟩
theorem e (fuel : Nat) (p0 : List Int) : runF Try.prog X I 0 fuel 8 Try.f8 [.d (.ints .u8 p0)] =
  (bif (decide ((((p0.length : Nat) : Int) : Int) > 1048576)) then
  some ([.one ((.bool true), false)], [])
  else
  (bif bytesB p0 then
  (bif decide (((btS ((oneV (cutC p0) 0 bitL)))).length < 9223372036854775808) && decide (((btD ((oneV (cutC p0) 0 bitL)))).length < 9223372036854775808) && decide (((btS ((oneV (cutC p0) 0 bitL)))).length < 9223372036854775808) && decide (((btD ((oneV (cutC p0) 0 bitL)))).length < 9223372036854775808) then
  (bif (!(decide (((btS ((oneV (cutC p0) 0 bitL)))) = ((btS ((oneV (cutC p0) 0 bitL))))) && decide (((btD ((oneV (cutC p0) 0 bitL)))) = ((btD ((oneV (cutC p0) 0 bitL))))))) then
  (bif decide (((btS ((oneV (cutC p0) 0 bitL)))).length < 9223372036854775808) && decide (((btD ((oneV (cutC p0) 0 bitL)))).length < 9223372036854775808) && decide (((btS ((oneV (cutC p0) 0 bitL)))).length < 9223372036854775808) && decide (((btD ((oneV (cutC p0) 0 bitL)))).length < 9223372036854775808) then
  some ([.one ((.bool (decide (((btS ((oneV (cutC p0) 0 bitL)))) = ((btS ((oneV (cutC p0) 0 bitL))))) && decide (((btD ((oneV (cutC p0) 0 bitL)))) = ((btD ((oneV (cutC p0) 0 bitL))))))), false)], [])
  else
  none)
  else
  (bif decide (((btS ((oneV (cutC p0) 0 bitL)))).length < 9223372036854775808) && decide (((btD ((oneV (cutC p0) 0 bitL)))).length < 9223372036854775808) then
  (bif (!(validA ((btS ((oneV (cutC p0) 0 bitL)))) ((btD ((oneV (cutC p0) 0 bitL)))))) then
  (bif decide (((btS ((oneV (cutC p0) 0 bitL)))).length < 9223372036854775808) && decide (((btD ((oneV (cutC p0) 0 bitL)))).length < 9223372036854775808) && decide (((btS ((oneV (cutC p0) 0 bitL)))).length < 9223372036854775808) && decide (((btD ((oneV (cutC p0) 0 bitL)))).length < 9223372036854775808) then
  some ([.one ((.bool (decide (((btS ((oneV (cutC p0) 0 bitL)))) = ((btS ((oneV (cutC p0) 0 bitL))))) && decide (((btD ((oneV (cutC p0) 0 bitL)))) = ((btD ((oneV (cutC p0) 0 bitL))))))), false)], [])
  else
  none)
  else
  (bif (((oneV (cutC p0) 0 bitL) : Int) == 0) then
  (bif decide (((btS ((oneV (cutC p0) 0 bitL)))).length < 9223372036854775808) && decide (((btD ((oneV (cutC p0) 0 bitL)))).length < 9223372036854775808) && decide (((btS ((oneV (cutC p0) 0 bitL)))).length < 9223372036854775808) && decide (((btD ((oneV (cutC p0) 0 bitL)))).length < 9223372036854775808) then
  some ([.one ((.bool (decide (((btS ((oneV (cutC p0) 0 bitL)))) = ((btS ((oneV (cutC p0) 0 bitL))))) && decide (((btD ((oneV (cutC p0) 0 bitL)))) = ((btD ((oneV (cutC p0) 0 bitL))))))), false)], [])
  else
  none)
  else
  (bif (decide (((IntKind.wrap .i64 (2 * (oneV (cutC p0) 0 bitL))) : Int) > 1000000)) then
  (bif decide (((btS ((oneV (cutC p0) 0 bitL)))).length < 9223372036854775808) && decide (((btD ((oneV (cutC p0) 0 bitL)))).length < 9223372036854775808) && decide (((btS ((oneV (cutC p0) 0 bitL)))).length < 9223372036854775808) && decide (((btD ((oneV (cutC p0) 0 bitL)))).length < 9223372036854775808) then
  some ([.one ((.bool (decide (((btS ((oneV (cutC p0) 0 bitL)))) = ((btS ((oneV (cutC p0) 0 bitL))))) && decide (((btD ((oneV (cutC p0) 0 bitL)))) = ((btD ((oneV (cutC p0) 0 bitL))))))), false)], [])
  else
  none)
  else
  (bif szB (([0] : List Int)) then
  (bif decide (((btS ((oneV (cutC p0) 0 bitL)))).length < 9223372036854775808) && decide (((btD ((oneV (cutC p0) 0 bitL)))).length < 9223372036854775808) && decide (((vecS (([0] : List Int)))).length < 9223372036854775808) && decide (((vecD (([0] : List Int)))).length < 9223372036854775808) then
  (bif (joB ((btS ((oneV (cutC p0) 0 bitL)))) ((btD ((oneV (cutC p0) 0 bitL)))) ((vecS (([0] : List Int)))) ((vecD (([0] : List Int)))) 0) then
  (bif decide (((btS ((IntKind.wrap .i64 (2 * (oneV (cutC p0) 0 bitL)))))).length < 9223372036854775808) && decide (((btD ((IntKind.wrap .i64 (2 * (oneV (cutC p0) 0 bitL)))))).length < 9223372036854775808) && decide (((joS ((btS ((oneV (cutC p0) 0 bitL)))) ((btD ((oneV (cutC p0) 0 bitL)))) ((vecS (([0] : List Int)))) ((vecD (([0] : List Int)))) 0)).length < 9223372036854775808) && decide (((joD ((btS ((oneV (cutC p0) 0 bitL)))) ((btD ((oneV (cutC p0) 0 bitL)))) ((vecS (([0] : List Int)))) ((vecD (([0] : List Int)))) 0)).length < 9223372036854775808) then
  some ([.one ((.bool (decide (((btS ((IntKind.wrap .i64 (2 * (oneV (cutC p0) 0 bitL)))))) = ((joS ((btS ((oneV (cutC p0) 0 bitL)))) ((btD ((oneV (cutC p0) 0 bitL)))) ((vecS (([0] : List Int)))) ((vecD (([0] : List Int)))) 0))) && decide (((btD ((IntKind.wrap .i64 (2 * (oneV (cutC p0) 0 bitL)))))) = ((joD ((btS ((oneV (cutC p0) 0 bitL)))) ((btD ((oneV (cutC p0) 0 bitL)))) ((vecS (([0] : List Int)))) ((vecD (([0] : List Int)))) 0))))), false)], [])
  else
  none)
  else
  some ([.one ((.bool false), false)], []))
  else
  none)
  else
  none))))
  else
  none))
  else
  none)
  else
  none)) := by kernel_rfl
end laws_FnBitsOfDouble
theorem laws_FnBitsOfDouble.ok_of (hX : ∀ E ∈ laws_FnBitsOfDouble.X, CallSpec Try.prog E) (h : ∀ (bs : List Int), (bytesB bs) = true → ∃ fuel, runF Try.prog laws_FnBitsOfDouble.X laws_FnBitsOfDouble.I 0 fuel 8 Try.f8 [.d (.ints .u8 bs)] = some ([.one ((.bool true), false)], [])) : CallSpec Try.prog laws_FnBitsOfDouble.E :=
  callSpec_of (d := 0) hX (by kernel_rfl) laws_FnBitsOfDouble.I_ok (by kernel_rfl) (by kernel_rfl) (by kernel_rfl) (fun _ _ _ _ h => by dsimp only [laws_FnBitsOfDouble.E] at h; cases h) (fun xs hp => by
    dsimp only [laws_FnBitsOfDouble.E] at hp ⊢
    split at hp
    · exact h _ hp
    · cases hp)
theorem laws_FnBitsOfDouble.ok : CallSpec Try.prog laws_FnBitsOfDouble.E := laws_FnBitsOfDouble.ok_of (by simp [laws_FnBitsOfDouble.X, spec_DrawBitsOf.ok, impl_BitsOf.ok, spec_BitsOf.ok, laws_equalArray.ok, impl_ValidArray.ok, impl_VectorOf.ok, impl_JoinAxis.ok]) fun bs h => by
  obtain ⟨F, hF⟩ : ∃ F : Nat, 4000 < F := ⟨4001, by omega⟩
  refine ⟨F, ?_⟩
  rw [laws_FnBitsOfDouble.e]
  by_cases hl : ((bs.length : Nat) : Int) > 1048576
  · rw [decide_eq_true hl]; rfl
  rw [decide_eq_false hl, cond_false, h, cond_true]
  have r0 := cut_ok h (p := 0) (by omega) (by omega)
  obtain ⟨n, hn⟩ : ∃ x, oneV (cutC bs) 0 bitL = x := ⟨_, rfl⟩
  have hnm : n ∈ bitL := by rw [← hn]; exact oneV_mem r0 (by simp [bitL]) (by simp [bitL])
  have bl := bt_len n
  have g1 := lt_of (xs := btS n) (by omega)
  have g2 := lt_of (xs := btD n) (by omega)
  simp only [hn]
  cases hb : btB n with
  | false =>
    have e1 : btS n = [] := by simp only [btS, hb, cond_false]
    have e2 : btD n = [] := by simp only [btD, hb, cond_false]
    rw [e1] at g1
    have hv : validA [] [] = false := rfl
    simp only [Bool.and_self, Bool.and_true, Bool.true_and, cond_true, cond_false, Bool.not_true, Bool.not_false, bne_self_eq_false, beq_self_eq_true, decide_true, eq_self, g1, e1, e2, hv]
  | true =>
    obtain ⟨j, rfl, hj, hS, hD, hvo, hl1, hl2⟩ := bt_facts hb
    have hva := validA_vec hvo
    rw [hS] at g1
    rw [hD] at g2
    have hz : szB ([0] : List Int) = true := rfl
    simp only [Bool.and_self, Bool.and_true, Bool.true_and, cond_true, cond_false, Bool.not_true, Bool.not_false, bne_self_eq_false, beq_self_eq_true, decide_true, eq_self, g1, g2, hS, hD, hva, hz]
    by_cases h0 : j = 0
    · subst h0; rfl
    · have e0 : ((j : Int) == 0) = false := by simp; omega
      have hw : IntKind.wrap .i64 (2 * (j : Int)) = ((2 * j : Nat) : Int) := by rw [wS (by omega) (by omega)]; omega
      rw [e0, cond_false, hw]
      by_cases h1 : 2 * j ≤ 1000000
      · have hb2 : btB ((2 * j : Nat) : Int) = true := by simp only [btB, Bool.and_eq_true, decide_eq_true_eq]; omega
        obtain ⟨j2, q0, q1, hS2, hD2, hvo2, hl3, hl4⟩ := bt_facts hb2
        obtain rfl : j2 = 2 * j := by omega
        have hs := bt_step (n := 2 * j) (by omega)
        rw [show 2 * j / 2 = j by omega, show 2 * j % 2 = 0 by omega, show ((0 : Nat) : Int) = 0 from rfl] at hs
        obtain ⟨v1, v2⟩ := vecOk_eq (show vecOk [0] = true from rfl)
        have hj1 := jo_vec hvo (show vecOk [0] = true from rfl) (by rw [List.length_singleton]; omega)
        rw [decide_eq_false (p := ((2 * j : Nat) : Int) > 1000000) (by omega), v1, v2, hj1.1, hj1.2.1, hj1.2.2, hS2, hD2, hs]
        have g3 := lt_of (xs := [(((btL j ++ [(0 : Int)]).length : Nat) : Int)]) (by simp)
        have g4 := lt_of (xs := btL j ++ [(0 : Int)]) (by simp; omega)
        have g5 : decide (([((([(0 : Int)] : List Int).length : Nat) : Int)] : List Int).length < 9223372036854775808) = true := rfl
        have g6 : decide (([(0 : Int)] : List Int).length < 9223372036854775808) = true := rfl
        simp only [Bool.and_self, Bool.and_true, Bool.true_and, cond_true, cond_false, Bool.not_true, Bool.not_false, bne_self_eq_false, beq_self_eq_true, decide_true, eq_self, g3, g4, g5, g6]
      · rw [decide_eq_true (p := ((2 * j : Nat) : Int) > 1000000) (by omega)]
        rfl

end Go.Ab
