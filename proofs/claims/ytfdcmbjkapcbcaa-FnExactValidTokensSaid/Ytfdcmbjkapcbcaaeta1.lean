import Derived.Test.Ytfdcmbjkapcbcaaetat
import Derived.Test.YtfdcmbjkapcbcaaProg
import Derived.Test.YtfdcmbjkapcbcaaChecked
open Go Go.Ab Go.Proofs
set_option maxRecDepth 100000
set_option linter.unusedVariables false
set_option linter.unusedSimpArgs false
namespace Go.Ab
namespace laws_szTokenS
noncomputable def E : Entry := ⟨5, true, false, fun | [.d (.seq 2 xs), .d (.int .i64 left)] => toksB xs && decide ((xs : List D).length < 9223372036854775808) | _ => false, fun | [.d (.seq 2 xs), .d (.int .i64 left)] => ([.one ((.int .i64 (szQ xs left)), false)], []) | _ => ([], []), fun _ => [], false, fun _ => none, none⟩
end laws_szTokenS
namespace laws_szTokenS
noncomputable def X : List Entry := []
noncomputable def I : List Inl := [⟨5, Try.f5, ⟨[], [], [], [], [], []⟩⟩]
theorem I_ok : ∀ i ∈ I, Try.prog.funcs[i.f]? = some i.fn ∧ (i.fn.name == "runtime.NumGoroutine") = false := by
  intro i hi
  simp only [I, List.mem_cons, List.not_mem_nil, or_false] at hi
  subst hi
  exact ⟨by kernel_rfl, by kernel_rfl⟩
theorem e (fuel : Nat) (p0 : List D) (p1 : Int) : runF Try.prog X I 0 fuel 5 Try.f5 [.d (.seq 2 p0), .d (.int .i64 p1)] =
  (bif (decide (((IntKind.wrap .i64 (p1 - ((p0.length : Nat) : Int))) : Int) < 0)) then
  some ([.one ((.int .i64 (-1)), false)], [])
  else
  some ([.one ((.int .i64 (IntKind.wrap .i64 (p1 - ((p0.length : Nat) : Int)))), false)], [])) := by kernel_rfl
end laws_szTokenS
theorem laws_szTokenS.ok_of (hX : ∀ E ∈ laws_szTokenS.X, CallSpec Try.prog E) (h : ∀ (xs : List D) (left : Int), (toksB xs && decide ((xs : List D).length < 9223372036854775808)) = true → ∃ fuel, runF Try.prog laws_szTokenS.X laws_szTokenS.I 0 fuel 5 Try.f5 [.d (.seq 2 xs), .d (.int .i64 left)] = some ([.one ((.int .i64 (szQ xs left)), false)], [])) : CallSpec Try.prog laws_szTokenS.E :=
  callSpec_of (d := 0) hX (by kernel_rfl) laws_szTokenS.I_ok (by kernel_rfl) (by kernel_rfl) (by kernel_rfl) (fun _ _ _ _ h => by dsimp only [laws_szTokenS.E] at h; cases h) (fun xs hp => by
    dsimp only [laws_szTokenS.E] at hp ⊢
    split at hp
    · exact h _ _ hp
    · cases hp)
theorem laws_szTokenS.ok : CallSpec Try.prog laws_szTokenS.E := laws_szTokenS.ok_of (by simp [laws_szTokenS.X]) fun xs left h => ⟨0, by
  rw [laws_szTokenS.e, szQ]
  cases decide (IntKind.wrap .i64 (left - ((xs.length : Nat) : Int)) < 0) <;> rfl⟩

namespace laws_toToken
noncomputable def E : Entry := ⟨15, false, false, fun | [.d (.agg [(.int .i64 k), (.int .i64 v)])] => true | _ => false, fun | [.d (.agg [(.int .i64 k), (.int .i64 v)])] => ([.agg [((.int .i64 k), false), ((.int .i64 v), false)]], []) | _ => ([], []), fun _ => [], true, fun _ => none, none⟩
end laws_toToken
namespace laws_toToken
noncomputable def X : List Entry := []
noncomputable def I : List Inl := [⟨15, Try.f15, ⟨[], [], [], [], [], []⟩⟩]
theorem I_ok : ∀ i ∈ I, Try.prog.funcs[i.f]? = some i.fn ∧ (i.fn.name == "runtime.NumGoroutine") = false := by
  intro i hi
  simp only [I, List.mem_cons, List.not_mem_nil, or_false] at hi
  subst hi
  exact ⟨by kernel_rfl, by kernel_rfl⟩
theorem e (fuel : Nat) (p0q0 : Int) (p0q1 : Int) : runF Try.prog X I 0 fuel 15 Try.f15 [.d (.agg [(.int .i64 p0q0), (.int .i64 p0q1)])] =
  some ([.agg [((.int .i64 p0q0), false), ((.int .i64 p0q1), false)]], []) := by kernel_rfl
end laws_toToken
theorem laws_toToken.ok_of (hX : ∀ E ∈ laws_toToken.X, CallSpec Try.prog E) (h : ∀ (k : Int) (v : Int), (true) = true → ∃ fuel, runF Try.prog laws_toToken.X laws_toToken.I 0 fuel 15 Try.f15 [.d (.agg [(.int .i64 k), (.int .i64 v)])] = some ([.agg [((.int .i64 k), false), ((.int .i64 v), false)]], [])) : CallSpec Try.prog laws_toToken.E :=
  callSpec_of (d := 0) hX (by kernel_rfl) laws_toToken.I_ok (by kernel_rfl) (by kernel_rfl) (by kernel_rfl) (fun _ _ _ _ h => by dsimp only [laws_toToken.E] at h; cases h) (fun xs hp => by
    dsimp only [laws_toToken.E] at hp ⊢
    split at hp
    · exact h _ _ hp
    · cases hp)
theorem laws_toToken.ok : CallSpec Try.prog laws_toToken.E := laws_toToken.ok_of (by simp [laws_toToken.X]) fun k v _ => ⟨0, by rw [laws_toToken.e]⟩

namespace laws_toTokenS
noncomputable def E : Entry := ⟨7, false, false, fun | [.d (.seq 2 xs)] => toksB xs && decide ((xs : List D).length ≤ 1048576) | _ => false, fun | [.d (.seq 2 xs)] => ([.one ((.seq 2 xs), true)], []) | _ => ([], []), fun _ => [], true, fun _ => none, none⟩
end laws_toTokenS
namespace laws_toTokenS
noncomputable def X : List Entry := [laws_toToken.E]
noncomputable def I : List Inl := [⟨7, Try.f7, ⟨[], [(1000003, [1, 2, 5, 6, 7, 8, 9, 10, 11, 12, 13, 14, 15, 16, 17, 18, 19, 20, 21, 22])], [], [], [], []⟩⟩]
theorem I_ok : ∀ i ∈ I, Try.prog.funcs[i.f]? = some i.fn ∧ (i.fn.name == "runtime.NumGoroutine") = false := by
  intro i hi
  simp only [I, List.mem_cons, List.not_mem_nil, or_false] at hi
  subst hi
  exact ⟨by kernel_rfl, by kernel_rfl⟩
noncomputable abbrev L0 (fuel n : Nat) (s : St) (k : Kont) := lAt Try.prog X I fuel true 0 false 7 (bodyOf Try.f7) [1, 1, 0, 1, 0] n s k
noncomputable abbrev k0  (fuel : Nat) : Kont := (kAt Try.prog X I fuel true 0 false 7 (bodyOf Try.f7) [1, 1, 0, 1, 0] [] (endK Try.prog Try.f7))
noncomputable def t0 (p0 : List D) (x0q1 : Int) (x0q2 : List D) : St := ⟨[(.imm (.seq 2 p0)), .dead, .dead, (.all 1000000000 2), (.imm (.int .i64 x0q1)), .dead, .dead, .dead, .dead, .dead, .dead, .dead, .dead, .dead, .dead, .dead, .dead, .dead, .dead, .dead, .dead, .dead, .dead], hOf [(1000000000, (.ds 2 x0q2))], [], []⟩
theorem e (fuel : Nat) (p0 : List D) : runF Try.prog X I 0 fuel 7 Try.f7 [.d (.seq 2 p0)] =
  (bif decide (0 ≤ (((p0.length : Nat) : Int) : Int)) && decide ((((p0.length : Nat) : Int) : Int) ≤ ((p0.length : Nat) : Int)) && decide ((((p0.length : Nat) : Int) : Int) ≤ 1152921504606846976) && decide (((16 : Nat) : Int) * ((p0.length : Nat) : Int) ≤ 281474976710656) then
  L0 fuel fuel (t0 p0 0 ((List.replicate (((p0.length : Nat) : Int)).toNat ((.agg [(.int .i64 0), (.int .i64 0)]) : D)))) (k0  fuel)
  else
  none) := by kernel_rfl
theorem s0 (fuel n0 : Nat) (p0 : List D) (x0q1 : Int) (x0q2 : List D) : L0 fuel (n0 + 1) (t0 p0 x0q1 x0q2) (k0  fuel) =
  (bif (decide ((x0q1 : Int) < ((p0.length : Nat) : Int))) then
  (idx x0q1 p0.length).bind fun j5 =>
  (bif okS [.int .i64, .int .i64] p0 j5 then
  (idx x0q1 x0q2.length).bind fun j6 =>
  (bif decide (j6 < x0q2.length) then
  L0 fuel n0 (t0 p0 ((IntKind.wrap .i64 (x0q1 + 1))) ((x0q2.set j6 (.agg [(.int .i64 ((cellI p0 j5 0))), (.int .i64 ((cellI p0 j5 1)))])))) (k0  fuel)
  else
  none)
  else
  none)
  else
  some ([.one ((.seq 2 x0q2), true)], [])) := by kernel_rfl
end laws_toTokenS
theorem laws_toTokenS.ok_of (hX : ∀ E ∈ laws_toTokenS.X, CallSpec Try.prog E) (h : ∀ (xs : List D), (toksB xs && decide ((xs : List D).length ≤ 1048576)) = true → ∃ fuel, runF Try.prog laws_toTokenS.X laws_toTokenS.I 0 fuel 7 Try.f7 [.d (.seq 2 xs)] = some ([.one ((.seq 2 xs), true)], [])) : CallSpec Try.prog laws_toTokenS.E :=
  callSpec_of (d := 0) hX (by kernel_rfl) laws_toTokenS.I_ok (by kernel_rfl) (by kernel_rfl) (by kernel_rfl) (fun _ _ _ _ h => by dsimp only [laws_toTokenS.E] at h; cases h) (fun xs hp => by
    dsimp only [laws_toTokenS.E] at hp ⊢
    split at hp
    · exact h _ hp
    · cases hp)
theorem laws_toTokenS.loop (F : Nat) (ts : List Tok) (hF : ts.length < F) (hl : ts.length ≤ 1048576) : laws_toTokenS.L0 F F (laws_toTokenS.t0 (tokDs ts) 0 (List.replicate ts.length (.agg [(.int .i64 0), (.int .i64 0)]))) (laws_toTokenS.k0 F) = some ([.one (.seq 2 (tokDs ts), true)], []) := by
  refine cnt_loop (σ := List D) (N := ts.length) (fun q j out => laws_toTokenS.L0 F q (laws_toTokenS.t0 (tokDs ts) (j : Int) out) (laws_toTokenS.k0 F))
    (fun j out => out = partG (tokDs ts) (.agg [(.int .i64 0), (.int .i64 0)]) j) ?_ ?_ F 0 _ (by omega) (by omega) (by rw [partG_zero, tokDs_length])
  · rintro q out hI
    rw [laws_toTokenS.s0, tokDs_length, dge (by omega), cond_false, hI, ← tokDs_length ts, partG_all]
  · intro q j out hj hI
    obtain ⟨v1, a1, a2⟩ := tok_view hj
    have hol : out.length = ts.length := by rw [hI, partG_length (by rw [tokDs_length]; omega), tokDs_length]
    rw [laws_toTokenS.s0, tokDs_length, dlt hj, cond_true, idx_nat hj, Option.bind_some, v1, cond_true, hol, idx_nat hj, Option.bind_some, decide_eq_true hj, cond_true, a1, a2, w1 (by omega)]
    refine .inr ⟨_, ?_, rfl⟩
    rw [hI]
    have hj2 : j < (tokDs ts).length := by rw [tokDs_length]; exact hj
    have e : (tokDs ts)[j]'hj2 = .agg [.int .i64 ts[j].1, .int .i64 ts[j].2] := by simp only [tokDs, List.getElem_map]; rfl
    rw [← e]
    exact partG_set hj2
theorem laws_toTokenS.ok : CallSpec Try.prog laws_toTokenS.E := laws_toTokenS.ok_of (by simp [laws_toTokenS.X, laws_toToken.ok]) fun xs h => by
  simp only [Bool.and_eq_true, decide_eq_true_eq] at h
  obtain ⟨ht, h⟩ := h
  obtain ⟨ts, rfl⟩ := toksB_iff.1 ht
  rw [tokDs_length] at h
  refine ⟨ts.length + 1, ?_⟩
  rw [laws_toTokenS.e, tokDs_length, le20 h, cond_true, Int.toNat_natCast]
  exact laws_toTokenS.loop _ ts (by omega) h

namespace spec_inRange
noncomputable def E : Entry := ⟨20, true, false, fun | [.d (.int .i64 v), .d (.int .i64 lo), .d (.int .i64 hi)] => true | _ => false, fun | [.d (.int .i64 v), .d (.int .i64 lo), .d (.int .i64 hi)] => ([.one ((.bool (decide (lo ≤ v) && decide (v ≤ hi))), false)], []) | _ => ([], []), fun _ => [], false, fun _ => none, none⟩
end spec_inRange
namespace spec_inRange
noncomputable def X : List Entry := []
noncomputable def I : List Inl := [⟨20, Try.f20, ⟨[], [], [], [], [], []⟩⟩]
theorem I_ok : ∀ i ∈ I, Try.prog.funcs[i.f]? = some i.fn ∧ (i.fn.name == "runtime.NumGoroutine") = false := by
  intro i hi
  simp only [I, List.mem_cons, List.not_mem_nil, or_false] at hi
  subst hi
  exact ⟨by kernel_rfl, by kernel_rfl⟩
theorem e (fuel : Nat) (p0 : Int) (p1 : Int) (p2 : Int) : runF Try.prog X I 0 fuel 20 Try.f20 [.d (.int .i64 p0), .d (.int .i64 p1), .d (.int .i64 p2)] =
  (bif (decide ((p1 : Int) ≤ p0)) then
  some ([.one ((.bool (decide ((p0 : Int) ≤ p2))), false)], [])
  else
  some ([.one ((.bool false), false)], [])) := by kernel_rfl
end spec_inRange
theorem spec_inRange.ok_of (hX : ∀ E ∈ spec_inRange.X, CallSpec Try.prog E) (h : ∀ (v : Int) (lo : Int) (hi : Int), (true) = true → ∃ fuel, runF Try.prog spec_inRange.X spec_inRange.I 0 fuel 20 Try.f20 [.d (.int .i64 v), .d (.int .i64 lo), .d (.int .i64 hi)] = some ([.one ((.bool (decide (lo ≤ v) && decide (v ≤ hi))), false)], [])) : CallSpec Try.prog spec_inRange.E :=
  callSpec_of (d := 0) hX (by kernel_rfl) spec_inRange.I_ok (by kernel_rfl) (by kernel_rfl) (by kernel_rfl) (fun _ _ _ _ h => by dsimp only [spec_inRange.E] at h; cases h) (fun xs hp => by
    dsimp only [spec_inRange.E] at hp ⊢
    split at hp
    · exact h _ _ _ hp
    · cases hp)
theorem spec_inRange.ok : CallSpec Try.prog spec_inRange.E := spec_inRange.ok_of (by simp [spec_inRange.X]) fun v lo hi _ => ⟨0, by
  rw [spec_inRange.e]
  cases decide (lo ≤ v) <;> rfl⟩

namespace spec_signs
noncomputable def E : Entry := ⟨24, true, false, fun | [] => true | _ => false, fun | [] => ([.one ((.str signsS), false)], []) | _ => ([], []), fun _ => [], false, fun _ => none, none⟩
end spec_signs
namespace spec_signs
noncomputable def X : List Entry := []
noncomputable def I : List Inl := [⟨24, Try.f24, ⟨[], [], [], [], [], []⟩⟩]
theorem I_ok : ∀ i ∈ I, Try.prog.funcs[i.f]? = some i.fn ∧ (i.fn.name == "runtime.NumGoroutine") = false := by
  intro i hi
  simp only [I, List.mem_cons, List.not_mem_nil, or_false] at hi
  subst hi
  exact ⟨by kernel_rfl, by kernel_rfl⟩
theorem e (fuel : Nat)  : runF Try.prog X I 0 fuel 24 Try.f24 [] =
  some ([.one ((.str (ByteArray.mk #[43, 45, 42, 38, 124, 61, 60, 37, 35, 33, 44, 64, 47, 40, 41])), false)], []) := by kernel_rfl
end spec_signs
theorem spec_signs.ok_of (hX : ∀ E ∈ spec_signs.X, CallSpec Try.prog E) (h : (true) = true → ∃ fuel, runF Try.prog spec_signs.X spec_signs.I 0 fuel 24 Try.f24 [] = some ([.one ((.str signsS), false)], [])) : CallSpec Try.prog spec_signs.E :=
  callSpec_of (d := 0) hX (by kernel_rfl) spec_signs.I_ok (by kernel_rfl) (by kernel_rfl) (by kernel_rfl) (fun _ _ _ _ h => by dsimp only [spec_signs.E] at h; cases h) (fun xs hp => by
    dsimp only [spec_signs.E] at hp ⊢
    split at hp
    · exact h hp
    · cases hp)
theorem spec_signs.ok : CallSpec Try.prog spec_signs.E := spec_signs.ok_of (by simp [spec_signs.X]) fun _ => ⟨0, by rw [spec_signs.e]; rfl⟩

namespace spec_validTokens
noncomputable def E : Entry := ⟨14, true, false, fun | [.d (.seq 2 xs)] => toksB xs && decide ((xs : List D).length < 9223372036854775808) | _ => false, fun | [.d (.seq 2 xs)] => ([.one ((.bool (decide ((xs : List D).length ≤ 40) && allK xs)), false)], []) | _ => ([], []), fun _ => [], false, fun _ => none, none⟩
end spec_validTokens
namespace spec_validTokens
noncomputable def X : List Entry := [spec_inRange.E, spec_signs.E]
noncomputable def I : List Inl := [⟨14, Try.f14, ⟨[], [(1000002, [1, 2, 4, 5, 6, 7, 8, 9, 10, 11, 12, 13, 14, 15, 16, 17, 18, 19, 20, 21, 22, 23, 24, 25, 26, 27, 28, 29, 30, 31, 32, 33, 34, 35, 36, 37, 38, 39, 40, 41, 42, 43, 44, 45, 46, 47, 48, 49, 50, 51, 52, 53, 54, 55, 56, 57])], [], [], [], []⟩⟩]
theorem I_ok : ∀ i ∈ I, Try.prog.funcs[i.f]? = some i.fn ∧ (i.fn.name == "runtime.NumGoroutine") = false := by
  intro i hi
  simp only [I, List.mem_cons, List.not_mem_nil, or_false] at hi
  subst hi
  exact ⟨by kernel_rfl, by kernel_rfl⟩
noncomputable abbrev L0 (fuel n : Nat) (s : St) (k : Kont) := lAt Try.prog X I fuel true 0 false 14 (bodyOf Try.f14) [1, 0, 1, 0] n s k
noncomputable abbrev k0  (fuel : Nat) : Kont := (kAt Try.prog X I fuel true 0 false 14 (bodyOf Try.f14) [1, 0, 1, 0] [] (endK Try.prog Try.f14))
noncomputable def t0 (p0 : List D) (x0q1 : Int) : St := ⟨[(.imm (.seq 2 p0)), .dead, .dead, (.imm (.int .i64 x0q1)), .dead, .dead, .dead, .dead, .dead, .dead, .dead, .dead, .dead, .dead, .dead, .dead, .dead, .dead, .dead, .dead, .dead, .dead, .dead, .dead, .dead, .dead, .dead, .dead, .dead, .dead, .dead, .dead, .dead, .dead, .dead, .dead, .dead, .dead, .dead, .dead, .dead, .dead, .dead, .dead, .dead, .dead, .dead, .dead, .dead, .dead, .dead, .dead, .dead, .dead, .dead, .dead, .dead, .dead], hOf [], [], []⟩
theorem e (fuel : Nat) (p0 : List D) : runF Try.prog X I 0 fuel 14 Try.f14 [.d (.seq 2 p0)] =
  L0 fuel fuel (t0 p0 0) (k0  fuel) := by kernel_rfl
theorem s0 (fuel n0 : Nat) (p0 : List D) (x0q1 : Int) : L0 fuel (n0 + 1) (t0 p0 x0q1) (k0  fuel) =
  (bif (decide ((x0q1 : Int) < ((p0.length : Nat) : Int))) then
  (idx x0q1 p0.length).bind fun j3 =>
  (bif okS [.int .i64, .int .i64] p0 j3 then
  (bif (((cellI p0 j3 0) : Int) == 0) then
  (bif (!(decide (((-1000000)) ≤ ((cellI p0 j3 1))) && decide (((cellI p0 j3 1)) ≤ 1000000))) then
  some ([.one ((.bool false), false)], [])
  else
  (bif (((cellI p0 j3 0) : Int) == 1) then
  (bif (!(decide (0 ≤ ((cellI p0 j3 1))) && decide (((cellI p0 j3 1)) ≤ 3))) then
  some ([.one ((.bool false), false)], [])
  else
  (bif (((cellI p0 j3 0) : Int) == 2) then
  (bif (!(decide (0 ≤ ((cellI p0 j3 1))) && decide (((cellI p0 j3 1)) ≤ ((IntKind.wrap .i64 ((signsS.size : Int) - 1)))))) then
  some ([.one ((.bool false), false)], [])
  else
  (bif (!(decide (0 ≤ ((cellI p0 j3 0))) && decide (((cellI p0 j3 0)) ≤ 2))) then
  some ([.one ((.bool false), false)], [])
  else
  L0 fuel n0 (t0 p0 ((IntKind.wrap .i64 (x0q1 + 1)))) (k0  fuel)))
  else
  (bif (!(decide (0 ≤ ((cellI p0 j3 0))) && decide (((cellI p0 j3 0)) ≤ 2))) then
  some ([.one ((.bool false), false)], [])
  else
  L0 fuel n0 (t0 p0 ((IntKind.wrap .i64 (x0q1 + 1)))) (k0  fuel))))
  else
  (bif (((cellI p0 j3 0) : Int) == 2) then
  (bif (!(decide (0 ≤ ((cellI p0 j3 1))) && decide (((cellI p0 j3 1)) ≤ ((IntKind.wrap .i64 ((signsS.size : Int) - 1)))))) then
  some ([.one ((.bool false), false)], [])
  else
  (bif (!(decide (0 ≤ ((cellI p0 j3 0))) && decide (((cellI p0 j3 0)) ≤ 2))) then
  some ([.one ((.bool false), false)], [])
  else
  L0 fuel n0 (t0 p0 ((IntKind.wrap .i64 (x0q1 + 1)))) (k0  fuel)))
  else
  (bif (!(decide (0 ≤ ((cellI p0 j3 0))) && decide (((cellI p0 j3 0)) ≤ 2))) then
  some ([.one ((.bool false), false)], [])
  else
  L0 fuel n0 (t0 p0 ((IntKind.wrap .i64 (x0q1 + 1)))) (k0  fuel)))))
  else
  (bif (((cellI p0 j3 0) : Int) == 1) then
  (bif (!(decide (0 ≤ ((cellI p0 j3 1))) && decide (((cellI p0 j3 1)) ≤ 3))) then
  some ([.one ((.bool false), false)], [])
  else
  (bif (((cellI p0 j3 0) : Int) == 2) then
  (bif (!(decide (0 ≤ ((cellI p0 j3 1))) && decide (((cellI p0 j3 1)) ≤ ((IntKind.wrap .i64 ((signsS.size : Int) - 1)))))) then
  some ([.one ((.bool false), false)], [])
  else
  (bif (!(decide (0 ≤ ((cellI p0 j3 0))) && decide (((cellI p0 j3 0)) ≤ 2))) then
  some ([.one ((.bool false), false)], [])
  else
  L0 fuel n0 (t0 p0 ((IntKind.wrap .i64 (x0q1 + 1)))) (k0  fuel)))
  else
  (bif (!(decide (0 ≤ ((cellI p0 j3 0))) && decide (((cellI p0 j3 0)) ≤ 2))) then
  some ([.one ((.bool false), false)], [])
  else
  L0 fuel n0 (t0 p0 ((IntKind.wrap .i64 (x0q1 + 1)))) (k0  fuel))))
  else
  (bif (((cellI p0 j3 0) : Int) == 2) then
  (bif (!(decide (0 ≤ ((cellI p0 j3 1))) && decide (((cellI p0 j3 1)) ≤ ((IntKind.wrap .i64 ((signsS.size : Int) - 1)))))) then
  some ([.one ((.bool false), false)], [])
  else
  (bif (!(decide (0 ≤ ((cellI p0 j3 0))) && decide (((cellI p0 j3 0)) ≤ 2))) then
  some ([.one ((.bool false), false)], [])
  else
  L0 fuel n0 (t0 p0 ((IntKind.wrap .i64 (x0q1 + 1)))) (k0  fuel)))
  else
  (bif (!(decide (0 ≤ ((cellI p0 j3 0))) && decide (((cellI p0 j3 0)) ≤ 2))) then
  some ([.one ((.bool false), false)], [])
  else
  L0 fuel n0 (t0 p0 ((IntKind.wrap .i64 (x0q1 + 1)))) (k0  fuel)))))
  else
  none)
  else
  some ([.one ((.bool (decide ((((p0.length : Nat) : Int) : Int) ≤ 40))), false)], [])) := by kernel_rfl
end spec_validTokens
theorem spec_validTokens.ok_of (hX : ∀ E ∈ spec_validTokens.X, CallSpec Try.prog E) (h : ∀ (xs : List D), (toksB xs && decide ((xs : List D).length < 9223372036854775808)) = true → ∃ fuel, runF Try.prog spec_validTokens.X spec_validTokens.I 0 fuel 14 Try.f14 [.d (.seq 2 xs)] = some ([.one ((.bool (decide ((xs : List D).length ≤ 40) && allK xs)), false)], [])) : CallSpec Try.prog spec_validTokens.E :=
  callSpec_of (d := 0) hX (by kernel_rfl) spec_validTokens.I_ok (by kernel_rfl) (by kernel_rfl) (by kernel_rfl) (fun _ _ _ _ h => by dsimp only [spec_validTokens.E] at h; cases h) (fun xs hp => by
    dsimp only [spec_validTokens.E] at hp ⊢
    split at hp
    · exact h _ hp
    · cases hp)
theorem spec_validTokens.ok : CallSpec Try.prog spec_validTokens.E := spec_validTokens.ok_of (by simp [spec_validTokens.X, spec_inRange.ok, spec_signs.ok]) fun xs h => by
  simp only [Bool.and_eq_true, decide_eq_true_eq] at h
  obtain ⟨ht, h⟩ := h
  obtain ⟨ts, rfl⟩ := toksB_iff.1 ht
  rw [tokDs_length] at h
  refine ⟨ts.length + 1, ?_⟩
  rw [spec_validTokens.e, tokDs_length, allK_tokDs]
  refine cnt_loop (σ := Unit) (N := ts.length) (fun n j _ => spec_validTokens.L0 (ts.length + 1) n (spec_validTokens.t0 (tokDs ts) (j : Int)) (spec_validTokens.k0 (ts.length + 1)))
    (fun j _ => (ts.all fun t => tokV t.1 t.2) = ((ts.drop j).all fun t => tokV t.1 t.2)) ?_ ?_ (ts.length + 1) 0 () (by omega) (by omega) (by rfl)
  · intro n _ hI
    rw [List.drop_length] at hI
    rw [spec_validTokens.s0, tokDs_length, dge (by omega), cond_false, hI, show decide (((ts.length : Nat) : Int) ≤ 40) = decide (ts.length ≤ 40) from decide_eq_decide.2 (by omega), List.all_nil, Bool.and_true]
  · intro n j _ hj hI
    obtain ⟨v1, a1, a2⟩ := tok_view hj
    rw [spec_validTokens.s0, tokDs_length, dlt hj, cond_true, idx_nat hj, Option.bind_some, v1, cond_true, a1, a2, w1 (by omega), tokChoice _ _ _ signsS_size]
    rw [List.drop_eq_getElem_cons hj, List.all_cons] at hI
    cases hb : tokV ts[j].1 ts[j].2 with
    | true =>
      rw [hb, Bool.true_and] at hI
      exact .inr ⟨(), hI, rfl⟩
    | false =>
      rw [hb, Bool.false_and] at hI
      exact .inl (by rw [hI, Bool.and_false]; rfl)

namespace spec_ValidTokens
noncomputable def E : Entry := ⟨6, true, false, fun | [.d (.seq 2 xs)] => toksB xs && decide ((xs : List D).length < 9223372036854775808) | _ => false, fun | [.d (.seq 2 xs)] => ([.one ((.bool (decide ((xs : List D).length ≤ 40) && allK xs)), false)], []) | _ => ([], []), fun _ => [], false, fun _ => none, none⟩
end spec_ValidTokens
namespace spec_ValidTokens
noncomputable def X : List Entry := [spec_validTokens.E]
noncomputable def I : List Inl := [⟨6, Try.f6, ⟨[], [], [], [], [], []⟩⟩]
theorem I_ok : ∀ i ∈ I, Try.prog.funcs[i.f]? = some i.fn ∧ (i.fn.name == "runtime.NumGoroutine") = false := by
  intro i hi
  simp only [I, List.mem_cons, List.not_mem_nil, or_false] at hi
  subst hi
  exact ⟨by kernel_rfl, by kernel_rfl⟩
theorem e (fuel : Nat) (p0 : List D) : runF Try.prog X I 0 fuel 6 Try.f6 [.d (.seq 2 p0)] =
  (bif toksB p0 && decide ((p0 : List D).length < 9223372036854775808) then
  some ([.one ((.bool (decide ((p0 : List D).length ≤ 40) && allK p0)), false)], [])
  else
  none) := by kernel_rfl
end spec_ValidTokens
theorem spec_ValidTokens.ok_of (hX : ∀ E ∈ spec_ValidTokens.X, CallSpec Try.prog E) (h : ∀ (xs : List D), (toksB xs && decide ((xs : List D).length < 9223372036854775808)) = true → ∃ fuel, runF Try.prog spec_ValidTokens.X spec_ValidTokens.I 0 fuel 6 Try.f6 [.d (.seq 2 xs)] = some ([.one ((.bool (decide ((xs : List D).length ≤ 40) && allK xs)), false)], [])) : CallSpec Try.prog spec_ValidTokens.E :=
  callSpec_of (d := 0) hX (by kernel_rfl) spec_ValidTokens.I_ok (by kernel_rfl) (by kernel_rfl) (by kernel_rfl) (fun _ _ _ _ h => by dsimp only [spec_ValidTokens.E] at h; cases h) (fun xs hp => by
    dsimp only [spec_ValidTokens.E] at hp ⊢
    split at hp
    · exact h _ hp
    · cases hp)
theorem spec_ValidTokens.ok : CallSpec Try.prog spec_ValidTokens.E := spec_ValidTokens.ok_of (by simp [spec_ValidTokens.X, spec_validTokens.ok]) fun xs h => ⟨0, by rw [spec_ValidTokens.e, h, cond_true]⟩

namespace impl_isNumber
noncomputable def E : Entry := ⟨25, true, false, fun | [.d (.int .i64 v)] => true | _ => false, fun | [.d (.int .i64 v)] => ([.one ((.bool (numB v)), false)], []) | _ => ([], []), fun _ => [], false, fun _ => none, none⟩
end impl_isNumber
namespace impl_isNumber
noncomputable def X : List Entry := []
noncomputable def I : List Inl := [⟨25, Try.f25, ⟨[], [], [], [], [], []⟩⟩]
theorem I_ok : ∀ i ∈ I, Try.prog.funcs[i.f]? = some i.fn ∧ (i.fn.name == "runtime.NumGoroutine") = false := by
  intro i hi
  simp only [I, List.mem_cons, List.not_mem_nil, or_false] at hi
  subst hi
  exact ⟨by kernel_rfl, by kernel_rfl⟩
theorem e (fuel : Nat) (p0 : Int) : runF Try.prog X I 0 fuel 25 Try.f25 [.d (.int .i64 p0)] =
  (bif (decide (((-1000000) : Int) ≤ p0)) then
  some ([.one ((.bool (decide ((p0 : Int) ≤ 1000000))), false)], [])
  else
  some ([.one ((.bool false), false)], [])) := by kernel_rfl
end impl_isNumber
theorem impl_isNumber.ok_of (hX : ∀ E ∈ impl_isNumber.X, CallSpec Try.prog E) (h : ∀ (v : Int), (true) = true → ∃ fuel, runF Try.prog impl_isNumber.X impl_isNumber.I 0 fuel 25 Try.f25 [.d (.int .i64 v)] = some ([.one ((.bool (numB v)), false)], [])) : CallSpec Try.prog impl_isNumber.E :=
  callSpec_of (d := 0) hX (by kernel_rfl) impl_isNumber.I_ok (by kernel_rfl) (by kernel_rfl) (by kernel_rfl) (fun _ _ _ _ h => by dsimp only [impl_isNumber.E] at h; cases h) (fun xs hp => by
    dsimp only [impl_isNumber.E] at hp ⊢
    split at hp
    · exact h _ hp
    · cases hp)
theorem impl_isNumber.ok : CallSpec Try.prog impl_isNumber.E := impl_isNumber.ok_of (by simp [impl_isNumber.X]) fun v _ => ⟨0, by
  rw [impl_isNumber.e]
  unfold numB
  cases decide (-1000000 ≤ v) <;> rfl⟩

namespace impl_Token_isValid
noncomputable def E : Entry := ⟨17, true, false, fun | [.d (.agg [(.int .i64 k), (.int .i64 v)])] => true | _ => false, fun | [.d (.agg [(.int .i64 k), (.int .i64 v)])] => ([.one ((.bool (tokV k v)), false)], []) | _ => ([], []), fun _ => [], false, fun _ => none, none⟩
end impl_Token_isValid
namespace impl_Token_isValid
noncomputable def X : List Entry := [impl_isNumber.E]
noncomputable def I : List Inl := [⟨17, Try.f17, ⟨[], [], [], [], [], []⟩⟩]
theorem I_ok : ∀ i ∈ I, Try.prog.funcs[i.f]? = some i.fn ∧ (i.fn.name == "runtime.NumGoroutine") = false := by
  intro i hi
  simp only [I, List.mem_cons, List.not_mem_nil, or_false] at hi
  subst hi
  exact ⟨by kernel_rfl, by kernel_rfl⟩
theorem e (fuel : Nat) (p0q0 : Int) (p0q1 : Int) : runF Try.prog X I 0 fuel 17 Try.f17 [.d (.agg [(.int .i64 p0q0), (.int .i64 p0q1)])] =
  (bif ((p0q0 : Int) == 0) then
  some ([.one ((.bool (numB p0q1)), false)], [])
  else
  (bif ((p0q0 : Int) == 1) then
  (bif (decide ((0 : Int) ≤ p0q1)) then
  some ([.one ((.bool (decide ((p0q1 : Int) < 4))), false)], [])
  else
  some ([.one ((.bool false), false)], []))
  else
  (bif ((p0q0 : Int) == 2) then
  (bif (decide ((0 : Int) ≤ p0q1)) then
  some ([.one ((.bool (decide ((p0q1 : Int) < 15))), false)], [])
  else
  some ([.one ((.bool false), false)], []))
  else
  some ([.one ((.bool false), false)], [])))) := by kernel_rfl
end impl_Token_isValid
theorem impl_Token_isValid.ok_of (hX : ∀ E ∈ impl_Token_isValid.X, CallSpec Try.prog E) (h : ∀ (k : Int) (v : Int), (true) = true → ∃ fuel, runF Try.prog impl_Token_isValid.X impl_Token_isValid.I 0 fuel 17 Try.f17 [.d (.agg [(.int .i64 k), (.int .i64 v)])] = some ([.one ((.bool (tokV k v)), false)], [])) : CallSpec Try.prog impl_Token_isValid.E :=
  callSpec_of (d := 0) hX (by kernel_rfl) impl_Token_isValid.I_ok (by kernel_rfl) (by kernel_rfl) (by kernel_rfl) (fun _ _ _ _ h => by dsimp only [impl_Token_isValid.E] at h; cases h) (fun xs hp => by
    dsimp only [impl_Token_isValid.E] at hp ⊢
    split at hp
    · exact h _ _ hp
    · cases hp)
theorem impl_Token_isValid.ok : CallSpec Try.prog impl_Token_isValid.E := impl_Token_isValid.ok_of (by simp [impl_Token_isValid.X, impl_isNumber.ok]) fun k v _ => ⟨0, by
  rw [impl_Token_isValid.e, tokV]
  cases (k : Int) == 0 with
  | true => rfl
  | false =>
    cases (k : Int) == 1 with
    | true => cases decide ((0 : Int) ≤ v) <;> rfl
    | false =>
      cases (k : Int) == 2 with
      | true => cases decide ((0 : Int) ≤ v) <;> rfl
      | false => rfl⟩

namespace impl_ValidTokens_1
noncomputable def E : Entry := ⟨16, true, false, fun | [.d (.agg [(.int .i64 k), (.int .i64 v)])] => true | _ => false, fun | [.d (.agg [(.int .i64 k), (.int .i64 v)])] => ([.one ((.bool (!(tokV k v))), false)], []) | _ => ([], []), fun _ => [], false, fun _ => none, none⟩
end impl_ValidTokens_1
namespace impl_ValidTokens_1
noncomputable def X : List Entry := [impl_Token_isValid.E]
noncomputable def I : List Inl := [⟨16, Try.f16, ⟨[], [], [], [], [], []⟩⟩]
theorem I_ok : ∀ i ∈ I, Try.prog.funcs[i.f]? = some i.fn ∧ (i.fn.name == "runtime.NumGoroutine") = false := by
  intro i hi
  simp only [I, List.mem_cons, List.not_mem_nil, or_false] at hi
  subst hi
  exact ⟨by kernel_rfl, by kernel_rfl⟩
theorem e (fuel : Nat) (p0q0 : Int) (p0q1 : Int) : runF Try.prog X I 0 fuel 16 Try.f16 [.d (.agg [(.int .i64 p0q0), (.int .i64 p0q1)])] =
  some ([.one ((.bool (!(tokV p0q0 p0q1))), false)], []) := by kernel_rfl
end impl_ValidTokens_1
theorem impl_ValidTokens_1.ok_of (hX : ∀ E ∈ impl_ValidTokens_1.X, CallSpec Try.prog E) (h : ∀ (k : Int) (v : Int), (true) = true → ∃ fuel, runF Try.prog impl_ValidTokens_1.X impl_ValidTokens_1.I 0 fuel 16 Try.f16 [.d (.agg [(.int .i64 k), (.int .i64 v)])] = some ([.one ((.bool (!(tokV k v))), false)], [])) : CallSpec Try.prog impl_ValidTokens_1.E :=
  callSpec_of (d := 0) hX (by kernel_rfl) impl_ValidTokens_1.I_ok (by kernel_rfl) (by kernel_rfl) (by kernel_rfl) (fun _ _ _ _ h => by dsimp only [impl_ValidTokens_1.E] at h; cases h) (fun xs hp => by
    dsimp only [impl_ValidTokens_1.E] at hp ⊢
    split at hp
    · exact h _ _ hp
    · cases hp)
theorem impl_ValidTokens_1.ok : CallSpec Try.prog impl_ValidTokens_1.E := impl_ValidTokens_1.ok_of (by simp [impl_ValidTokens_1.X, impl_Token_isValid.ok]) fun k v _ => ⟨0, by rw [impl_ValidTokens_1.e]⟩

namespace slices_IndexFunc_impl_Token_impl_Token
noncomputable def E : Entry := ⟨26, true, false, fun | [.d (.seq 2 xs), .d (.clo 16 [])] => toksB xs && decide ((xs : List D).length < 9223372036854775808) | _ => false, fun | [.d (.seq 2 xs), .d (.clo 16 [])] => ([.one ((.int .i64 (badK xs)), false)], []) | _ => ([], []), fun _ => [], false, fun _ => none, none⟩
end slices_IndexFunc_impl_Token_impl_Token
namespace slices_IndexFunc_impl_Token_impl_Token
noncomputable def X : List Entry := [impl_ValidTokens_1.E]
noncomputable def I : List Inl := [⟨26, Try.f26, ⟨[], [(1000002, [2, 3, 4, 5, 6, 9, 10, 11, 12, 13, 14, 15, 16, 17, 18])], [], [], [], []⟩⟩]
theorem I_ok : ∀ i ∈ I, Try.prog.funcs[i.f]? = some i.fn ∧ (i.fn.name == "runtime.NumGoroutine") = false := by
  intro i hi
  simp only [I, List.mem_cons, List.not_mem_nil, or_false] at hi
  subst hi
  exact ⟨by kernel_rfl, by kernel_rfl⟩
noncomputable abbrev L0 (fuel n : Nat) (s : St) (k : Kont) := lAt Try.prog X I fuel true 0 false 26 (bodyOf Try.f26) [1, 0, 1, 0] n s k
noncomputable abbrev k0  (fuel : Nat) : Kont := (kAt Try.prog X I fuel true 0 false 26 (bodyOf Try.f26) [1, 0, 1, 0] [] (endK Try.prog Try.f26))
noncomputable def t0 (p0 : List D) (x0q2 : Int) : St := ⟨[(.imm (.seq 2 p0)), (.imm (.clo 16 [])), .dead, .dead, .dead, .dead, .dead, (.imm (.int .i64 ((p0.length : Nat) : Int))), (.imm (.int .i64 x0q2)), .dead, .dead, .dead, .dead, .dead, .dead, .dead, .dead, .dead, .dead], hOf [], [], []⟩
theorem e (fuel : Nat) (p0 : List D) : runF Try.prog X I 0 fuel 26 Try.f26 [.d (.seq 2 p0), .d (.clo 16 [])] =
  L0 fuel fuel (t0 p0 0) (k0  fuel) := by kernel_rfl
theorem s0 (fuel n0 : Nat) (p0 : List D) (x0q2 : Int) : L0 fuel (n0 + 1) (t0 p0 x0q2) (k0  fuel) =
  (bif (decide ((x0q2 : Int) < ((p0.length : Nat) : Int))) then
  (idx x0q2 p0.length).bind fun j3 =>
  (bif okS [.int .i64, .int .i64] p0 j3 then
  (bif (!(tokV ((cellI p0 j3 0)) ((cellI p0 j3 1)))) then
  some ([.one ((.int .i64 x0q2), false)], [])
  else
  L0 fuel n0 (t0 p0 ((IntKind.wrap .i64 (x0q2 + 1)))) (k0  fuel))
  else
  none)
  else
  some ([.one ((.int .i64 (-1)), false)], [])) := by kernel_rfl
end slices_IndexFunc_impl_Token_impl_Token
theorem slices_IndexFunc_impl_Token_impl_Token.ok_of (hX : ∀ E ∈ slices_IndexFunc_impl_Token_impl_Token.X, CallSpec Try.prog E) (h : ∀ (xs : List D), (toksB xs && decide ((xs : List D).length < 9223372036854775808)) = true → ∃ fuel, runF Try.prog slices_IndexFunc_impl_Token_impl_Token.X slices_IndexFunc_impl_Token_impl_Token.I 0 fuel 26 Try.f26 [.d (.seq 2 xs), .d (.clo 16 [])] = some ([.one ((.int .i64 (badK xs)), false)], [])) : CallSpec Try.prog slices_IndexFunc_impl_Token_impl_Token.E :=
  callSpec_of (d := 0) hX (by kernel_rfl) slices_IndexFunc_impl_Token_impl_Token.I_ok (by kernel_rfl) (by kernel_rfl) (by kernel_rfl) (fun _ _ _ _ h => by dsimp only [slices_IndexFunc_impl_Token_impl_Token.E] at h; cases h) (fun xs hp => by
    dsimp only [slices_IndexFunc_impl_Token_impl_Token.E] at hp ⊢
    split at hp
    · exact h _ hp
    · cases hp)
theorem slices_IndexFunc_impl_Token_impl_Token.ok : CallSpec Try.prog slices_IndexFunc_impl_Token_impl_Token.E := slices_IndexFunc_impl_Token_impl_Token.ok_of (by simp [slices_IndexFunc_impl_Token_impl_Token.X, impl_ValidTokens_1.ok]) fun xs h => by
  simp only [Bool.and_eq_true, decide_eq_true_eq] at h
  obtain ⟨ht, h⟩ := h
  obtain ⟨ts, rfl⟩ := toksB_iff.1 ht
  rw [tokDs_length] at h
  refine ⟨ts.length + 1, ?_⟩
  rw [slices_IndexFunc_impl_Token_impl_Token.e]
  refine cnt_loop (σ := Unit) (N := ts.length) (fun n j _ => slices_IndexFunc_impl_Token_impl_Token.L0 (ts.length + 1) n (slices_IndexFunc_impl_Token_impl_Token.t0 (tokDs ts) (j : Int)) (slices_IndexFunc_impl_Token_impl_Token.k0 (ts.length + 1)))
    (fun j _ => badKF ((tokDs ts).drop j) j = badK (tokDs ts)) ?_ ?_ (ts.length + 1) 0 () (by omega) (by omega) (by rfl)
  · intro n _ hI
    rw [slices_IndexFunc_impl_Token_impl_Token.s0, tokDs_length, dge (by omega), cond_false]
    rw [← tokDs_length ts, List.drop_length] at hI
    rw [← hI]
    rfl
  · intro n j _ hj hI
    obtain ⟨v1, a1, a2⟩ := tok_view hj
    rw [slices_IndexFunc_impl_Token_impl_Token.s0, tokDs_length, dlt hj, cond_true, idx_nat hj, Option.bind_some, v1, cond_true, a1, a2, w1 (by omega)]
    rw [List.drop_eq_getElem_cons (by rw [tokDs_length]; exact hj), badKF, tokVD_get hj] at hI
    cases hb : tokV ts[j].1 ts[j].2 with
    | true =>
      rw [hb, cond_true] at hI
      exact .inr ⟨(), hI, rfl⟩
    | false =>
      rw [hb, cond_false] at hI
      exact .inl (by rw [← hI]; rfl)

namespace slices_ContainsFunc_impl_Token_impl_Token
noncomputable def E : Entry := ⟨18, true, false, fun | [.d (.seq 2 xs), .d (.clo 16 [])] => toksB xs && decide ((xs : List D).length < 9223372036854775808) | _ => false, fun | [.d (.seq 2 xs), .d (.clo 16 [])] => ([.one ((.bool (!(allK xs))), false)], []) | _ => ([], []), fun _ => [], false, fun _ => none, none⟩
end slices_ContainsFunc_impl_Token_impl_Token
namespace slices_ContainsFunc_impl_Token_impl_Token
noncomputable def X : List Entry := [slices_IndexFunc_impl_Token_impl_Token.E]
noncomputable def I : List Inl := [⟨18, Try.f18, ⟨[], [], [], [], [], []⟩⟩]
theorem I_ok : ∀ i ∈ I, Try.prog.funcs[i.f]? = some i.fn ∧ (i.fn.name == "runtime.NumGoroutine") = false := by
  intro i hi
  simp only [I, List.mem_cons, List.not_mem_nil, or_false] at hi
  subst hi
  exact ⟨by kernel_rfl, by kernel_rfl⟩
theorem e (fuel : Nat) (p0 : List D) : runF Try.prog X I 0 fuel 18 Try.f18 [.d (.seq 2 p0), .d (.clo 16 [])] =
  (bif toksB p0 && decide ((p0 : List D).length < 9223372036854775808) then
  some ([.one ((.bool (decide (((badK p0) : Int) ≥ 0))), false)], [])
  else
  none) := by kernel_rfl
end slices_ContainsFunc_impl_Token_impl_Token
theorem slices_ContainsFunc_impl_Token_impl_Token.ok_of (hX : ∀ E ∈ slices_ContainsFunc_impl_Token_impl_Token.X, CallSpec Try.prog E) (h : ∀ (xs : List D), (toksB xs && decide ((xs : List D).length < 9223372036854775808)) = true → ∃ fuel, runF Try.prog slices_ContainsFunc_impl_Token_impl_Token.X slices_ContainsFunc_impl_Token_impl_Token.I 0 fuel 18 Try.f18 [.d (.seq 2 xs), .d (.clo 16 [])] = some ([.one ((.bool (!(allK xs))), false)], [])) : CallSpec Try.prog slices_ContainsFunc_impl_Token_impl_Token.E :=
  callSpec_of (d := 0) hX (by kernel_rfl) slices_ContainsFunc_impl_Token_impl_Token.I_ok (by kernel_rfl) (by kernel_rfl) (by kernel_rfl) (fun _ _ _ _ h => by dsimp only [slices_ContainsFunc_impl_Token_impl_Token.E] at h; cases h) (fun xs hp => by
    dsimp only [slices_ContainsFunc_impl_Token_impl_Token.E] at hp ⊢
    split at hp
    · exact h _ hp
    · cases hp)
theorem slices_ContainsFunc_impl_Token_impl_Token.ok : CallSpec Try.prog slices_ContainsFunc_impl_Token_impl_Token.E := slices_ContainsFunc_impl_Token_impl_Token.ok_of (by simp [slices_ContainsFunc_impl_Token_impl_Token.X, slices_IndexFunc_impl_Token_impl_Token.ok]) fun xs h => ⟨0, by
  rw [slices_ContainsFunc_impl_Token_impl_Token.e, h, cond_true]
  rw [show decide (badK xs ≥ 0) = !(allK xs) from badKF_neg xs 0]⟩

namespace impl_ValidTokens
noncomputable def E : Entry := ⟨8, true, false, fun | [.d (.seq 2 xs)] => toksB xs && decide ((xs : List D).length < 9223372036854775808) | _ => false, fun | [.d (.seq 2 xs)] => ([.one ((.bool (decide ((xs : List D).length ≤ 40) && allK xs)), false)], []) | _ => ([], []), fun _ => [], false, fun _ => none, none⟩
end impl_ValidTokens
namespace impl_ValidTokens
noncomputable def X : List Entry := [slices_ContainsFunc_impl_Token_impl_Token.E]
noncomputable def I : List Inl := [⟨8, Try.f8, ⟨[], [], [], [], [], []⟩⟩]
theorem I_ok : ∀ i ∈ I, Try.prog.funcs[i.f]? = some i.fn ∧ (i.fn.name == "runtime.NumGoroutine") = false := by
  intro i hi
  simp only [I, List.mem_cons, List.not_mem_nil, or_false] at hi
  subst hi
  exact ⟨by kernel_rfl, by kernel_rfl⟩
theorem e (fuel : Nat) (p0 : List D) : runF Try.prog X I 0 fuel 8 Try.f8 [.d (.seq 2 p0)] =
  (bif (decide ((((p0.length : Nat) : Int) : Int) ≤ 40)) then
  (bif toksB p0 && decide ((p0 : List D).length < 9223372036854775808) then
  some ([.one ((.bool (!(!(allK p0)))), false)], [])
  else
  none)
  else
  some ([.one ((.bool false), false)], [])) := by kernel_rfl
end impl_ValidTokens
theorem impl_ValidTokens.ok_of (hX : ∀ E ∈ impl_ValidTokens.X, CallSpec Try.prog E) (h : ∀ (xs : List D), (toksB xs && decide ((xs : List D).length < 9223372036854775808)) = true → ∃ fuel, runF Try.prog impl_ValidTokens.X impl_ValidTokens.I 0 fuel 8 Try.f8 [.d (.seq 2 xs)] = some ([.one ((.bool (decide ((xs : List D).length ≤ 40) && allK xs)), false)], [])) : CallSpec Try.prog impl_ValidTokens.E :=
  callSpec_of (d := 0) hX (by kernel_rfl) impl_ValidTokens.I_ok (by kernel_rfl) (by kernel_rfl) (by kernel_rfl) (fun _ _ _ _ h => by dsimp only [impl_ValidTokens.E] at h; cases h) (fun xs hp => by
    dsimp only [impl_ValidTokens.E] at hp ⊢
    split at hp
    · exact h _ hp
    · cases hp)
theorem impl_ValidTokens.ok : CallSpec Try.prog impl_ValidTokens.E := impl_ValidTokens.ok_of (by simp [impl_ValidTokens.X, slices_ContainsFunc_impl_Token_impl_Token.ok]) fun xs h => ⟨0, by
  rw [impl_ValidTokens.e, h, cond_true, Bool.not_not, show decide (((xs.length : Nat) : Int) ≤ 40) = decide (xs.length ≤ 40) from decide_eq_decide.2 (by omega)]
  cases decide (xs.length ≤ 40) <;> rfl⟩

namespace laws_eqToken
noncomputable def E : Entry := ⟨19, true, false, fun | [.d (.agg [(.int .i64 a), (.int .i64 b)]), .d (.agg [(.int .i64 c), (.int .i64 e)])] => true | _ => false, fun | [.d (.agg [(.int .i64 a), (.int .i64 b)]), .d (.agg [(.int .i64 c), (.int .i64 e)])] => ([.one ((.bool ((a == c) && (b == e))), false)], []) | _ => ([], []), fun _ => [], false, fun _ => none, none⟩
end laws_eqToken
namespace laws_eqToken
noncomputable def X : List Entry := []
noncomputable def I : List Inl := [⟨19, Try.f19, ⟨[], [], [], [], [], []⟩⟩]
theorem I_ok : ∀ i ∈ I, Try.prog.funcs[i.f]? = some i.fn ∧ (i.fn.name == "runtime.NumGoroutine") = false := by
  intro i hi
  simp only [I, List.mem_cons, List.not_mem_nil, or_false] at hi
  subst hi
  exact ⟨by kernel_rfl, by kernel_rfl⟩
theorem e (fuel : Nat) (p0q0 : Int) (p0q1 : Int) (p1q0 : Int) (p1q1 : Int) : runF Try.prog X I 0 fuel 19 Try.f19 [.d (.agg [(.int .i64 p0q0), (.int .i64 p0q1)]), .d (.agg [(.int .i64 p1q0), (.int .i64 p1q1)])] =
  (bif ((p0q0 : Int) != p1q0) then
  some ([.one ((.bool false), false)], [])
  else
  (bif ((p0q1 : Int) != p1q1) then
  some ([.one ((.bool false), false)], [])
  else
  some ([.one ((.bool true), false)], []))) := by kernel_rfl
end laws_eqToken
theorem laws_eqToken.ok_of (hX : ∀ E ∈ laws_eqToken.X, CallSpec Try.prog E) (h : ∀ (a : Int) (b : Int) (c : Int) (e : Int), (true) = true → ∃ fuel, runF Try.prog laws_eqToken.X laws_eqToken.I 0 fuel 19 Try.f19 [.d (.agg [(.int .i64 a), (.int .i64 b)]), .d (.agg [(.int .i64 c), (.int .i64 e)])] = some ([.one ((.bool ((a == c) && (b == e))), false)], [])) : CallSpec Try.prog laws_eqToken.E :=
  callSpec_of (d := 0) hX (by kernel_rfl) laws_eqToken.I_ok (by kernel_rfl) (by kernel_rfl) (by kernel_rfl) (fun _ _ _ _ h => by dsimp only [laws_eqToken.E] at h; cases h) (fun xs hp => by
    dsimp only [laws_eqToken.E] at hp ⊢
    split at hp
    · exact h _ _ _ _ hp
    · cases hp)
theorem laws_eqToken.ok : CallSpec Try.prog laws_eqToken.E := laws_eqToken.ok_of (by simp [laws_eqToken.X]) fun a b c e _ => ⟨0, by
  rw [laws_eqToken.e]
  show (bif (!(a == c)) then _ else (bif (!(b == e)) then _ else _)) = _
  cases a == c <;> cases b == e <;> rfl⟩

namespace laws_eqTokenS
noncomputable def E : Entry := ⟨9, true, false, fun | [.d (.seq 2 xs), .d (.seq 2 ys)] => toksB xs && toksB ys && decide ((xs : List D).length < 9223372036854775808) && decide ((ys : List D).length < 9223372036854775808) | _ => false, fun | [.d (.seq 2 xs), .d (.seq 2 ys)] => ([.one ((.bool (toksEq xs ys)), false)], []) | _ => ([], []), fun _ => [], false, fun _ => none, none⟩
end laws_eqTokenS
namespace laws_eqTokenS
noncomputable def X : List Entry := [laws_eqToken.E]
noncomputable def I : List Inl := [⟨9, Try.f9, ⟨[], [(1000004, [2, 3, 4, 6, 7, 8, 9, 10, 11, 12, 13, 14, 15, 16, 17, 18, 19, 20, 21, 22, 23, 24, 25, 26])], [], [(6, [0, 1, 4, 5, 2, 3, 6, 7, 8, 9])], [], []⟩⟩]
theorem I_ok : ∀ i ∈ I, Try.prog.funcs[i.f]? = some i.fn ∧ (i.fn.name == "runtime.NumGoroutine") = false := by
  intro i hi
  simp only [I, List.mem_cons, List.not_mem_nil, or_false] at hi
  subst hi
  exact ⟨by kernel_rfl, by kernel_rfl⟩
noncomputable abbrev L0 (fuel n : Nat) (s : St) (k : Kont) := lAt Try.prog X I fuel true 0 false 9 (bodyOf Try.f9) [1, 1, 0, 1, 0] n s k
noncomputable abbrev k0  (fuel : Nat) : Kont := (kAt Try.prog X I fuel true 0 false 9 (bodyOf Try.f9) [1, 1, 0, 1, 0] [] (endK Try.prog Try.f9))
noncomputable def t0 (p0 : List D) (p1 : List D) (x0q2 : Int) : St := ⟨[(.imm (.seq 2 p0)), (.imm (.seq 2 p1)), .dead, .dead, .dead, (.imm (.int .i64 x0q2)), .dead, .dead, .dead, .dead, .dead, .dead, .dead, .dead, .dead, .dead, .dead, .dead, .dead, .dead, .dead, .dead, .dead, .dead, .dead, .dead, .dead], hOf [], [], []⟩
theorem e (fuel : Nat) (p0 : List D) (p1 : List D) : runF Try.prog X I 0 fuel 9 Try.f9 [.d (.seq 2 p0), .d (.seq 2 p1)] =
  (bif ((((p0.length : Nat) : Int) : Int) != ((p1.length : Nat) : Int)) then
  some ([.one ((.bool false), false)], [])
  else
  L0 fuel fuel (t0 p0 p1 0) (k0  fuel)) := by kernel_rfl
theorem s0 (fuel n0 : Nat) (p0 : List D) (p1 : List D) (x0q2 : Int) : L0 fuel (n0 + 1) (t0 p0 p1 x0q2) (k0  fuel) =
  (bif (decide ((x0q2 : Int) < ((p0.length : Nat) : Int))) then
  (idx x0q2 p0.length).bind fun j5 =>
  (bif okS [.int .i64, .int .i64] p0 j5 then
  (idx x0q2 p1.length).bind fun j6 =>
  (bif okS [.int .i64, .int .i64] p1 j6 then
  (bif (!((((cellI p0 j5 0)) == ((cellI p1 j6 0))) && (((cellI p0 j5 1)) == ((cellI p1 j6 1))))) then
  some ([.one ((.bool false), false)], [])
  else
  L0 fuel n0 (t0 p0 p1 ((IntKind.wrap .i64 (x0q2 + 1)))) (k0  fuel))
  else
  none)
  else
  none)
  else
  some ([.one ((.bool true), false)], [])) := by kernel_rfl
end laws_eqTokenS
theorem laws_eqTokenS.ok_of (hX : ∀ E ∈ laws_eqTokenS.X, CallSpec Try.prog E) (h : ∀ (xs : List D) (ys : List D), (toksB xs && toksB ys && decide ((xs : List D).length < 9223372036854775808) && decide ((ys : List D).length < 9223372036854775808)) = true → ∃ fuel, runF Try.prog laws_eqTokenS.X laws_eqTokenS.I 0 fuel 9 Try.f9 [.d (.seq 2 xs), .d (.seq 2 ys)] = some ([.one ((.bool (toksEq xs ys)), false)], [])) : CallSpec Try.prog laws_eqTokenS.E :=
  callSpec_of (d := 0) hX (by kernel_rfl) laws_eqTokenS.I_ok (by kernel_rfl) (by kernel_rfl) (by kernel_rfl) (fun _ _ _ _ h => by dsimp only [laws_eqTokenS.E] at h; cases h) (fun xs hp => by
    dsimp only [laws_eqTokenS.E] at hp ⊢
    split at hp
    · exact h _ _ hp
    · cases hp)
theorem laws_eqTokenS.loop (F : Nat) (xs ys : List Tok) (hl : xs.length = ys.length) (hF : xs.length < F) (hb : xs.length < 9223372036854775808) : laws_eqTokenS.L0 F F (laws_eqTokenS.t0 (tokDs xs) (tokDs ys) 0) (laws_eqTokenS.k0 F) = some ([.one (.bool (decide (xs = ys)), false)], []) := by
  refine cnt_loop (σ := Unit) (N := xs.length) (fun q j _ => laws_eqTokenS.L0 F q (laws_eqTokenS.t0 (tokDs xs) (tokDs ys) (j : Int)) (laws_eqTokenS.k0 F)) (fun j _ => xs.take j = ys.take j) ?_ ?_ F 0 () (by omega) (by omega) rfl
  · intro q _ hI
    rw [List.take_length, hl, List.take_length] at hI
    rw [laws_eqTokenS.s0, tokDs_length, dge (by omega), cond_false, decide_eq_true hI]
  · intro q j _ hj hI
    have hj2 : j < ys.length := by omega
    obtain ⟨v1, a1, a2⟩ := tok_view hj
    obtain ⟨v2, b1, b2⟩ := tok_view hj2
    rw [laws_eqTokenS.s0, tokDs_length, tokDs_length, dlt hj, cond_true, idx_nat hj, Option.bind_some, v1, cond_true, idx_nat hj2, Option.bind_some, v2, cond_true, a1, a2, b1, b2, w1 (by omega)]
    by_cases he : xs[j] = ys[j]
    · rw [show (!((xs[j].1 == ys[j].1) && (xs[j].2 == ys[j].2))) = false by rw [he]; simp, cond_false]
      exact .inr ⟨(), by rw [List.take_succ_eq_append_getElem hj, List.take_succ_eq_append_getElem hj2, hI, he], rfl⟩
    · have hf : ((xs[j].1 == ys[j].1) && (xs[j].2 == ys[j].2)) = false := by
        rw [Bool.eq_false_iff]
        intro h
        simp only [Bool.and_eq_true, beq_iff_eq] at h
        exact he (Prod.ext h.1 h.2)
      rw [hf, Bool.not_false, cond_true, decide_eq_false (fun e => he (by simp only [e]))]
      exact .inl rfl
theorem laws_eqTokenS.ok : CallSpec Try.prog laws_eqTokenS.E := laws_eqTokenS.ok_of (by simp [laws_eqTokenS.X, laws_eqToken.ok]) fun xs ys h => by
  simp only [Bool.and_eq_true, decide_eq_true_eq] at h
  obtain ⟨⟨⟨h1, h2⟩, h3⟩, h4⟩ := h
  obtain ⟨xs, rfl⟩ := toksB_iff.1 h1
  obtain ⟨ys, rfl⟩ := toksB_iff.1 h2
  refine ⟨xs.length + 1, ?_⟩
  rw [tokDs_length] at h3 h4
  rw [laws_eqTokenS.e, toksEq_tok, tokDs_length, tokDs_length]
  by_cases hl : xs.length = ys.length
  · rw [hl, show ((((ys.length : Nat) : Int)) != ((ys.length : Nat) : Int)) = false by simp, cond_false]
    exact laws_eqTokenS.loop _ xs ys hl (by omega) (by omega)
  · rw [show (((xs.length : Nat) : Int) != ((ys.length : Nat) : Int)) = true from bne_iff_ne.2 (by omega), cond_true, decide_eq_false (fun e => hl (by rw [e]))]

namespace laws_FnExactValidTokens
noncomputable def E : Entry := ⟨3, true, false, fun | [.d (.seq 2 xs)] => toksB xs && decide ((xs : List D).length < 9223372036854775808) | _ => false, fun | [.d (.seq 2 xs)] => ([.one ((.bool true), false)], []) | _ => ([], []), fun _ => [], false, fun _ => none, none⟩
end laws_FnExactValidTokens
namespace laws_FnExactValidTokens
noncomputable def X : List Entry := [laws_szTokenS.E, laws_toTokenS.E, spec_ValidTokens.E, impl_ValidTokens.E, laws_eqTokenS.E]
noncomputable def I : List Inl := [⟨3, Try.f3, ⟨[13, 16, 24], [], [], [], [], []⟩⟩]
theorem I_ok : ∀ i ∈ I, Try.prog.funcs[i.f]? = some i.fn ∧ (i.fn.name == "runtime.NumGoroutine") = false := by
  intro i hi
  simp only [I, List.mem_cons, List.not_mem_nil, or_false] at hi
  subst hi
  exact ⟨by kernel_rfl, by kernel_rfl⟩
theorem e (fuel : Nat) (p0 : List D) : runF Try.prog X I 0 fuel 3 Try.f3 [.d (.seq 2 p0)] =
  (bif toksB p0 && decide ((p0 : List D).length < 9223372036854775808) then
  (bif (decide (((szQ p0 1048576) : Int) < 0)) then
  some ([.one ((.bool true), false)], [])
  else
  (bif toksB p0 && decide ((p0 : List D).length ≤ 1048576) then
  (bif toksB p0 && decide ((p0 : List D).length < 9223372036854775808) then
  (bif toksB p0 && decide ((p0 : List D).length ≤ 1048576) then
  (bif toksB p0 && decide ((p0 : List D).length < 9223372036854775808) then
  (bif (!((decide ((p0 : List D).length ≤ 40) && allK p0) == (decide ((p0 : List D).length ≤ 40) && allK p0))) then
  some ([.one ((.bool false), false)], [])
  else
  (bif toksB p0 && decide ((p0 : List D).length ≤ 1048576) then
  (bif toksB p0 && toksB p0 && decide ((p0 : List D).length < 9223372036854775808) && decide ((p0 : List D).length < 9223372036854775808) then
  (bif (!(toksEq p0 p0)) then
  some ([.one ((.bool false), false)], [])
  else
  some ([.one ((.bool true), false)], []))
  else
  none)
  else
  none))
  else
  none)
  else
  none)
  else
  none)
  else
  none))
  else
  none) := by kernel_rfl
end laws_FnExactValidTokens
theorem laws_FnExactValidTokens.ok_of (hX : ∀ E ∈ laws_FnExactValidTokens.X, CallSpec Try.prog E) (h : ∀ (xs : List D), (toksB xs && decide ((xs : List D).length < 9223372036854775808)) = true → ∃ fuel, runF Try.prog laws_FnExactValidTokens.X laws_FnExactValidTokens.I 0 fuel 3 Try.f3 [.d (.seq 2 xs)] = some ([.one ((.bool true), false)], [])) : CallSpec Try.prog laws_FnExactValidTokens.E :=
  callSpec_of (d := 0) hX (by kernel_rfl) laws_FnExactValidTokens.I_ok (by kernel_rfl) (by kernel_rfl) (by kernel_rfl) (fun _ _ _ _ h => by dsimp only [laws_FnExactValidTokens.E] at h; cases h) (fun xs hp => by
    dsimp only [laws_FnExactValidTokens.E] at hp ⊢
    split at hp
    · exact h _ hp
    · cases hp)
theorem laws_FnExactValidTokens.ok : CallSpec Try.prog laws_FnExactValidTokens.E := laws_FnExactValidTokens.ok_of (by simp [laws_FnExactValidTokens.X, laws_szTokenS.ok, laws_toTokenS.ok, spec_ValidTokens.ok, impl_ValidTokens.ok, laws_eqTokenS.ok]) fun xs h => ⟨0, by
  simp only [Bool.and_eq_true, decide_eq_true_eq] at h
  obtain ⟨ht, hx⟩ := h
  rw [laws_FnExactValidTokens.e, ht, decide_eq_true hx]
  by_cases hg : szQ xs 1048576 < 0
  · rw [decide_eq_true hg]; rfl
  · have hl := szQ_len hx hg
    rw [decide_eq_false hg, decide_eq_true hl, beq_self_eq_true, show toksEq xs xs = true from toksEq_iff.2 rfl]
    rfl⟩

end Go.Ab
