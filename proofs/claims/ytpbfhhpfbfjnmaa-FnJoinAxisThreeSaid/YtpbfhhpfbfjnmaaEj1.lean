import Derived.Test.YtpbfhhpfbfjnmaaEjp
import Derived.Test.YtpbfhhpfbfjnmaaProg
import Derived.Test.YtpbfhhpfbfjnmaaChecked
open Go Go.Ab Go.Proofs
set_option maxRecDepth 100000
set_option linter.unusedVariables false
set_option linter.unusedSimpArgs false
namespace Go.Ab
namespace spec_newReader
noncomputable def E : Entry := ⟨23, false, false, fun | [.d (.ints .u8 bs)] => true | _ => false, fun | [.d (.ints .u8 bs)] => ([.box [((.ints .u8 (cutC bs)), false), ((.int .i64 0), false)]], []) | _ => ([], []), fun _ => [], true, fun _ => none⟩
end spec_newReader
namespace spec_newReader
noncomputable def X : List Entry := []
noncomputable def I : List Inl := [⟨23, Try.f23, ⟨[], [], [], [], [], []⟩⟩]
theorem I_ok : ∀ i ∈ I, Try.prog.funcs[i.f]? = some i.fn ∧ (i.fn.name == "runtime.NumGoroutine") = false := by
  intro i hi
  simp only [I, List.mem_cons, List.not_mem_nil, or_false] at hi
  subst hi
  exact ⟨by kernel_rfl, by kernel_rfl⟩
theorem e (fuel : Nat) (p0 : List Int) : runF Try.prog X I 0 fuel 23 Try.f23 [.d (.ints .u8 p0)] =
  (bif (decide ((((p0.length : Nat) : Int) : Int) > 2000)) then
  (cutEnds p0.length (none) (some (.imm (.int .i64 2000)))).bind fun cq1 =>
  some ([.box [((.ints .u8 ((p0.drop cq1.1).take (cq1.2 - cq1.1))), false), ((.int .i64 0), false)]], [])
  else
  some ([.box [((.ints .u8 p0), false), ((.int .i64 0), false)]], [])) := by kernel_rfl
end spec_newReader
theorem spec_newReader.ok_of (hX : ∀ E ∈ spec_newReader.X, CallSpec Try.prog E) (h : ∀ (bs : List Int), (true) = true → ∃ fuel, runF Try.prog spec_newReader.X spec_newReader.I 0 fuel 23 Try.f23 [.d (.ints .u8 bs)] = some ([.box [((.ints .u8 (cutC bs)), false), ((.int .i64 0), false)]], [])) : CallSpec Try.prog spec_newReader.E :=
  callSpec_of (d := 0) hX (by kernel_rfl) spec_newReader.I_ok (by kernel_rfl) (by kernel_rfl) (by kernel_rfl) (fun _ _ _ _ h => by dsimp only [spec_newReader.E] at h; cases h) (fun xs hp => by
    dsimp only [spec_newReader.E] at hp ⊢
    split at hp
    · exact h _ hp
    · cases hp)
theorem spec_newReader.ok : CallSpec Try.prog spec_newReader.E := spec_newReader.ok_of (by simp [spec_newReader.X]) fun bs _ => ⟨0, by
  rw [spec_newReader.e]
  unfold cutC
  by_cases h : ((bs.length : Nat) : Int) > 2000
  · rw [decide_eq_true h]
    have : cutEnds bs.length none (some (.imm (.int .i64 2000))) = some (0, 2000) := by
      unfold cutEnds
      simp only
      rw [if_pos ⟨by omega, by omega⟩]
      rfl
    rw [this]
    rfl
  · rw [decide_eq_false h]
    rfl⟩

namespace spec_reader_pick
noncomputable def E : Entry := ⟨27, false, false, fun | [.box [(.ints .u8 bs), (.int .i64 p)], .d (.int .i64 n)] => rdOk bs p && decide ((n : Int) ≤ 1048576) | _ => false, fun | [.box [(.ints .u8 bs), (.int .i64 p)], .d (.int .i64 n)] => ([.one ((.int .i64 (pickV bs p n)), false)], [[(.ints .u8 bs), (.int .i64 (p + 1))]]) | _ => ([], []), fun _ => [], false, fun _ => none⟩
end spec_reader_pick
namespace spec_reader_pick
noncomputable def X : List Entry := []
noncomputable def I : List Inl := [⟨27, Try.f27, ⟨[], [], [], [(7, [0, 1, 2, 4, 5, 6, 7, 15, 16, 17, 19, 20, 21, 22, 23, 24, 33, 34, 36, 37, 38, 39, 3, 8, 9, 10, 11, 12, 13, 14, 18, 25, 26, 27, 28, 29, 30, 31, 32, 35, 40, 41, 42, 43, 44, 45])], [], []⟩⟩]
theorem I_ok : ∀ i ∈ I, Try.prog.funcs[i.f]? = some i.fn ∧ (i.fn.name == "runtime.NumGoroutine") = false := by
  intro i hi
  simp only [I, List.mem_cons, List.not_mem_nil, or_false] at hi
  subst hi
  exact ⟨by kernel_rfl, by kernel_rfl⟩
theorem e (fuel : Nat) (p0q0 : List Int) (p0q1 : Int) (p1 : Int) : runF Try.prog X I 0 fuel 27 Try.f27 [.box [(.ints .u8 p0q0), (.int .i64 p0q1)], .d (.int .i64 p1)] =
  (bif (decide ((p1 : Int) < 1)) then
  some ([.one ((.int .i64 0), false)], [[(.ints .u8 p0q0), (.int .i64 (IntKind.wrap .i64 (p0q1 + 1)))]])
  else
  (bif ((((p0q0.length : Nat) : Int) : Int) == 0) then
  some ([.one ((.int .i64 0), false)], [[(.ints .u8 p0q0), (.int .i64 (IntKind.wrap .i64 (p0q1 + 1)))]])
  else
  (bif (decide (((IntKind.wrap .i64 ((IntKind.wrap .i64 (p0q1 + 1)) - 1)) : Int) < ((p0q0.length : Nat) : Int))) then
  (idx (IntKind.wrap .i64 ((IntKind.wrap .i64 (p0q1 + 1)) - 1)) p0q0.length).bind fun j1 =>
  (p0q0[j1]?).bind fun v2 =>
  (bif decide ((p1 : Int) = 0) then
  none
  else
  some ([.one ((.int .i64 (Int.tmod (IntKind.wrap .i64 v2) p1)), false)], [[(.ints .u8 p0q0), (.int .i64 (IntKind.wrap .i64 (p0q1 + 1)))]]))
  else
  (bif decide ((((p0q0.length : Nat) : Int) : Int) = 0) then
  none
  else
  (idx (Int.tmod (IntKind.wrap .i64 ((IntKind.wrap .i64 (p0q1 + 1)) - 1)) ((p0q0.length : Nat) : Int)) p0q0.length).bind fun j3 =>
  (p0q0[j3]?).bind fun v4 =>
  (bif decide ((((p0q0.length : Nat) : Int) : Int) = 0) then
  none
  else
  (idx (Int.tmod (IntKind.wrap .i64 ((IntKind.wrap .i64 ((IntKind.wrap .i64 ((IntKind.wrap .i64 (p0q1 + 1)) - 1)) * 7)) + 3)) ((p0q0.length : Nat) : Int)) p0q0.length).bind fun j5 =>
  (p0q0[j5]?).bind fun v6 =>
  (bif decide ((((p0q0.length : Nat) : Int) : Int) = 0) then
  none
  else
  (bif decide ((p1 : Int) = 0) then
  none
  else
  some ([.one ((.int .i64 (Int.tmod (IntKind.wrap .i64 ((BitVec.ofInt (IntKind.bits .i64) (IntKind.wrap .i64 ((IntKind.wrap .i64 ((IntKind.wrap .i64 ((IntKind.wrap .i64 ((IntKind.wrap .i64 v4) * 131)) + (IntKind.wrap .i64 ((IntKind.wrap .i64 v6) * 1117)))) + (IntKind.wrap .i64 ((IntKind.wrap .i64 ((IntKind.wrap .i64 (p0q1 + 1)) - 1)) * 29)))) + (IntKind.wrap .i64 ((IntKind.wrap .i64 (Int.tdiv (IntKind.wrap .i64 ((IntKind.wrap .i64 (p0q1 + 1)) - 1)) ((p0q0.length : Nat) : Int))) * 53)))) ^^^ BitVec.ofInt (IntKind.bits .i64) (IntKind.wrap .i64 (Int.tdiv (IntKind.wrap .i64 ((IntKind.wrap .i64 ((IntKind.wrap .i64 ((IntKind.wrap .i64 ((IntKind.wrap .i64 v4) * 131)) + (IntKind.wrap .i64 ((IntKind.wrap .i64 v6) * 1117)))) + (IntKind.wrap .i64 ((IntKind.wrap .i64 ((IntKind.wrap .i64 (p0q1 + 1)) - 1)) * 29)))) + (IntKind.wrap .i64 ((IntKind.wrap .i64 (Int.tdiv (IntKind.wrap .i64 ((IntKind.wrap .i64 (p0q1 + 1)) - 1)) ((p0q0.length : Nat) : Int))) * 53)))) 64))).toNat : Int)) p1)), false)], [[(.ints .u8 p0q0), (.int .i64 (IntKind.wrap .i64 (p0q1 + 1)))]])))))))) := by kernel_rfl
end spec_reader_pick
theorem spec_reader_pick.ok_of (hX : ∀ E ∈ spec_reader_pick.X, CallSpec Try.prog E) (h : ∀ (bs : List Int) (p : Int) (n : Int), (rdOk bs p && decide ((n : Int) ≤ 1048576)) = true → ∃ fuel, runF Try.prog spec_reader_pick.X spec_reader_pick.I 0 fuel 27 Try.f27 [.box [(.ints .u8 bs), (.int .i64 p)], .d (.int .i64 n)] = some ([.one ((.int .i64 (pickV bs p n)), false)], [[(.ints .u8 bs), (.int .i64 (p + 1))]])) : CallSpec Try.prog spec_reader_pick.E :=
  callSpec_of (d := 0) hX (by kernel_rfl) spec_reader_pick.I_ok (by kernel_rfl) (by kernel_rfl) (by kernel_rfl) (fun _ _ _ _ h => by dsimp only [spec_reader_pick.E] at h; cases h) (fun xs hp => by
    dsimp only [spec_reader_pick.E] at hp ⊢
    split at hp
    · exact h _ _ _ hp
    · cases hp)
theorem spec_reader_pick.ok : CallSpec Try.prog spec_reader_pick.E := spec_reader_pick.ok_of (by simp [spec_reader_pick.X]) fun bs p n h => ⟨0, by
  simp only [Bool.and_eq_true, decide_eq_true_eq] at h
  obtain ⟨h0, h1, h2, h3⟩ := rdOk_inv h.1
  have hP := @wS (p + 1) (by omega) (by omega)
  have hK := @wS (p + 1 - 1) (by omega) (by omega)
  rw [show p + 1 - 1 = p by omega] at hK
  rw [spec_reader_pick.e]
  simp only [hP, show p + 1 - 1 = p by omega, hK]
  unfold pickV
  by_cases hn : n < 1
  · rw [decide_eq_true hn]; rfl
  rw [decide_eq_false hn, cond_false, cond_false]
  by_cases hL : bs.length = 0
  · rw [show (((bs.length : Nat) : Int) == 0) = true by simp [hL]]; rfl
  rw [beq0 hL, cond_false, cond_false]
  by_cases hp : p < ((bs.length : Nat) : Int)
  · have hlt : p.toNat < bs.length := by omega
    have hi : idx p bs.length = some p.toNat := by unfold idx; rw [if_pos ⟨h0, hp⟩]
    rw [decide_eq_true hp, hi, decide_eq_false (p := n = 0) (by omega)]
    simp [hlt]
  · have t1 := tmod_bd (x := p) (n := ((bs.length : Nat) : Int)) h0 (by omega)
    have e7 := @wS (p * 7) (by omega) (by omega)
    have e8 := @wS (p * 7 + 3) (by omega) (by omega)
    have t2 := tmod_bd (x := p * 7 + 3) (n := ((bs.length : Nat) : Int)) (by omega) (by omega)
    have i1 : idx (Int.tmod p ((bs.length : Nat) : Int)) bs.length = some (Int.tmod p ((bs.length : Nat) : Int)).toNat := by unfold idx; rw [if_pos t1]
    have i2 : idx (Int.tmod (p * 7 + 3) ((bs.length : Nat) : Int)) bs.length = some (Int.tmod (p * 7 + 3) ((bs.length : Nat) : Int)).toNat := by unfold idx; rw [if_pos t2]
    have g1 : (Int.tmod p ((bs.length : Nat) : Int)).toNat < bs.length := by omega
    have g2 : (Int.tmod (p * 7 + 3) ((bs.length : Nat) : Int)).toNat < bs.length := by omega
    have q1 : bs[(Int.tmod p ((bs.length : Nat) : Int)).toNat]? = some (bs.getD (Int.tmod p ((bs.length : Nat) : Int)).toNat 0) := by simp [g1]
    have q2 : bs[(Int.tmod (p * 7 + 3) ((bs.length : Nat) : Int)).toNat]? = some (bs.getD (Int.tmod (p * 7 + 3) ((bs.length : Nat) : Int)).toNat 0) := by simp [g2]
    rw [decide_eq_false hp, decide_eq_false (p := (((bs.length : Nat) : Int) = 0)) (by omega), decide_eq_false (p := n = 0) (by omega), e7, e8, i1, i2]
    simp only [cond_false, Option.bind_some, q1, q2]
    rfl⟩

namespace spec_someShape
noncomputable def E : Entry := ⟨64, false, false, fun | [.box [(.ints .u8 bs), (.int .i64 p)]] => rdOk bs p && decide ((p : Int) ≤ 2000000) | _ => false, fun | [.box [(.ints .u8 bs), (.int .i64 p)]] => ([.one ((.ints .i64 (sShV bs p)), true)], [[(.ints .u8 bs), (.int .i64 (sShP bs p))]]) | _ => ([], []), fun _ => [], false, fun _ => none⟩
end spec_someShape
namespace spec_someShape
noncomputable def X : List Entry := [spec_reader_pick.E]
noncomputable def I : List Inl := [⟨64, Try.f64, ⟨[], [], [], [], [], []⟩⟩]
theorem I_ok : ∀ i ∈ I, Try.prog.funcs[i.f]? = some i.fn ∧ (i.fn.name == "runtime.NumGoroutine") = false := by
  intro i hi
  simp only [I, List.mem_cons, List.not_mem_nil, or_false] at hi
  subst hi
  exact ⟨by kernel_rfl, by kernel_rfl⟩
theorem e (fuel : Nat) (p0q0 : List Int) (p0q1 : Int) : runF Try.prog X I 0 fuel 64 Try.f64 [.box [(.ints .u8 p0q0), (.int .i64 p0q1)]] =
  (bif rdOk p0q0 p0q1 && decide ((8 : Int) ≤ 1048576) then
  (bif (((pickV p0q0 p0q1 8) : Int) == 0) then
  some ([.one ((.ints .i64 []), true)], [[(.ints .u8 p0q0), (.int .i64 (p0q1 + 1))]])
  else
  (bif (((pickV p0q0 p0q1 8) : Int) == 1) then
  (bif rdOk p0q0 ((p0q1 + 1)) && decide ((7 : Int) ≤ 1048576) then
  some ([.one ((.ints .i64 [(pickV p0q0 ((p0q1 + 1)) 7)]), true)], [[(.ints .u8 p0q0), (.int .i64 (((p0q1 + 1)) + 1))]])
  else
  none)
  else
  (bif (((pickV p0q0 p0q1 8) : Int) == 2) then
  (bif rdOk p0q0 ((p0q1 + 1)) && decide ((7 : Int) ≤ 1048576) then
  some ([.one ((.ints .i64 [(pickV p0q0 ((p0q1 + 1)) 7)]), true)], [[(.ints .u8 p0q0), (.int .i64 (((p0q1 + 1)) + 1))]])
  else
  none)
  else
  (bif (((pickV p0q0 p0q1 8) : Int) == 3) then
  (bif rdOk p0q0 ((p0q1 + 1)) && decide ((7 : Int) ≤ 1048576) then
  some ([.one ((.ints .i64 [(pickV p0q0 ((p0q1 + 1)) 7)]), true)], [[(.ints .u8 p0q0), (.int .i64 (((p0q1 + 1)) + 1))]])
  else
  none)
  else
  (bif (((pickV p0q0 p0q1 8) : Int) == 4) then
  (bif rdOk p0q0 ((p0q1 + 1)) && decide ((5 : Int) ≤ 1048576) then
  (bif rdOk p0q0 ((((p0q1 + 1)) + 1)) && decide ((5 : Int) ≤ 1048576) then
  some ([.one ((.ints .i64 [(pickV p0q0 ((p0q1 + 1)) 5), (pickV p0q0 ((((p0q1 + 1)) + 1)) 5)]), true)], [[(.ints .u8 p0q0), (.int .i64 (((((p0q1 + 1)) + 1)) + 1))]])
  else
  none)
  else
  none)
  else
  (bif (((pickV p0q0 p0q1 8) : Int) == 5) then
  (bif rdOk p0q0 ((p0q1 + 1)) && decide ((5 : Int) ≤ 1048576) then
  (bif rdOk p0q0 ((((p0q1 + 1)) + 1)) && decide ((5 : Int) ≤ 1048576) then
  some ([.one ((.ints .i64 [(pickV p0q0 ((p0q1 + 1)) 5), (pickV p0q0 ((((p0q1 + 1)) + 1)) 5)]), true)], [[(.ints .u8 p0q0), (.int .i64 (((((p0q1 + 1)) + 1)) + 1))]])
  else
  none)
  else
  none)
  else
  (bif (((pickV p0q0 p0q1 8) : Int) == 6) then
  (bif rdOk p0q0 ((p0q1 + 1)) && decide ((5 : Int) ≤ 1048576) then
  (bif rdOk p0q0 ((((p0q1 + 1)) + 1)) && decide ((5 : Int) ≤ 1048576) then
  some ([.one ((.ints .i64 [(pickV p0q0 ((p0q1 + 1)) 5), (pickV p0q0 ((((p0q1 + 1)) + 1)) 5)]), true)], [[(.ints .u8 p0q0), (.int .i64 (((((p0q1 + 1)) + 1)) + 1))]])
  else
  none)
  else
  none)
  else
  (bif rdOk p0q0 ((p0q1 + 1)) && decide ((4 : Int) ≤ 1048576) then
  (bif rdOk p0q0 ((((p0q1 + 1)) + 1)) && decide ((4 : Int) ≤ 1048576) then
  (bif rdOk p0q0 ((((((p0q1 + 1)) + 1)) + 1)) && decide ((4 : Int) ≤ 1048576) then
  some ([.one ((.ints .i64 [(pickV p0q0 ((p0q1 + 1)) 4), (pickV p0q0 ((((p0q1 + 1)) + 1)) 4), (pickV p0q0 ((((((p0q1 + 1)) + 1)) + 1)) 4)]), true)], [[(.ints .u8 p0q0), (.int .i64 (((((((p0q1 + 1)) + 1)) + 1)) + 1))]])
  else
  none)
  else
  none)
  else
  none))))))))
  else
  none) := by kernel_rfl
end spec_someShape
theorem spec_someShape.ok_of (hX : ∀ E ∈ spec_someShape.X, CallSpec Try.prog E) (h : ∀ (bs : List Int) (p : Int), (rdOk bs p && decide ((p : Int) ≤ 2000000)) = true → ∃ fuel, runF Try.prog spec_someShape.X spec_someShape.I 0 fuel 64 Try.f64 [.box [(.ints .u8 bs), (.int .i64 p)]] = some ([.one ((.ints .i64 (sShV bs p)), true)], [[(.ints .u8 bs), (.int .i64 (sShP bs p))]])) : CallSpec Try.prog spec_someShape.E :=
  callSpec_of (d := 0) hX (by kernel_rfl) spec_someShape.I_ok (by kernel_rfl) (by kernel_rfl) (by kernel_rfl) (fun _ _ _ _ h => by dsimp only [spec_someShape.E] at h; cases h) (fun xs hp => by
    dsimp only [spec_someShape.E] at hp ⊢
    split at hp
    · exact h _ _ hp
    · cases hp)
theorem spec_someShape.ok : CallSpec Try.prog spec_someShape.E := spec_someShape.ok_of (by simp [spec_someShape.X, spec_reader_pick.ok]) fun bs p h => ⟨0, by
  simp only [Bool.and_eq_true, decide_eq_true_eq] at h
  have r0 := h.1
  have r1 := rd_le (q := p + 1) h.1 (by omega) (by omega)
  have r2 := rd_le (q := p + 1 + 1) h.1 (by omega) (by omega)
  have r3 := rd_le (q := p + 1 + 1 + 1) h.1 (by omega) (by omega)
  rw [spec_someShape.e, r0, r1, r2, r3]
  unfold sShV sShP
  cases pickV bs p 8 == 0 <;> cases pickV bs p 8 == 1 <;> cases pickV bs p 8 == 2 <;> cases pickV bs p 8 == 3 <;> cases pickV bs p 8 == 4 <;> cases pickV bs p 8 == 5 <;> cases pickV bs p 8 == 6 <;> rfl⟩

namespace spec_volume
noncomputable def E : Entry := ⟨59, true, false, fun | [.d (.ints .i64 xs)] => decide (xs.length < 9223372036854775808) | _ => false, fun | [.d (.ints .i64 xs)] => ([.one ((.int .i64 (volW xs)), false)], []) | _ => ([], []), fun _ => [], false, fun _ => none⟩
end spec_volume
namespace spec_volume
noncomputable def X : List Entry := []
noncomputable def I : List Inl := [⟨59, Try.f59, ⟨[], [(1000003, [1, 2, 5, 6, 7, 8, 9, 10, 11, 12, 13, 14, 15, 16, 17])], [], [], [], []⟩⟩]
theorem I_ok : ∀ i ∈ I, Try.prog.funcs[i.f]? = some i.fn ∧ (i.fn.name == "runtime.NumGoroutine") = false := by
  intro i hi
  simp only [I, List.mem_cons, List.not_mem_nil, or_false] at hi
  subst hi
  exact ⟨by kernel_rfl, by kernel_rfl⟩
noncomputable abbrev L0 (fuel n : Nat) (s : St) (k : Kont) := lAt Try.prog X I fuel true 0 false 59 (bodyOf Try.f59) [1, 1, 0, 1, 0] n s k
noncomputable abbrev k0  (fuel : Nat) : Kont := (kAt Try.prog X I fuel true 0 false 59 (bodyOf Try.f59) [1, 1, 0, 1, 0] [] (endK Try.prog Try.f59))
noncomputable def t0 (p0 : List Int) (x0q1 : Int) (x0q2 : Int) : St := ⟨[(.imm (.ints .i64 p0)), .dead, .dead, (.imm (.int .i64 x0q1)), (.imm (.int .i64 x0q2)), .dead, .dead, .dead, .dead, .dead, .dead, .dead, .dead, .dead, .dead, .dead, .dead, .dead], hOf [], [], []⟩
theorem e (fuel : Nat) (p0 : List Int) : runF Try.prog X I 0 fuel 59 Try.f59 [.d (.ints .i64 p0)] =
  L0 fuel fuel (t0 p0 1 0) (k0  fuel) := by kernel_rfl
theorem s0 (fuel n0 : Nat) (p0 : List Int) (x0q1 : Int) (x0q2 : Int) : L0 fuel (n0 + 1) (t0 p0 x0q1 x0q2) (k0  fuel) =
  (bif (decide ((x0q2 : Int) < ((p0.length : Nat) : Int))) then
  (idx x0q2 p0.length).bind fun j5 =>
  (p0[j5]?).bind fun v6 =>
  L0 fuel n0 (t0 p0 ((IntKind.wrap .i64 (x0q1 * v6))) ((IntKind.wrap .i64 (x0q2 + 1)))) (k0  fuel)
  else
  some ([.one ((.int .i64 x0q1), false)], [])) := by kernel_rfl
end spec_volume
theorem spec_volume.ok_of (hX : ∀ E ∈ spec_volume.X, CallSpec Try.prog E) (h : ∀ (xs : List Int), (decide (xs.length < 9223372036854775808)) = true → ∃ fuel, runF Try.prog spec_volume.X spec_volume.I 0 fuel 59 Try.f59 [.d (.ints .i64 xs)] = some ([.one ((.int .i64 (volW xs)), false)], [])) : CallSpec Try.prog spec_volume.E :=
  callSpec_of (d := 0) hX (by kernel_rfl) spec_volume.I_ok (by kernel_rfl) (by kernel_rfl) (by kernel_rfl) (fun _ _ _ _ h => by dsimp only [spec_volume.E] at h; cases h) (fun xs hp => by
    dsimp only [spec_volume.E] at hp ⊢
    split at hp
    · exact h _ hp
    · cases hp)
theorem spec_volume.loop (fuel : Nat) (xs : List Int) (hx : xs.length < 9223372036854775808) : ∀ (m n j : Nat) (a : Int), xs.length - j = m → m < n → j ≤ xs.length →
    spec_volume.L0 fuel n (spec_volume.t0 xs a (j : Int)) (spec_volume.k0 fuel) = some ([.one (.int .i64 (volFrom (xs.drop j) a), false)], []) := by
  intro m
  induction m with
  | zero =>
    intro n j a h1 h2 h3
    obtain ⟨n, rfl⟩ : ∃ n', n = n' + 1 := ⟨n - 1, by omega⟩
    have hj : ¬ j < xs.length := by omega
    rw [spec_volume.s0, dge hj, dropE hj]
    rfl
  | succ m ih =>
    intro n j a h1 h2 h3
    obtain ⟨n, rfl⟩ : ∃ n', n = n' + 1 := ⟨n - 1, by omega⟩
    have hj : j < xs.length := by omega
    rw [spec_volume.s0, dlt hj, idx_nat hj, w1 (by omega), dropS hj]
    simp only [cond_true, Option.bind_some, getS hj, volFrom]
    exact ih n (j + 1) _ (by omega) (by omega) (by omega)

theorem spec_volume.ok : CallSpec Try.prog spec_volume.E := spec_volume.ok_of (by simp [spec_volume.X]) fun xs h => by
  simp only [decide_eq_true_eq] at h
  refine ⟨xs.length + 1, ?_⟩
  rw [spec_volume.e]
  exact spec_volume.loop (xs.length + 1) xs h xs.length (xs.length + 1) 0 1 (by omega) (by omega) (by omega)

namespace spec_reader_one
noncomputable def E : Entry := ⟨51, false, false, fun | [.box [(.ints .u8 bs), (.int .i64 p)], .d (.ints .i64 xs)] => rdOk bs p && decide (0 < (xs : List Int).length) && decide ((xs : List Int).length ≤ 1048576) | _ => false, fun | [.box [(.ints .u8 bs), (.int .i64 p)], .d (.ints .i64 xs)] => ([.one ((.int .i64 (oneV bs p xs)), false)], [[(.ints .u8 bs), (.int .i64 (p + 1))]]) | _ => ([], []), fun _ => [], false, fun _ => none⟩
end spec_reader_one
namespace spec_reader_one
noncomputable def X : List Entry := [spec_reader_pick.E]
noncomputable def I : List Inl := [⟨51, Try.f51, ⟨[], [], [], [], [], []⟩⟩]
theorem I_ok : ∀ i ∈ I, Try.prog.funcs[i.f]? = some i.fn ∧ (i.fn.name == "runtime.NumGoroutine") = false := by
  intro i hi
  simp only [I, List.mem_cons, List.not_mem_nil, or_false] at hi
  subst hi
  exact ⟨by kernel_rfl, by kernel_rfl⟩
theorem e (fuel : Nat) (p0q0 : List Int) (p0q1 : Int) (p1 : List Int) : runF Try.prog X I 0 fuel 51 Try.f51 [.box [(.ints .u8 p0q0), (.int .i64 p0q1)], .d (.ints .i64 p1)] =
  (bif rdOk p0q0 p0q1 && decide (((((p1.length : Nat) : Int)) : Int) ≤ 1048576) then
  (idx (pickV p0q0 p0q1 (((p1.length : Nat) : Int))) p1.length).bind fun j1 =>
  (p1[j1]?).bind fun v2 =>
  some ([.one ((.int .i64 v2), false)], [[(.ints .u8 p0q0), (.int .i64 (p0q1 + 1))]])
  else
  none) := by kernel_rfl
end spec_reader_one
theorem spec_reader_one.ok_of (hX : ∀ E ∈ spec_reader_one.X, CallSpec Try.prog E) (h : ∀ (bs : List Int) (p : Int) (xs : List Int), (rdOk bs p && decide (0 < (xs : List Int).length) && decide ((xs : List Int).length ≤ 1048576)) = true → ∃ fuel, runF Try.prog spec_reader_one.X spec_reader_one.I 0 fuel 51 Try.f51 [.box [(.ints .u8 bs), (.int .i64 p)], .d (.ints .i64 xs)] = some ([.one ((.int .i64 (oneV bs p xs)), false)], [[(.ints .u8 bs), (.int .i64 (p + 1))]])) : CallSpec Try.prog spec_reader_one.E :=
  callSpec_of (d := 0) hX (by kernel_rfl) spec_reader_one.I_ok (by kernel_rfl) (by kernel_rfl) (by kernel_rfl) (fun _ _ _ _ h => by dsimp only [spec_reader_one.E] at h; cases h) (fun xs hp => by
    dsimp only [spec_reader_one.E] at hp ⊢
    split at hp
    · exact h _ _ _ hp
    · cases hp)
theorem spec_reader_one.ok : CallSpec Try.prog spec_reader_one.E := spec_reader_one.ok_of (by simp [spec_reader_one.X, spec_reader_pick.ok]) fun bs p xs h => ⟨0, by
  simp only [Bool.and_eq_true, decide_eq_true_eq] at h
  have hb := pick_bd (n := ((xs.length : Nat) : Int)) h.1.1 (by omega)
  have hi : idx (pickV bs p ((xs.length : Nat) : Int)) xs.length = some (pickV bs p ((xs.length : Nat) : Int)).toNat := by unfold idx; rw [if_pos hb]
  have g : (pickV bs p ((xs.length : Nat) : Int)).toNat < xs.length := by omega
  rw [spec_reader_one.e, h.1.1, decide_eq_true (p := (((xs.length : Nat) : Int) ≤ 1048576)) (by omega), hi]
  unfold oneV
  simp [g]⟩

namespace spec_someNum
noncomputable def E : Entry := ⟨60, false, false, fun | [.box [(.ints .u8 bs), (.int .i64 p)]] => rdOk bs p | _ => false, fun | [.box [(.ints .u8 bs), (.int .i64 p)]] => ([.one ((.int .i64 (oneV bs p someL)), false)], [[(.ints .u8 bs), (.int .i64 (p + 1))]]) | _ => ([], []), fun _ => [], false, fun _ => none⟩
end spec_someNum
namespace spec_someNum
noncomputable def X : List Entry := [spec_reader_one.E]
noncomputable def I : List Inl := [⟨60, Try.f60, ⟨[], [], [], [], [4], []⟩⟩]
theorem I_ok : ∀ i ∈ I, Try.prog.funcs[i.f]? = some i.fn ∧ (i.fn.name == "runtime.NumGoroutine") = false := by
  intro i hi
  simp only [I, List.mem_cons, List.not_mem_nil, or_false] at hi
  subst hi
  exact ⟨by kernel_rfl, by kernel_rfl⟩
theorem e (fuel : Nat) (p0q0 : List Int) (p0q1 : Int) : runF Try.prog X I 0 fuel 60 Try.f60 [.box [(.ints .u8 p0q0), (.int .i64 p0q1)]] =
  (bif rdOk p0q0 p0q1 && decide (0 < ((([0, 1, 2, 3, (-1), 5, 7, (-4), 1000000, (-1000000), 10, 1] : List Int)) : List Int).length) && decide (((([0, 1, 2, 3, (-1), 5, 7, (-4), 1000000, (-1000000), 10, 1] : List Int)) : List Int).length ≤ 1048576) then
  some ([.one ((.int .i64 (oneV p0q0 p0q1 (([0, 1, 2, 3, (-1), 5, 7, (-4), 1000000, (-1000000), 10, 1] : List Int)))), false)], [[(.ints .u8 p0q0), (.int .i64 (p0q1 + 1))]])
  else
  none) := by kernel_rfl
end spec_someNum
theorem spec_someNum.ok_of (hX : ∀ E ∈ spec_someNum.X, CallSpec Try.prog E) (h : ∀ (bs : List Int) (p : Int), (rdOk bs p) = true → ∃ fuel, runF Try.prog spec_someNum.X spec_someNum.I 0 fuel 60 Try.f60 [.box [(.ints .u8 bs), (.int .i64 p)]] = some ([.one ((.int .i64 (oneV bs p someL)), false)], [[(.ints .u8 bs), (.int .i64 (p + 1))]])) : CallSpec Try.prog spec_someNum.E :=
  callSpec_of (d := 0) hX (by kernel_rfl) spec_someNum.I_ok (by kernel_rfl) (by kernel_rfl) (by kernel_rfl) (fun _ _ _ _ h => by dsimp only [spec_someNum.E] at h; cases h) (fun xs hp => by
    dsimp only [spec_someNum.E] at hp ⊢
    split at hp
    · exact h _ _ hp
    · cases hp)
theorem spec_someNum.ok : CallSpec Try.prog spec_someNum.E := spec_someNum.ok_of (by simp [spec_someNum.X, spec_reader_one.ok]) fun bs p h => ⟨0, by
  rw [spec_someNum.e, h]
  rfl⟩

namespace spec_copyInts
noncomputable def E : Entry := ⟨28, false, false, fun | [.d (.ints .i64 xs)] => szB xs | _ => false, fun | [.d (.ints .i64 xs)] => ([.one ((.ints .i64 xs), true)], []) | _ => ([], []), fun _ => [], true, fun _ => none⟩
end spec_copyInts
namespace spec_copyInts
noncomputable def X : List Entry := []
noncomputable def I : List Inl := [⟨28, Try.f28, ⟨[], [], [], [], [], []⟩⟩]
theorem I_ok : ∀ i ∈ I, Try.prog.funcs[i.f]? = some i.fn ∧ (i.fn.name == "runtime.NumGoroutine") = false := by
  intro i hi
  simp only [I, List.mem_cons, List.not_mem_nil, or_false] at hi
  subst hi
  exact ⟨by kernel_rfl, by kernel_rfl⟩
theorem e (fuel : Nat) (p0 : List Int) : runF Try.prog X I 0 fuel 28 Try.f28 [.d (.ints .i64 p0)] =
  (bif fits (([] : List Int).length + p0.length) 8 then
  some ([.one ((.ints .i64 (([] : List Int) ++ p0)), true)], [])
  else
  none) := by kernel_rfl
end spec_copyInts
theorem spec_copyInts.ok_of (hX : ∀ E ∈ spec_copyInts.X, CallSpec Try.prog E) (h : ∀ (xs : List Int), (szB xs) = true → ∃ fuel, runF Try.prog spec_copyInts.X spec_copyInts.I 0 fuel 28 Try.f28 [.d (.ints .i64 xs)] = some ([.one ((.ints .i64 xs), true)], [])) : CallSpec Try.prog spec_copyInts.E :=
  callSpec_of (d := 0) hX (by kernel_rfl) spec_copyInts.I_ok (by kernel_rfl) (by kernel_rfl) (by kernel_rfl) (fun _ _ _ _ h => by dsimp only [spec_copyInts.E] at h; cases h) (fun xs hp => by
    dsimp only [spec_copyInts.E] at hp ⊢
    split at hp
    · exact h _ hp
    · cases hp)
theorem spec_copyInts.ok : CallSpec Try.prog spec_copyInts.E := spec_copyInts.ok_of (by simp [spec_copyInts.X]) fun xs h => ⟨0, by
  have hx := szB_le h
  rw [spec_copyInts.e, fitsOk (by simp; omega)]
  rfl⟩

namespace spec_make1
noncomputable def E : Entry := ⟨38, false, false, fun | [.d (.ints .i64 sh), .d (.ints .i64 da)] => szB sh && szB da | _ => false, fun | [.d (.ints .i64 sh), .d (.ints .i64 da)] => ([.agg [((.ints .i64 sh), true), ((.ints .i64 da), true)]], []) | _ => ([], []), fun _ => [], true, fun _ => none⟩
end spec_make1
namespace spec_make1
noncomputable def X : List Entry := [spec_copyInts.E]
noncomputable def I : List Inl := [⟨38, Try.f38, ⟨[6, 8], [], [], [], [], []⟩⟩]
theorem I_ok : ∀ i ∈ I, Try.prog.funcs[i.f]? = some i.fn ∧ (i.fn.name == "runtime.NumGoroutine") = false := by
  intro i hi
  simp only [I, List.mem_cons, List.not_mem_nil, or_false] at hi
  subst hi
  exact ⟨by kernel_rfl, by kernel_rfl⟩
theorem e (fuel : Nat) (p0 : List Int) (p1 : List Int) : runF Try.prog X I 0 fuel 38 Try.f38 [.d (.ints .i64 p0), .d (.ints .i64 p1)] =
  (bif szB p0 then
  (bif szB p1 then
  some ([.agg [((.ints .i64 p0), true), ((.ints .i64 p1), true)]], [])
  else
  none)
  else
  none) := by kernel_rfl
end spec_make1
theorem spec_make1.ok_of (hX : ∀ E ∈ spec_make1.X, CallSpec Try.prog E) (h : ∀ (sh : List Int) (da : List Int), (szB sh && szB da) = true → ∃ fuel, runF Try.prog spec_make1.X spec_make1.I 0 fuel 38 Try.f38 [.d (.ints .i64 sh), .d (.ints .i64 da)] = some ([.agg [((.ints .i64 sh), true), ((.ints .i64 da), true)]], [])) : CallSpec Try.prog spec_make1.E :=
  callSpec_of (d := 0) hX (by kernel_rfl) spec_make1.I_ok (by kernel_rfl) (by kernel_rfl) (by kernel_rfl) (fun _ _ _ _ h => by dsimp only [spec_make1.E] at h; cases h) (fun xs hp => by
    dsimp only [spec_make1.E] at hp ⊢
    split at hp
    · exact h _ _ hp
    · cases hp)
theorem spec_make1.ok : CallSpec Try.prog spec_make1.E := spec_make1.ok_of (by simp [spec_make1.X, spec_copyInts.ok]) fun sh da h => ⟨0, by
  simp only [Bool.and_eq_true] at h
  rw [spec_make1.e, h.1, h.2]
  rfl⟩

namespace spec_fill
noncomputable def E : Entry := ⟨30, false, false, fun | [.box [(.ints .u8 bs), (.int .i64 p)], .d (.ints .i64 sh)] => rdOk bs p && decide ((p : Int) ≤ 2000000) && validS sh | _ => false, fun | [.box [(.ints .u8 bs), (.int .i64 p)], .d (.ints .i64 sh)] => ([.agg [((.ints .i64 sh), true), ((.ints .i64 (fillV bs p sh)), true)]], [[(.ints .u8 bs), (.int .i64 (p + volW sh))]]) | _ => ([], []), fun _ => [], false, fun _ => none⟩
end spec_fill
namespace spec_fill
noncomputable def X : List Entry := [spec_volume.E, spec_someNum.E, spec_make1.E]
noncomputable def I : List Inl := [⟨30, Try.f30, ⟨[21], [(1000003, [2, 3, 7, 8, 9, 10, 11, 12, 13, 14, 15, 16, 17, 18, 19, 20, 21])], [], [], [], []⟩⟩]
theorem I_ok : ∀ i ∈ I, Try.prog.funcs[i.f]? = some i.fn ∧ (i.fn.name == "runtime.NumGoroutine") = false := by
  intro i hi
  simp only [I, List.mem_cons, List.not_mem_nil, or_false] at hi
  subst hi
  exact ⟨by kernel_rfl, by kernel_rfl⟩
noncomputable abbrev L0 (fuel n : Nat) (s : St) (k : Kont) := lAt Try.prog X I fuel false 0 false 30 (bodyOf Try.f30) [1, 1, 0, 1, 0] n s k
noncomputable abbrev k0  (fuel : Nat) : Kont := (kAt Try.prog X I fuel false 0 false 30 (bodyOf Try.f30) [1, 1, 0, 1, 0] [] (endK Try.prog Try.f30))
noncomputable def t0 (p1 : List Int) (p0q0 : List Int) (x0q1 : Int) (x0q3 : Int) (x0q4 : List Int) : St := ⟨[(.ptr 1000000000 0 0), (.imm (.ints .i64 p1)), .dead, .dead, (.ptr 1000000001 0 0), (.all 1000000002 1), (.imm (.int .i64 x0q1)), .dead, .dead, .dead, .dead, .dead, .dead, .dead, .dead, .dead, .dead, .dead, .dead, .dead, .dead, .dead], hOf [(1000000000, (.box [(.imm (.ints .u8 p0q0)), (.imm (.int .i64 x0q3))])), (1000000001, (.box [(.imm .nils), (.imm .nils)])), (1000000002, (.ints .i64 x0q4))], [(.ptr 1000000000 0 0)], []⟩
theorem e (fuel : Nat) (p0q0 : List Int) (p0q1 : Int) (p1 : List Int) : runF Try.prog X I 0 fuel 30 Try.f30 [.box [(.ints .u8 p0q0), (.int .i64 p0q1)], .d (.ints .i64 p1)] =
  L0 fuel fuel (t0 p1 p0q0 0 p0q1 ([])) (k0  fuel) := by kernel_rfl
theorem s0 (fuel n0 : Nat) (p1 : List Int) (p0q0 : List Int) (x0q1 : Int) (x0q3 : Int) (x0q4 : List Int) : L0 fuel (n0 + 1) (t0 p1 p0q0 x0q1 x0q3 x0q4) (k0  fuel) =
  (bif decide (p1.length < 9223372036854775808) then
  (bif (decide ((x0q1 : Int) < (volW p1))) then
  (bif rdOk p0q0 x0q3 then
  (bif fits (x0q4.length + ([(oneV p0q0 x0q3 someL)] : List Int).length) 8 then
  L0 fuel n0 (t0 p1 p0q0 ((IntKind.wrap .i64 (x0q1 + 1))) ((x0q3 + 1)) ((x0q4 ++ [(oneV p0q0 x0q3 someL)]))) (k0  fuel)
  else
  none)
  else
  none)
  else
  (bif szB p1 && szB x0q4 then
  some ([.agg [((.ints .i64 p1), true), ((.ints .i64 x0q4), true)]], [[(.ints .u8 p0q0), (.int .i64 x0q3)]])
  else
  none))
  else
  none) := by kernel_rfl
end spec_fill
theorem spec_fill.ok_of (hX : ∀ E ∈ spec_fill.X, CallSpec Try.prog E) (h : ∀ (bs : List Int) (p : Int) (sh : List Int), (rdOk bs p && decide ((p : Int) ≤ 2000000) && validS sh) = true → ∃ fuel, runF Try.prog spec_fill.X spec_fill.I 0 fuel 30 Try.f30 [.box [(.ints .u8 bs), (.int .i64 p)], .d (.ints .i64 sh)] = some ([.agg [((.ints .i64 sh), true), ((.ints .i64 (fillV bs p sh)), true)]], [[(.ints .u8 bs), (.int .i64 (p + volW sh))]])) : CallSpec Try.prog spec_fill.E :=
  callSpec_of (d := 0) hX (by kernel_rfl) spec_fill.I_ok (by kernel_rfl) (by kernel_rfl) (by kernel_rfl) (fun _ _ _ _ h => by dsimp only [spec_fill.E] at h; cases h) (fun xs hp => by
    dsimp only [spec_fill.E] at hp ⊢
    split at hp
    · exact h _ _ _ hp
    · cases hp)
theorem spec_fill.loop (fuel : Nat) (bs : List Int) (p : Int) (sh : List Int) (h : rdOk bs p = true) (hp : p ≤ 2000000) (hv : validS sh = true) : ∀ (m n j : Nat) (out : List Int), (volW sh).toNat - j = m → m < n → j ≤ (volW sh).toNat → out = tab j (fun i => oneV bs (p + ((i : Nat) : Int)) someL) →
    spec_fill.L0 fuel n (spec_fill.t0 sh bs (j : Int) (p + (j : Int)) out) (spec_fill.k0 fuel) = some ([.agg [(.ints .i64 sh, true), (.ints .i64 (fillV bs p sh), true)]], [[(.ints .u8 bs), (.int .i64 (p + volW sh))]]) := by
  have hl := (validS_inv hv).1
  have hb := vol_bd hv
  intro m
  induction m with
  | zero =>
    intro n j out h1 h2 h3 h4
    obtain ⟨n, rfl⟩ : ∃ n', n = n' + 1 := ⟨n - 1, by omega⟩
    have ho : out.length = j := by rw [h4, tab_length]
    rw [spec_fill.s0, decide_eq_true (p := sh.length < 9223372036854775808) (by omega), decide_eq_false (p := (j : Int) < volW sh) (by omega), szB_of (xs := sh) (by omega), szB_of (xs := out) (by omega), h4, show p + (j : Int) = p + volW sh by omega, show j = (volW sh).toNat by omega]
    rfl
  | succ m ih =>
    intro n j out h1 h2 h3 h4
    obtain ⟨n, rfl⟩ : ∃ n', n = n' + 1 := ⟨n - 1, by omega⟩
    have ho : out.length = j := by rw [h4, tab_length]
    rw [spec_fill.s0, decide_eq_true (p := sh.length < 9223372036854775808) (by omega), decide_eq_true (p := (j : Int) < volW sh) (by omega), rd_le (q := p + (j : Int)) h (by omega) (by omega), fitsOk (by simp; omega), w1 (by omega), show p + (j : Int) + 1 = p + ((j + 1 : Nat) : Int) by omega]
    exact ih n (j + 1) _ (by omega) (by omega) (by omega) (by rw [tab_succ, h4])
theorem spec_fill.ok : CallSpec Try.prog spec_fill.E := spec_fill.ok_of (by simp [spec_fill.X, spec_volume.ok, spec_someNum.ok, spec_make1.ok]) fun bs p sh h => by
  simp only [Bool.and_eq_true, decide_eq_true_eq] at h
  have hb := vol_bd h.2
  obtain ⟨F, hF⟩ : ∃ F : Nat, 60 < F := ⟨61, by omega⟩
  refine ⟨F, ?_⟩
  have := spec_fill.loop F bs p sh h.1.1 h.1.2 h.2 _ F 0 [] rfl (by omega) (by omega) rfl
  rw [spec_fill.e]
  rw [show p + ((0 : Nat) : Int) = p by omega] at this
  exact this

namespace spec_someArray
noncomputable def E : Entry := ⟨55, false, false, fun | [.box [(.ints .u8 bs), (.int .i64 p)]] => rdOk bs p && decide ((p : Int) ≤ 1000000) | _ => false, fun | [.box [(.ints .u8 bs), (.int .i64 p)]] => ([.agg [((.ints .i64 (sShV bs p)), true), ((.ints .i64 (sDaV bs p)), true)]], [[(.ints .u8 bs), (.int .i64 (sDaP bs p))]]) | _ => ([], []), fun _ => [], false, fun _ => none⟩
end spec_someArray
namespace spec_someArray
noncomputable def X : List Entry := [spec_someShape.E, spec_fill.E]
noncomputable def I : List Inl := [⟨55, Try.f55, ⟨[6], [], [], [], [], []⟩⟩]
theorem I_ok : ∀ i ∈ I, Try.prog.funcs[i.f]? = some i.fn ∧ (i.fn.name == "runtime.NumGoroutine") = false := by
  intro i hi
  simp only [I, List.mem_cons, List.not_mem_nil, or_false] at hi
  subst hi
  exact ⟨by kernel_rfl, by kernel_rfl⟩
theorem e (fuel : Nat) (p0q0 : List Int) (p0q1 : Int) : runF Try.prog X I 0 fuel 55 Try.f55 [.box [(.ints .u8 p0q0), (.int .i64 p0q1)]] =
  (bif rdOk p0q0 p0q1 && decide ((p0q1 : Int) ≤ 2000000) then
  (bif rdOk p0q0 ((sShP p0q0 p0q1)) && decide ((((sShP p0q0 p0q1)) : Int) ≤ 2000000) && validS ((sShV p0q0 p0q1)) then
  some ([.agg [((.ints .i64 ((sShV p0q0 p0q1))), true), ((.ints .i64 (fillV p0q0 ((sShP p0q0 p0q1)) ((sShV p0q0 p0q1)))), true)]], [[(.ints .u8 p0q0), (.int .i64 (((sShP p0q0 p0q1)) + volW ((sShV p0q0 p0q1))))]])
  else
  none)
  else
  none) := by kernel_rfl
end spec_someArray
theorem spec_someArray.ok_of (hX : ∀ E ∈ spec_someArray.X, CallSpec Try.prog E) (h : ∀ (bs : List Int) (p : Int), (rdOk bs p && decide ((p : Int) ≤ 1000000)) = true → ∃ fuel, runF Try.prog spec_someArray.X spec_someArray.I 0 fuel 55 Try.f55 [.box [(.ints .u8 bs), (.int .i64 p)]] = some ([.agg [((.ints .i64 (sShV bs p)), true), ((.ints .i64 (sDaV bs p)), true)]], [[(.ints .u8 bs), (.int .i64 (sDaP bs p))]])) : CallSpec Try.prog spec_someArray.E :=
  callSpec_of (d := 0) hX (by kernel_rfl) spec_someArray.I_ok (by kernel_rfl) (by kernel_rfl) (by kernel_rfl) (fun _ _ _ _ h => by dsimp only [spec_someArray.E] at h; cases h) (fun xs hp => by
    dsimp only [spec_someArray.E] at hp ⊢
    split at hp
    · exact h _ _ hp
    · cases hp)
theorem spec_someArray.ok : CallSpec Try.prog spec_someArray.E := spec_someArray.ok_of (by simp [spec_someArray.X, spec_someShape.ok, spec_fill.ok]) fun bs p h => ⟨0, by
  simp only [Bool.and_eq_true, decide_eq_true_eq] at h
  have b := sShP_bd bs p
  have hs := sShV_ok h.1 (by omega)
  rw [spec_someArray.e, h.1, rd_le (q := sShP bs p) h.1 (by omega) (by omega), decide_eq_true (p := p ≤ 2000000) (by omega), decide_eq_true (p := sShP bs p ≤ 2000000) (by omega), hs]
  rfl⟩

namespace spec_anyShape
noncomputable def E : Entry := ⟨56, false, false, fun | [.box [(.ints .u8 bs), (.int .i64 p)]] => rdOk bs p && decide ((p : Int) ≤ 2000000) | _ => false, fun | [.box [(.ints .u8 bs), (.int .i64 p)]] => ([.one ((.ints .i64 (aShV bs p)), true)], [[(.ints .u8 bs), (.int .i64 (sShP bs p + 1))]]) | _ => ([], []), fun _ => [], false, fun _ => none⟩
end spec_anyShape
namespace spec_anyShape
noncomputable def X : List Entry := [spec_someShape.E, spec_reader_pick.E]
noncomputable def I : List Inl := [⟨56, Try.f56, ⟨[5], [], [], [], [], []⟩⟩]
theorem I_ok : ∀ i ∈ I, Try.prog.funcs[i.f]? = some i.fn ∧ (i.fn.name == "runtime.NumGoroutine") = false := by
  intro i hi
  simp only [I, List.mem_cons, List.not_mem_nil, or_false] at hi
  subst hi
  exact ⟨by kernel_rfl, by kernel_rfl⟩
theorem e (fuel : Nat) (p0q0 : List Int) (p0q1 : Int) : runF Try.prog X I 0 fuel 56 Try.f56 [.box [(.ints .u8 p0q0), (.int .i64 p0q1)]] =
  (bif rdOk p0q0 p0q1 && decide ((p0q1 : Int) ≤ 2000000) then
  (bif rdOk p0q0 ((sShP p0q0 p0q1)) && decide ((24 : Int) ≤ 1048576) then
  (bif (((pickV p0q0 ((sShP p0q0 p0q1)) 24) : Int) == 0) then
  (bif fits ((sShV p0q0 p0q1).length + ([61] : List Int).length) 8 then
  some ([.one ((.ints .i64 ((sShV p0q0 p0q1) ++ [61])), true)], [[(.ints .u8 p0q0), (.int .i64 (((sShP p0q0 p0q1)) + 1))]])
  else
  none)
  else
  (bif (((pickV p0q0 ((sShP p0q0 p0q1)) 24) : Int) == 1) then
  some ([.one ((.ints .i64 [4, 4, 4]), true)], [[(.ints .u8 p0q0), (.int .i64 (((sShP p0q0 p0q1)) + 1))]])
  else
  (bif (((pickV p0q0 ((sShP p0q0 p0q1)) 24) : Int) == 2) then
  some ([.one ((.ints .i64 [1, 1, 1, 1]), true)], [[(.ints .u8 p0q0), (.int .i64 (((sShP p0q0 p0q1)) + 1))]])
  else
  (bif (((pickV p0q0 ((sShP p0q0 p0q1)) 24) : Int) == 3) then
  (bif fits ((sShV p0q0 p0q1).length + ([(-1)] : List Int).length) 8 then
  some ([.one ((.ints .i64 ((sShV p0q0 p0q1) ++ [(-1)])), true)], [[(.ints .u8 p0q0), (.int .i64 (((sShP p0q0 p0q1)) + 1))]])
  else
  none)
  else
  some ([.one ((.ints .i64 (sShV p0q0 p0q1)), true)], [[(.ints .u8 p0q0), (.int .i64 (((sShP p0q0 p0q1)) + 1))]])))))
  else
  none)
  else
  none) := by kernel_rfl
end spec_anyShape
theorem spec_anyShape.ok_of (hX : ∀ E ∈ spec_anyShape.X, CallSpec Try.prog E) (h : ∀ (bs : List Int) (p : Int), (rdOk bs p && decide ((p : Int) ≤ 2000000)) = true → ∃ fuel, runF Try.prog spec_anyShape.X spec_anyShape.I 0 fuel 56 Try.f56 [.box [(.ints .u8 bs), (.int .i64 p)]] = some ([.one ((.ints .i64 (aShV bs p)), true)], [[(.ints .u8 bs), (.int .i64 (sShP bs p + 1))]])) : CallSpec Try.prog spec_anyShape.E :=
  callSpec_of (d := 0) hX (by kernel_rfl) spec_anyShape.I_ok (by kernel_rfl) (by kernel_rfl) (by kernel_rfl) (fun _ _ _ _ h => by dsimp only [spec_anyShape.E] at h; cases h) (fun xs hp => by
    dsimp only [spec_anyShape.E] at hp ⊢
    split at hp
    · exact h _ _ hp
    · cases hp)
theorem spec_anyShape.ok : CallSpec Try.prog spec_anyShape.E := spec_anyShape.ok_of (by simp [spec_anyShape.X, spec_someShape.ok, spec_reader_pick.ok]) fun bs p h => ⟨0, by
  have h' := h
  simp only [Bool.and_eq_true, decide_eq_true_eq] at h'
  have b := sShP_bd bs p
  have r1 := rd_le (q := sShP bs p) h'.1 (by omega) (by omega)
  have l := (validS_inv (sShV_ok h'.1 h'.2)).1
  rw [spec_anyShape.e, h, r1, fitsOk (by simp; omega), fitsOk (by simp; omega)]
  unfold aShV
  cases pickV bs (sShP bs p) 24 == 0 <;> cases pickV bs (sShP bs p) 24 == 1 <;> cases pickV bs (sShP bs p) 24 == 2 <;> cases pickV bs (sShP bs p) 24 == 3 <;> rfl⟩

namespace spec_reader_spoil
noncomputable def E : Entry := ⟨57, false, false, fun | [.box [(.ints .u8 bs), (.int .i64 p)], .d (.ints .i64 xs), .d (.int .i64 n)] => rdOk bs p && decide ((p : Int) ≤ 2000000) && decide ((xs : List Int).length ≤ 1000000) | _ => false, fun | [.box [(.ints .u8 bs), (.int .i64 p)], .d (.ints .i64 xs), .d (.int .i64 n)] => ([.one ((.ints .i64 (spV bs p xs n)), false)], [[(.ints .u8 bs), (.int .i64 (spP bs p xs))]]) | _ => ([], []), fun _ => [], false, fun _ => none⟩
end spec_reader_spoil
namespace spec_reader_spoil
noncomputable def X : List Entry := [spec_copyInts.E, spec_reader_pick.E, spec_reader_one.E]
noncomputable def I : List Inl := [⟨57, Try.f57, ⟨[9], [], [(7, [7]), (11, [7])], [], [37], []⟩⟩]
theorem I_ok : ∀ i ∈ I, Try.prog.funcs[i.f]? = some i.fn ∧ (i.fn.name == "runtime.NumGoroutine") = false := by
  intro i hi
  simp only [I, List.mem_cons, List.not_mem_nil, or_false] at hi
  subst hi
  exact ⟨by kernel_rfl, by kernel_rfl⟩
theorem e (fuel : Nat) (p0q0 : List Int) (p0q1 : Int) (p1 : List Int) (p2 : Int) : runF Try.prog X I 0 fuel 57 Try.f57 [.box [(.ints .u8 p0q0), (.int .i64 p0q1)], .d (.ints .i64 p1), .d (.int .i64 p2)] =
  (bif szB p1 then
  (bif rdOk p0q0 p0q1 && decide ((20 : Int) ≤ 1048576) then
  (bif (((pickV p0q0 p0q1 20) : Int) == 0) then
  (bif fits (p1.length + ([p2] : List Int).length) 8 then
  some ([.one ((.ints .i64 (p1 ++ [p2])), false)], [[(.ints .u8 p0q0), (.int .i64 (p0q1 + 1))]])
  else
  none)
  else
  (bif (((pickV p0q0 p0q1 20) : Int) == 1) then
  (bif (decide ((((p1.length : Nat) : Int) : Int) > 0)) then
  (cutEnds p1.length (some (.imm (.int .i64 1))) (none)).bind fun cq1 =>
  some ([.one ((.ints .i64 ((p1.drop cq1.1).take (cq1.2 - cq1.1))), false)], [[(.ints .u8 p0q0), (.int .i64 (p0q1 + 1))]])
  else
  some ([.one ((.ints .i64 p1), false)], [[(.ints .u8 p0q0), (.int .i64 (p0q1 + 1))]]))
  else
  (bif (((pickV p0q0 p0q1 20) : Int) == 2) then
  (bif (decide ((((p1.length : Nat) : Int) : Int) > 0)) then
  (bif rdOk p0q0 ((p0q1 + 1)) && decide (((((p1.length : Nat) : Int)) : Int) ≤ 1048576) then
  (bif rdOk p0q0 ((((p0q1 + 1)) + 1)) && decide (0 < ((([(-1), p2, 0, 1] : List Int)) : List Int).length) && decide (((([(-1), p2, 0, 1] : List Int)) : List Int).length ≤ 1048576) then
  (idx (pickV p0q0 ((p0q1 + 1)) (((p1.length : Nat) : Int))) p1.length).bind fun j2 =>
  (bif decide (j2 < p1.length) then
  some ([.one ((.ints .i64 (p1.set j2 (oneV p0q0 ((((p0q1 + 1)) + 1)) (([(-1), p2, 0, 1] : List Int))))), false)], [[(.ints .u8 p0q0), (.int .i64 (((((p0q1 + 1)) + 1)) + 1))]])
  else
  none)
  else
  none)
  else
  none)
  else
  some ([.one ((.ints .i64 p1), false)], [[(.ints .u8 p0q0), (.int .i64 (p0q1 + 1))]]))
  else
  some ([.one ((.ints .i64 p1), false)], [[(.ints .u8 p0q0), (.int .i64 (p0q1 + 1))]]))))
  else
  none)
  else
  none) := by kernel_rfl
end spec_reader_spoil
theorem spec_reader_spoil.ok_of (hX : ∀ E ∈ spec_reader_spoil.X, CallSpec Try.prog E) (h : ∀ (bs : List Int) (p : Int) (xs : List Int) (n : Int), (rdOk bs p && decide ((p : Int) ≤ 2000000) && decide ((xs : List Int).length ≤ 1000000)) = true → ∃ fuel, runF Try.prog spec_reader_spoil.X spec_reader_spoil.I 0 fuel 57 Try.f57 [.box [(.ints .u8 bs), (.int .i64 p)], .d (.ints .i64 xs), .d (.int .i64 n)] = some ([.one ((.ints .i64 (spV bs p xs n)), false)], [[(.ints .u8 bs), (.int .i64 (spP bs p xs))]])) : CallSpec Try.prog spec_reader_spoil.E :=
  callSpec_of (d := 0) hX (by kernel_rfl) spec_reader_spoil.I_ok (by kernel_rfl) (by kernel_rfl) (by kernel_rfl) (fun _ _ _ _ h => by dsimp only [spec_reader_spoil.E] at h; cases h) (fun xs hp => by
    dsimp only [spec_reader_spoil.E] at hp ⊢
    split at hp
    · exact h _ _ _ _ hp
    · cases hp)
theorem spec_reader_spoil.ok : CallSpec Try.prog spec_reader_spoil.E := spec_reader_spoil.ok_of (by simp [spec_reader_spoil.X, spec_copyInts.ok, spec_reader_pick.ok, spec_reader_one.ok]) fun bs p xs n h => ⟨0, by
  simp only [Bool.and_eq_true, decide_eq_true_eq] at h
  obtain ⟨⟨h1, h2⟩, h3⟩ := h
  have r1 := rd_le (q := p + 1) h1 (by omega) (by omega)
  have r2 := rd_le (q := p + 1 + 1) h1 (by omega) (by omega)
  rw [spec_reader_spoil.e, szB_of (by omega), h1]
  unfold spV spP
  simp only [Bool.true_and, cond_true]
  rw [decide_eq_true (p := (20 : Int) ≤ 1048576) (by omega), cond_true]
  cases pickV bs p 20 == 0 with
  | true => rw [fitsOk (by simp only [List.length_cons, List.length_nil]; omega)]; rfl
  | false =>
    cases pickV bs p 20 == 1 with
    | true =>
      simp only [cond_true, cond_false]
      by_cases h0 : xs.length = 0
      · have e := List.length_eq_zero_iff.mp h0
        subst e
        rfl
      · rw [decide_eq_true (p := ((xs.length : Nat) : Int) > 0) (by omega), cond_true, cut_one (by omega)]
        simp only [Option.bind_some]
        rw [drop_take]
    | false =>
      cases pickV bs p 20 == 2 with
      | false => rfl
      | true =>
        simp only [cond_true, cond_false]
        by_cases h0 : xs.length = 0
        · have e := List.length_eq_zero_iff.mp h0
          subst e
          rfl
        · have pb := pick_bd (n := ((xs.length : Nat) : Int)) r1 (by omega)
          have hi : idx (pickV bs (p + 1) ((xs.length : Nat) : Int)) xs.length = some (pickV bs (p + 1) ((xs.length : Nat) : Int)).toNat := by
            simp only [idx]
            rw [if_pos (by omega)]
          rw [decide_eq_true (p := ((xs.length : Nat) : Int) > 0) (by omega), cond_true, r1, r2, decide_eq_true (p := ((xs.length : Nat) : Int) ≤ 1048576) (by omega), hi, decide_eq_true (p := 0 < xs.length) (by omega)]
          simp only [Bool.true_and, cond_true, Option.bind_some]
          rw [decide_eq_true (p := (pickV bs (p + 1) ((xs.length : Nat) : Int)).toNat < xs.length) (by omega)]
          rfl⟩

namespace spec_anyArray
noncomputable def E : Entry := ⟨24, false, false, fun | [.box [(.ints .u8 bs), (.int .i64 p)]] => rdOk bs p && decide ((p : Int) ≤ 1000000) | _ => false, fun | [.box [(.ints .u8 bs), (.int .i64 p)]] => ([.agg [((.ints .i64 (aArS bs p)), false), ((.ints .i64 (aArD bs p)), false)]], [[(.ints .u8 bs), (.int .i64 (aArP bs p))]]) | _ => ([], []), fun _ => [], false, fun _ => none⟩
end spec_anyArray
namespace spec_anyArray
noncomputable def X : List Entry := [spec_someArray.E, spec_reader_pick.E, spec_anyShape.E, spec_reader_spoil.E]
noncomputable def I : List Inl := [⟨24, Try.f24, ⟨[5, 11, 20], [], [(7, [3, 3]), (3000020, [19])], [], [], [20]⟩⟩]
theorem I_ok : ∀ i ∈ I, Try.prog.funcs[i.f]? = some i.fn ∧ (i.fn.name == "runtime.NumGoroutine") = false := by
  intro i hi
  simp only [I, List.mem_cons, List.not_mem_nil, or_false] at hi
  subst hi
  exact ⟨by kernel_rfl, by kernel_rfl⟩
theorem e (fuel : Nat) (p0q0 : List Int) (p0q1 : Int) : runF Try.prog X I 0 fuel 24 Try.f24 [.box [(.ints .u8 p0q0), (.int .i64 p0q1)]] =
  (bif rdOk p0q0 p0q1 && decide ((p0q1 : Int) ≤ 1000000) then
  (bif rdOk p0q0 ((sDaP p0q0 p0q1)) && decide ((30 : Int) ≤ 1048576) then
  (bif (((pickV p0q0 ((sDaP p0q0 p0q1)) 30) : Int) == 0) then
  (bif rdOk p0q0 ((((sDaP p0q0 p0q1)) + 1)) && decide ((((((sDaP p0q0 p0q1)) + 1)) : Int) ≤ 2000000) then
  some ([.agg [((.ints .i64 (aShV p0q0 ((((sDaP p0q0 p0q1)) + 1)))), false), ((.ints .i64 (sDaV p0q0 p0q1)), false)]], [[(.ints .u8 p0q0), (.int .i64 (sShP p0q0 ((((sDaP p0q0 p0q1)) + 1)) + 1))]])
  else
  none)
  else
  (bif (((pickV p0q0 ((sDaP p0q0 p0q1)) 30) : Int) == 1) then
  (bif fits ((sDaV p0q0 p0q1).length + ([5] : List Int).length) 8 then
  (bif rdOk p0q0 ((((sDaP p0q0 p0q1)) + 1)) && decide ((((((sDaP p0q0 p0q1)) + 1)) : Int) ≤ 2000000) && decide (((((sDaV p0q0 p0q1) ++ [5])) : List Int).length ≤ 1000000) then
  some ([.agg [((.ints .i64 (sShV p0q0 p0q1)), false), ((.ints .i64 (spV p0q0 ((((sDaP p0q0 p0q1)) + 1)) (((sDaV p0q0 p0q1) ++ [5])) 1000001)), false)]], [[(.ints .u8 p0q0), (.int .i64 (spP p0q0 ((((sDaP p0q0 p0q1)) + 1)) (((sDaV p0q0 p0q1) ++ [5]))))]])
  else
  none)
  else
  none)
  else
  some ([.agg [((.ints .i64 (sShV p0q0 p0q1)), false), ((.ints .i64 (sDaV p0q0 p0q1)), false)]], [[(.ints .u8 p0q0), (.int .i64 (((sDaP p0q0 p0q1)) + 1))]])))
  else
  none)
  else
  none) := by kernel_rfl
end spec_anyArray
theorem spec_anyArray.ok_of (hX : ∀ E ∈ spec_anyArray.X, CallSpec Try.prog E) (h : ∀ (bs : List Int) (p : Int), (rdOk bs p && decide ((p : Int) ≤ 1000000)) = true → ∃ fuel, runF Try.prog spec_anyArray.X spec_anyArray.I 0 fuel 24 Try.f24 [.box [(.ints .u8 bs), (.int .i64 p)]] = some ([.agg [((.ints .i64 (aArS bs p)), false), ((.ints .i64 (aArD bs p)), false)]], [[(.ints .u8 bs), (.int .i64 (aArP bs p))]])) : CallSpec Try.prog spec_anyArray.E :=
  callSpec_of (d := 0) hX (by kernel_rfl) spec_anyArray.I_ok (by kernel_rfl) (by kernel_rfl) (by kernel_rfl) (fun _ _ _ _ h => by dsimp only [spec_anyArray.E] at h; cases h) (fun xs hp => by
    dsimp only [spec_anyArray.E] at hp ⊢
    split at hp
    · exact h _ _ hp
    · cases hp)
theorem spec_anyArray.ok : CallSpec Try.prog spec_anyArray.E := spec_anyArray.ok_of (by simp [spec_anyArray.X, spec_someArray.ok, spec_reader_pick.ok, spec_anyShape.ok, spec_reader_spoil.ok]) fun bs p h => ⟨0, by
  simp only [Bool.and_eq_true, decide_eq_true_eq] at h
  obtain ⟨h1, h2, h3⟩ := sDa_bd h.1 (by omega)
  have r1 := rd_le (q := sDaP bs p) h.1 (by omega) (by omega)
  have r2 := rd_le (q := sDaP bs p + 1) h.1 (by omega) (by omega)
  have hz : (sDaV bs p ++ [5]).length ≤ 1000000 := by rw [List.length_append]; simp; omega
  rw [spec_anyArray.e, h.1, r1, r2, decide_eq_true (p := p ≤ 1000000) h.2, decide_eq_true (p := (30 : Int) ≤ 1048576) (by omega), decide_eq_true (p := sDaP bs p + 1 ≤ 2000000) (by omega), fitsOk (by simp only [List.length_cons, List.length_nil]; omega), decide_eq_true hz]
  unfold aArS aArD aArP
  cases pickV bs (sDaP bs p) 30 == 0 with
  | true => rfl
  | false =>
    cases pickV bs (sDaP bs p) 30 == 1 with
    | true => rfl
    | false => rfl⟩

namespace spec_anyAxis
noncomputable def E : Entry := ⟨25, false, false, fun | [.box [(.ints .u8 bs), (.int .i64 p)], .d (.agg [(.ints .i64 sh), (.ints .i64 da)])] => rdOk bs p && decide ((p : Int) ≤ 2000000) && decide ((sh : List Int).length ≤ 1000) | _ => false, fun | [.box [(.ints .u8 bs), (.int .i64 p)], .d (.agg [(.ints .i64 sh), (.ints .i64 da)])] => ([.one ((.int .i64 (aAx bs p sh)), false)], [[(.ints .u8 bs), (.int .i64 (aAxP p sh))]]) | _ => ([], []), fun _ => [], false, fun _ => none⟩
end spec_anyAxis
namespace spec_anyAxis
noncomputable def X : List Entry := [spec_reader_pick.E, spec_reader_one.E]
noncomputable def I : List Inl := [⟨25, Try.f25, ⟨[], [], [], [], [20], []⟩⟩]
theorem I_ok : ∀ i ∈ I, Try.prog.funcs[i.f]? = some i.fn ∧ (i.fn.name == "runtime.NumGoroutine") = false := by
  intro i hi
  simp only [I, List.mem_cons, List.not_mem_nil, or_false] at hi
  subst hi
  exact ⟨by kernel_rfl, by kernel_rfl⟩
theorem e (fuel : Nat) (p0q0 : List Int) (p0q1 : Int) (p1q0 : List Int) (p1q1 : List Int) : runF Try.prog X I 0 fuel 25 Try.f25 [.box [(.ints .u8 p0q0), (.int .i64 p0q1)], .d (.agg [(.ints .i64 p1q0), (.ints .i64 p1q1)])] =
  (bif (decide ((((p1q0.length : Nat) : Int) : Int) > 0)) then
  (bif rdOk p0q0 p0q1 && decide ((8 : Int) ≤ 1048576) then
  (bif (decide (((pickV p0q0 p0q1 8) : Int) > 0)) then
  (bif rdOk p0q0 ((p0q1 + 1)) && decide (((((p1q0.length : Nat) : Int)) : Int) ≤ 1048576) then
  some ([.one ((.int .i64 (pickV p0q0 ((p0q1 + 1)) (((p1q0.length : Nat) : Int)))), false)], [[(.ints .u8 p0q0), (.int .i64 (((p0q1 + 1)) + 1))]])
  else
  none)
  else
  (bif rdOk p0q0 ((p0q1 + 1)) && decide (0 < ((([0, 1, 3, (-1)] : List Int)) : List Int).length) && decide (((([0, 1, 3, (-1)] : List Int)) : List Int).length ≤ 1048576) then
  some ([.one ((.int .i64 (oneV p0q0 ((p0q1 + 1)) (([0, 1, 3, (-1)] : List Int)))), false)], [[(.ints .u8 p0q0), (.int .i64 (((p0q1 + 1)) + 1))]])
  else
  none))
  else
  none)
  else
  (bif rdOk p0q0 p0q1 && decide (0 < ((([0, 1, 3, (-1)] : List Int)) : List Int).length) && decide (((([0, 1, 3, (-1)] : List Int)) : List Int).length ≤ 1048576) then
  some ([.one ((.int .i64 (oneV p0q0 p0q1 (([0, 1, 3, (-1)] : List Int)))), false)], [[(.ints .u8 p0q0), (.int .i64 (p0q1 + 1))]])
  else
  none)) := by kernel_rfl
end spec_anyAxis
theorem spec_anyAxis.ok_of (hX : ∀ E ∈ spec_anyAxis.X, CallSpec Try.prog E) (h : ∀ (bs : List Int) (p : Int) (sh : List Int) (da : List Int), (rdOk bs p && decide ((p : Int) ≤ 2000000) && decide ((sh : List Int).length ≤ 1000)) = true → ∃ fuel, runF Try.prog spec_anyAxis.X spec_anyAxis.I 0 fuel 25 Try.f25 [.box [(.ints .u8 bs), (.int .i64 p)], .d (.agg [(.ints .i64 sh), (.ints .i64 da)])] = some ([.one ((.int .i64 (aAx bs p sh)), false)], [[(.ints .u8 bs), (.int .i64 (aAxP p sh))]])) : CallSpec Try.prog spec_anyAxis.E :=
  callSpec_of (d := 0) hX (by kernel_rfl) spec_anyAxis.I_ok (by kernel_rfl) (by kernel_rfl) (by kernel_rfl) (fun _ _ _ _ h => by dsimp only [spec_anyAxis.E] at h; cases h) (fun xs hp => by
    dsimp only [spec_anyAxis.E] at hp ⊢
    split at hp
    · exact h _ _ _ _ hp
    · cases hp)
theorem spec_anyAxis.ok : CallSpec Try.prog spec_anyAxis.E := spec_anyAxis.ok_of (by simp [spec_anyAxis.X, spec_reader_pick.ok, spec_reader_one.ok]) fun bs p sh da h => ⟨0, by
  simp only [Bool.and_eq_true, decide_eq_true_eq] at h
  obtain ⟨⟨h1, h2⟩, h3⟩ := h
  have r1 := rd_le (q := p + 1) h1 (by omega) (by omega)
  rw [spec_anyAxis.e, h1, r1, decide_eq_true (p := ((sh.length : Nat) : Int) ≤ 1048576) (by omega), decide_eq_true (p := (8 : Int) ≤ 1048576) (by omega)]
  unfold aAx aAxP
  by_cases h0 : 0 < sh.length
  · rw [decide_eq_true (p := ((sh.length : Nat) : Int) > 0) (by omega), decide_eq_true h0]
    cases decide (pickV bs p 8 > 0) <;> rfl
  · rw [decide_eq_false (p := ((sh.length : Nat) : Int) > 0) (by omega), decide_eq_false h0]
    rfl⟩

namespace spec_inRange
noncomputable def E : Entry := ⟨52, true, false, fun | [.d (.int .i64 v), .d (.int .i64 lo), .d (.int .i64 hi)] => true | _ => false, fun | [.d (.int .i64 v), .d (.int .i64 lo), .d (.int .i64 hi)] => ([.one ((.bool (decide (lo ≤ v) && decide (v ≤ hi))), false)], []) | _ => ([], []), fun _ => [], false, fun _ => none⟩
end spec_inRange
namespace spec_inRange
noncomputable def X : List Entry := []
noncomputable def I : List Inl := [⟨52, Try.f52, ⟨[], [], [], [], [], []⟩⟩]
theorem I_ok : ∀ i ∈ I, Try.prog.funcs[i.f]? = some i.fn ∧ (i.fn.name == "runtime.NumGoroutine") = false := by
  intro i hi
  simp only [I, List.mem_cons, List.not_mem_nil, or_false] at hi
  subst hi
  exact ⟨by kernel_rfl, by kernel_rfl⟩
theorem e (fuel : Nat) (p0 : Int) (p1 : Int) (p2 : Int) : runF Try.prog X I 0 fuel 52 Try.f52 [.d (.int .i64 p0), .d (.int .i64 p1), .d (.int .i64 p2)] =
  (bif (decide ((p1 : Int) ≤ p0)) then
  some ([.one ((.bool (decide ((p0 : Int) ≤ p2))), false)], [])
  else
  some ([.one ((.bool false), false)], [])) := by kernel_rfl
end spec_inRange
theorem spec_inRange.ok_of (hX : ∀ E ∈ spec_inRange.X, CallSpec Try.prog E) (h : ∀ (v : Int) (lo : Int) (hi : Int), (true) = true → ∃ fuel, runF Try.prog spec_inRange.X spec_inRange.I 0 fuel 52 Try.f52 [.d (.int .i64 v), .d (.int .i64 lo), .d (.int .i64 hi)] = some ([.one ((.bool (decide (lo ≤ v) && decide (v ≤ hi))), false)], [])) : CallSpec Try.prog spec_inRange.E :=
  callSpec_of (d := 0) hX (by kernel_rfl) spec_inRange.I_ok (by kernel_rfl) (by kernel_rfl) (by kernel_rfl) (fun _ _ _ _ h => by dsimp only [spec_inRange.E] at h; cases h) (fun xs hp => by
    dsimp only [spec_inRange.E] at hp ⊢
    split at hp
    · exact h _ _ _ hp
    · cases hp)
theorem spec_inRange.ok : CallSpec Try.prog spec_inRange.E := spec_inRange.ok_of (by simp [spec_inRange.X]) fun v lo hi _ => ⟨0, by
  rw [spec_inRange.e]
  cases decide (lo ≤ v) <;> rfl⟩

namespace spec_allIn
noncomputable def E : Entry := ⟨58, true, false, fun | [.d (.ints .i64 xs), .d (.int .i64 lo), .d (.int .i64 hi)] => decide (xs.length < 9223372036854775808) | _ => false, fun | [.d (.ints .i64 xs), .d (.int .i64 lo), .d (.int .i64 hi)] => ([.one ((.bool (allB xs lo hi)), false)], []) | _ => ([], []), fun _ => [], false, fun _ => none⟩
end spec_allIn
namespace spec_allIn
noncomputable def X : List Entry := [spec_inRange.E]
noncomputable def I : List Inl := [⟨58, Try.f58, ⟨[], [(1000002, [3, 4, 5, 6, 8, 9, 10, 11, 12, 13, 14, 15, 16, 17, 18, 19, 20, 21])], [], [], [], []⟩⟩]
theorem I_ok : ∀ i ∈ I, Try.prog.funcs[i.f]? = some i.fn ∧ (i.fn.name == "runtime.NumGoroutine") = false := by
  intro i hi
  simp only [I, List.mem_cons, List.not_mem_nil, or_false] at hi
  subst hi
  exact ⟨by kernel_rfl, by kernel_rfl⟩
noncomputable abbrev L0 (fuel n : Nat) (s : St) (k : Kont) := lAt Try.prog X I fuel true 0 false 58 (bodyOf Try.f58) [1, 0, 1, 0] n s k
noncomputable abbrev k0  (fuel : Nat) : Kont := (kAt Try.prog X I fuel true 0 false 58 (bodyOf Try.f58) [1, 0, 1, 0] [] (endK Try.prog Try.f58))
noncomputable def t0 (p0 : List Int) (p1 : Int) (p2 : Int) (x0q3 : Int) : St := ⟨[(.imm (.ints .i64 p0)), (.imm (.int .i64 p1)), (.imm (.int .i64 p2)), .dead, .dead, .dead, .dead, (.imm (.int .i64 x0q3)), .dead, .dead, .dead, .dead, .dead, .dead, .dead, .dead, .dead, .dead, .dead, .dead, .dead, .dead], hOf [], [], []⟩
theorem e (fuel : Nat) (p0 : List Int) (p1 : Int) (p2 : Int) : runF Try.prog X I 0 fuel 58 Try.f58 [.d (.ints .i64 p0), .d (.int .i64 p1), .d (.int .i64 p2)] =
  L0 fuel fuel (t0 p0 p1 p2 0) (k0  fuel) := by kernel_rfl
theorem s0 (fuel n0 : Nat) (p0 : List Int) (p1 : Int) (p2 : Int) (x0q3 : Int) : L0 fuel (n0 + 1) (t0 p0 p1 p2 x0q3) (k0  fuel) =
  (bif (decide ((x0q3 : Int) < ((p0.length : Nat) : Int))) then
  (idx x0q3 p0.length).bind fun j5 =>
  (p0[j5]?).bind fun v6 =>
  (bif (!(decide (p1 ≤ v6) && decide (v6 ≤ p2))) then
  some ([.one ((.bool false), false)], [])
  else
  L0 fuel n0 (t0 p0 p1 p2 ((IntKind.wrap .i64 (x0q3 + 1)))) (k0  fuel))
  else
  some ([.one ((.bool true), false)], [])) := by kernel_rfl
end spec_allIn
theorem spec_allIn.ok_of (hX : ∀ E ∈ spec_allIn.X, CallSpec Try.prog E) (h : ∀ (xs : List Int) (lo : Int) (hi : Int), (decide (xs.length < 9223372036854775808)) = true → ∃ fuel, runF Try.prog spec_allIn.X spec_allIn.I 0 fuel 58 Try.f58 [.d (.ints .i64 xs), .d (.int .i64 lo), .d (.int .i64 hi)] = some ([.one ((.bool (allB xs lo hi)), false)], [])) : CallSpec Try.prog spec_allIn.E :=
  callSpec_of (d := 0) hX (by kernel_rfl) spec_allIn.I_ok (by kernel_rfl) (by kernel_rfl) (by kernel_rfl) (fun _ _ _ _ h => by dsimp only [spec_allIn.E] at h; cases h) (fun xs hp => by
    dsimp only [spec_allIn.E] at hp ⊢
    split at hp
    · exact h _ _ _ hp
    · cases hp)
theorem spec_allIn.loop (fuel : Nat) (xs : List Int) (lo hi : Int) (hx : xs.length < 9223372036854775808) : ∀ (m n j : Nat), xs.length - j = m → m < n → j ≤ xs.length →
    spec_allIn.L0 fuel n (spec_allIn.t0 xs lo hi (j : Int)) (spec_allIn.k0 fuel) = some ([.one (.bool (allB (xs.drop j) lo hi), false)], []) := by
  intro m
  induction m with
  | zero =>
    intro n j h1 h2 h3
    obtain ⟨n, rfl⟩ : ∃ n', n = n' + 1 := ⟨n - 1, by omega⟩
    have hj : ¬ j < xs.length := by omega
    rw [spec_allIn.s0, dge hj, dropE hj]
    rfl
  | succ m ih =>
    intro n j h1 h2 h3
    obtain ⟨n, rfl⟩ : ∃ n', n = n' + 1 := ⟨n - 1, by omega⟩
    have hj : j < xs.length := by omega
    rw [spec_allIn.s0, dlt hj, idx_nat hj, w1 (by omega), dropS hj]
    simp only [cond_true, Option.bind_some, getS hj, allB_cons]
    rw [ih n (j + 1) (by omega) (by omega) (by omega)]
    cases decide (lo ≤ xs[j]) && decide (xs[j] ≤ hi) <;> rfl

theorem spec_allIn.ok : CallSpec Try.prog spec_allIn.E := spec_allIn.ok_of (by simp [spec_allIn.X, spec_inRange.ok]) fun xs lo hi h => by
  simp only [decide_eq_true_eq] at h
  refine ⟨xs.length + 1, ?_⟩
  rw [spec_allIn.e]
  exact spec_allIn.loop (xs.length + 1) xs lo hi h xs.length (xs.length + 1) 0 (by omega) (by omega) (by omega)

namespace spec_validShape
noncomputable def E : Entry := ⟨29, true, false, fun | [.d (.ints .i64 sh)] => decide (sh.length < 9223372036854775808) | _ => false, fun | [.d (.ints .i64 sh)] => ([.one ((.bool (validS sh)), false)], []) | _ => ([], []), fun _ => [], false, fun _ => none⟩
end spec_validShape
namespace spec_validShape
noncomputable def X : List Entry := [spec_allIn.E, spec_volume.E]
noncomputable def I : List Inl := [⟨29, Try.f29, ⟨[], [], [], [], [], []⟩⟩]
theorem I_ok : ∀ i ∈ I, Try.prog.funcs[i.f]? = some i.fn ∧ (i.fn.name == "runtime.NumGoroutine") = false := by
  intro i hi
  simp only [I, List.mem_cons, List.not_mem_nil, or_false] at hi
  subst hi
  exact ⟨by kernel_rfl, by kernel_rfl⟩
theorem e (fuel : Nat) (p0 : List Int) : runF Try.prog X I 0 fuel 29 Try.f29 [.d (.ints .i64 p0)] =
  (bif (decide ((((p0.length : Nat) : Int) : Int) ≤ 3)) then
  (bif decide (p0.length < 9223372036854775808) then
  (bif (allB p0 0 60) then
  (bif decide (p0.length < 9223372036854775808) then
  some ([.one ((.bool (decide (((volW p0) : Int) ≤ 60))), false)], [])
  else
  none)
  else
  some ([.one ((.bool false), false)], []))
  else
  none)
  else
  some ([.one ((.bool false), false)], [])) := by kernel_rfl
end spec_validShape
theorem spec_validShape.ok_of (hX : ∀ E ∈ spec_validShape.X, CallSpec Try.prog E) (h : ∀ (sh : List Int), (decide (sh.length < 9223372036854775808)) = true → ∃ fuel, runF Try.prog spec_validShape.X spec_validShape.I 0 fuel 29 Try.f29 [.d (.ints .i64 sh)] = some ([.one ((.bool (validS sh)), false)], [])) : CallSpec Try.prog spec_validShape.E :=
  callSpec_of (d := 0) hX (by kernel_rfl) spec_validShape.I_ok (by kernel_rfl) (by kernel_rfl) (by kernel_rfl) (fun _ _ _ _ h => by dsimp only [spec_validShape.E] at h; cases h) (fun xs hp => by
    dsimp only [spec_validShape.E] at hp ⊢
    split at hp
    · exact h _ hp
    · cases hp)
theorem spec_validShape.ok : CallSpec Try.prog spec_validShape.E := spec_validShape.ok_of (by simp [spec_validShape.X, spec_allIn.ok, spec_volume.ok]) fun sh h => ⟨0, by
  rw [spec_validShape.e, h]
  unfold validS
  cases decide (((sh.length : Nat) : Int) ≤ 3) <;> cases allB sh 0 60 <;> rfl⟩

namespace spec_valid
noncomputable def E : Entry := ⟨48, true, false, fun | [.d (.agg [(.ints .i64 sh), (.ints .i64 da)])] => decide (sh.length < 9223372036854775808) && decide (da.length < 9223372036854775808) | _ => false, fun | [.d (.agg [(.ints .i64 sh), (.ints .i64 da)])] => ([.one ((.bool (validA sh da)), false)], []) | _ => ([], []), fun _ => [], false, fun _ => none⟩
end spec_valid
namespace spec_valid
noncomputable def X : List Entry := [spec_validShape.E, spec_volume.E, spec_allIn.E]
noncomputable def I : List Inl := [⟨48, Try.f48, ⟨[], [], [], [(1, [0, 1, 2, 3, 4, 7, 5, 6, 8, 9, 10, 11, 12, 13, 14, 15, 16, 17])], [], []⟩⟩]
theorem I_ok : ∀ i ∈ I, Try.prog.funcs[i.f]? = some i.fn ∧ (i.fn.name == "runtime.NumGoroutine") = false := by
  intro i hi
  simp only [I, List.mem_cons, List.not_mem_nil, or_false] at hi
  subst hi
  exact ⟨by kernel_rfl, by kernel_rfl⟩
theorem e (fuel : Nat) (p0q0 : List Int) (p0q1 : List Int) : runF Try.prog X I 0 fuel 48 Try.f48 [.d (.agg [(.ints .i64 p0q0), (.ints .i64 p0q1)])] =
  (bif decide (p0q0.length < 9223372036854775808) then
  (bif (validS p0q0) then
  (bif decide (p0q0.length < 9223372036854775808) then
  (bif ((((p0q1.length : Nat) : Int) : Int) == (volW p0q0)) then
  (bif decide (p0q1.length < 9223372036854775808) then
  some ([.one ((.bool (allB p0q1 ((-1000000)) 1000000)), false)], [])
  else
  none)
  else
  some ([.one ((.bool false), false)], []))
  else
  none)
  else
  some ([.one ((.bool false), false)], []))
  else
  none) := by kernel_rfl
end spec_valid
theorem spec_valid.ok_of (hX : ∀ E ∈ spec_valid.X, CallSpec Try.prog E) (h : ∀ (sh : List Int) (da : List Int), (decide (sh.length < 9223372036854775808) && decide (da.length < 9223372036854775808)) = true → ∃ fuel, runF Try.prog spec_valid.X spec_valid.I 0 fuel 48 Try.f48 [.d (.agg [(.ints .i64 sh), (.ints .i64 da)])] = some ([.one ((.bool (validA sh da)), false)], [])) : CallSpec Try.prog spec_valid.E :=
  callSpec_of (d := 0) hX (by kernel_rfl) spec_valid.I_ok (by kernel_rfl) (by kernel_rfl) (by kernel_rfl) (fun _ _ _ _ h => by dsimp only [spec_valid.E] at h; cases h) (fun xs hp => by
    dsimp only [spec_valid.E] at hp ⊢
    split at hp
    · exact h _ _ hp
    · cases hp)
theorem spec_valid.ok : CallSpec Try.prog spec_valid.E := spec_valid.ok_of (by simp [spec_valid.X, spec_validShape.ok, spec_volume.ok, spec_allIn.ok]) fun sh da h => ⟨0, by
  simp only [Bool.and_eq_true] at h
  rw [spec_valid.e, h.1, h.2]
  unfold validA
  cases validS sh <;> cases (((da.length : Nat) : Int) == volW sh) <;> rfl⟩

namespace spec_isAxis
noncomputable def E : Entry := ⟨26, true, false, fun | [.d (.agg [(.ints .i64 sh), (.ints .i64 da)]), .d (.int .i64 k)] => decide (sh.length < 9223372036854775808) && decide (da.length < 9223372036854775808) | _ => false, fun | [.d (.agg [(.ints .i64 sh), (.ints .i64 da)]), .d (.int .i64 k)] => ([.one ((.bool (axB sh da k)), false)], []) | _ => ([], []), fun _ => [], false, fun _ => none⟩
end spec_isAxis
namespace spec_isAxis
noncomputable def X : List Entry := [spec_valid.E, spec_inRange.E]
noncomputable def I : List Inl := [⟨26, Try.f26, ⟨[], [], [], [], [], []⟩⟩]
theorem I_ok : ∀ i ∈ I, Try.prog.funcs[i.f]? = some i.fn ∧ (i.fn.name == "runtime.NumGoroutine") = false := by
  intro i hi
  simp only [I, List.mem_cons, List.not_mem_nil, or_false] at hi
  subst hi
  exact ⟨by kernel_rfl, by kernel_rfl⟩
theorem e (fuel : Nat) (p0q0 : List Int) (p0q1 : List Int) (p1 : Int) : runF Try.prog X I 0 fuel 26 Try.f26 [.d (.agg [(.ints .i64 p0q0), (.ints .i64 p0q1)]), .d (.int .i64 p1)] =
  (bif decide (p0q0.length < 9223372036854775808) && decide (p0q1.length < 9223372036854775808) then
  (bif (validA p0q0 p0q1) then
  some ([.one ((.bool (decide (0 ≤ p1) && decide (p1 ≤ ((IntKind.wrap .i64 (((p0q0.length : Nat) : Int) - 1)))))), false)], [])
  else
  some ([.one ((.bool false), false)], []))
  else
  none) := by kernel_rfl
end spec_isAxis
theorem spec_isAxis.ok_of (hX : ∀ E ∈ spec_isAxis.X, CallSpec Try.prog E) (h : ∀ (sh : List Int) (da : List Int) (k : Int), (decide (sh.length < 9223372036854775808) && decide (da.length < 9223372036854775808)) = true → ∃ fuel, runF Try.prog spec_isAxis.X spec_isAxis.I 0 fuel 26 Try.f26 [.d (.agg [(.ints .i64 sh), (.ints .i64 da)]), .d (.int .i64 k)] = some ([.one ((.bool (axB sh da k)), false)], [])) : CallSpec Try.prog spec_isAxis.E :=
  callSpec_of (d := 0) hX (by kernel_rfl) spec_isAxis.I_ok (by kernel_rfl) (by kernel_rfl) (by kernel_rfl) (fun _ _ _ _ h => by dsimp only [spec_isAxis.E] at h; cases h) (fun xs hp => by
    dsimp only [spec_isAxis.E] at hp ⊢
    split at hp
    · exact h _ _ _ hp
    · cases hp)
theorem spec_isAxis.ok : CallSpec Try.prog spec_isAxis.E := spec_isAxis.ok_of (by simp [spec_isAxis.X, spec_valid.ok, spec_inRange.ok]) fun sh da k h => ⟨0, by
  rw [spec_isAxis.e, h]
  simp only [Bool.and_eq_true, decide_eq_true_eq] at h
  unfold axB axOk
  rw [wS (by omega) (by omega)]
  cases hv : validA sh da with
  | false => rfl
  | true =>
    have : decide (k ≤ ((sh.length : Nat) : Int) - 1) = decide (k < ((sh.length : Nat) : Int)) := decide_eq_decide.2 (by omega)
    simp only [this, Bool.true_and, cond_true]⟩

namespace spec_DrawJoinAxis
noncomputable def E : Entry := ⟨9, false, false, fun | [.d (.ints .u8 bs)] => bytesB bs | _ => false, fun | [.d (.ints .u8 bs)] => ([.agg [((.ints .i64 (aArS (cutC bs) 0)), false), ((.ints .i64 (aArD (cutC bs) 0)), false)], .agg [((.ints .i64 (djS (cutC bs))), false), ((.ints .i64 (djD (cutC bs))), false)], .one ((.int .i64 (djK (cutC bs))), false)], []) | _ => ([], []), fun _ => [], true, fun _ => none⟩
end spec_DrawJoinAxis
namespace spec_DrawJoinAxis
noncomputable def X : List Entry := [spec_newReader.E, spec_anyArray.E, spec_anyAxis.E, spec_isAxis.E, spec_reader_pick.E, spec_copyInts.E, spec_validShape.E, spec_fill.E]
noncomputable def I : List Inl := [⟨9, Try.f9, ⟨[12, 27, 31], [], [(5, [6]), (9, [6]), (10, [8, 6])], [(5, [0, 1, 3, 2, 4, 5, 6]), (9, [1, 2, 0, 3, 4, 5]), (10, [0, 1, 2, 4, 3, 5, 6, 7])], [25, 41, 43], []⟩⟩]
theorem I_ok : ∀ i ∈ I, Try.prog.funcs[i.f]? = some i.fn ∧ (i.fn.name == "runtime.NumGoroutine") = false := by
  intro i hi
  simp only [I, List.mem_cons, List.not_mem_nil, or_false] at hi
  subst hi
  exact ⟨by kernel_rfl, by kernel_rfl⟩
theorem e (fuel : Nat) (p0 : List Int) : runF Try.prog X I 0 fuel 9 Try.f9 [.d (.ints .u8 p0)] =
  (bif rdOk ((cutC p0)) 0 && decide ((0 : Int) ≤ 1000000) then
  (bif rdOk (((cutC p0))) ((aArP ((cutC p0)) 0)) && decide ((((aArP ((cutC p0)) 0)) : Int) ≤ 2000000) && decide ((((aArS ((cutC p0)) 0)) : List Int).length ≤ 1000) then
  (bif decide (((aArS ((cutC p0)) 0)).length < 9223372036854775808) && decide (((aArD ((cutC p0)) 0)).length < 9223372036854775808) then
  (bif (!(axB ((aArS ((cutC p0)) 0)) ((aArD ((cutC p0)) 0)) ((aAx (((cutC p0))) ((aArP ((cutC p0)) 0)) ((aArS ((cutC p0)) 0)))))) then
  (bif rdOk ((((cutC p0)))) ((aAxP ((aArP ((cutC p0)) 0)) ((aArS ((cutC p0)) 0)))) && decide ((((aAxP ((aArP ((cutC p0)) 0)) ((aArS ((cutC p0)) 0)))) : Int) ≤ 1000000) then
  some ([.agg [((.ints .i64 (aArS ((cutC p0)) 0)), false), ((.ints .i64 (aArD ((cutC p0)) 0)), false)], .agg [((.ints .i64 (aArS ((((cutC p0)))) ((aAxP ((aArP ((cutC p0)) 0)) ((aArS ((cutC p0)) 0)))))), false), ((.ints .i64 (aArD ((((cutC p0)))) ((aAxP ((aArP ((cutC p0)) 0)) ((aArS ((cutC p0)) 0)))))), false)], .one ((.int .i64 (aAx (((cutC p0))) ((aArP ((cutC p0)) 0)) ((aArS ((cutC p0)) 0)))), false)], [])
  else
  none)
  else
  (bif rdOk ((((cutC p0)))) ((aAxP ((aArP ((cutC p0)) 0)) ((aArS ((cutC p0)) 0)))) && decide ((8 : Int) ≤ 1048576) then
  (bif (((pickV ((((cutC p0)))) ((aAxP ((aArP ((cutC p0)) 0)) ((aArS ((cutC p0)) 0)))) 8) : Int) == 0) then
  (bif rdOk (((((cutC p0))))) ((((aAxP ((aArP ((cutC p0)) 0)) ((aArS ((cutC p0)) 0)))) + 1)) && decide ((((((aAxP ((aArP ((cutC p0)) 0)) ((aArS ((cutC p0)) 0)))) + 1)) : Int) ≤ 1000000) then
  some ([.agg [((.ints .i64 (aArS ((cutC p0)) 0)), false), ((.ints .i64 (aArD ((cutC p0)) 0)), false)], .agg [((.ints .i64 (aArS (((((cutC p0))))) ((((aAxP ((aArP ((cutC p0)) 0)) ((aArS ((cutC p0)) 0)))) + 1)))), false), ((.ints .i64 (aArD (((((cutC p0))))) ((((aAxP ((aArP ((cutC p0)) 0)) ((aArS ((cutC p0)) 0)))) + 1)))), false)], .one ((.int .i64 (aAx (((cutC p0))) ((aArP ((cutC p0)) 0)) ((aArS ((cutC p0)) 0)))), false)], [])
  else
  none)
  else
  (bif szB ((aArS ((cutC p0)) 0)) then
  (bif rdOk (((((cutC p0))))) ((((aAxP ((aArP ((cutC p0)) 0)) ((aArS ((cutC p0)) 0)))) + 1)) && decide ((5 : Int) ≤ 1048576) then
  (idx (aAx (((cutC p0))) ((aArP ((cutC p0)) 0)) ((aArS ((cutC p0)) 0))) ((aArS ((cutC p0)) 0)).length).bind fun j1 =>
  (bif decide (j1 < ((aArS ((cutC p0)) 0)).length) then
  (bif decide (((((aArS ((cutC p0)) 0)).set j1 (pickV (((((cutC p0))))) ((((aAxP ((aArP ((cutC p0)) 0)) ((aArS ((cutC p0)) 0)))) + 1)) 5))).length < 9223372036854775808) then
  (bif (!(validS ((((aArS ((cutC p0)) 0)).set j1 (pickV (((((cutC p0))))) ((((aAxP ((aArP ((cutC p0)) 0)) ((aArS ((cutC p0)) 0)))) + 1)) 5))))) then
  some ([.agg [((.ints .i64 (aArS ((cutC p0)) 0)), false), ((.ints .i64 (aArD ((cutC p0)) 0)), false)], .agg [((.ints .i64 (aArS ((cutC p0)) 0)), false), ((.ints .i64 (aArD ((cutC p0)) 0)), false)], .one ((.int .i64 (aAx (((cutC p0))) ((aArP ((cutC p0)) 0)) ((aArS ((cutC p0)) 0)))), false)], [])
  else
  (bif rdOk ((((((cutC p0)))))) ((((((aAxP ((aArP ((cutC p0)) 0)) ((aArS ((cutC p0)) 0)))) + 1)) + 1)) && decide ((((((((aAxP ((aArP ((cutC p0)) 0)) ((aArS ((cutC p0)) 0)))) + 1)) + 1)) : Int) ≤ 2000000) && validS ((((aArS ((cutC p0)) 0)).set j1 (pickV (((((cutC p0))))) ((((aAxP ((aArP ((cutC p0)) 0)) ((aArS ((cutC p0)) 0)))) + 1)) 5))) then
  some ([.agg [((.ints .i64 (aArS ((cutC p0)) 0)), false), ((.ints .i64 (aArD ((cutC p0)) 0)), false)], .agg [((.ints .i64 ((((aArS ((cutC p0)) 0)).set j1 (pickV (((((cutC p0))))) ((((aAxP ((aArP ((cutC p0)) 0)) ((aArS ((cutC p0)) 0)))) + 1)) 5)))), false), ((.ints .i64 (fillV ((((((cutC p0)))))) ((((((aAxP ((aArP ((cutC p0)) 0)) ((aArS ((cutC p0)) 0)))) + 1)) + 1)) ((((aArS ((cutC p0)) 0)).set j1 (pickV (((((cutC p0))))) ((((aAxP ((aArP ((cutC p0)) 0)) ((aArS ((cutC p0)) 0)))) + 1)) 5))))), false)], .one ((.int .i64 (aAx (((cutC p0))) ((aArP ((cutC p0)) 0)) ((aArS ((cutC p0)) 0)))), false)], [])
  else
  none))
  else
  none)
  else
  none)
  else
  none)
  else
  none))
  else
  none))
  else
  none)
  else
  none)
  else
  none) := by kernel_rfl
end spec_DrawJoinAxis
theorem spec_DrawJoinAxis.ok_of (hX : ∀ E ∈ spec_DrawJoinAxis.X, CallSpec Try.prog E) (h : ∀ (bs : List Int), (bytesB bs) = true → ∃ fuel, runF Try.prog spec_DrawJoinAxis.X spec_DrawJoinAxis.I 0 fuel 9 Try.f9 [.d (.ints .u8 bs)] = some ([.agg [((.ints .i64 (aArS (cutC bs) 0)), false), ((.ints .i64 (aArD (cutC bs) 0)), false)], .agg [((.ints .i64 (djS (cutC bs))), false), ((.ints .i64 (djD (cutC bs))), false)], .one ((.int .i64 (djK (cutC bs))), false)], [])) : CallSpec Try.prog spec_DrawJoinAxis.E :=
  callSpec_of (d := 0) hX (by kernel_rfl) spec_DrawJoinAxis.I_ok (by kernel_rfl) (by kernel_rfl) (by kernel_rfl) (fun _ _ _ _ h => by dsimp only [spec_DrawJoinAxis.E] at h; cases h) (fun xs hp => by
    dsimp only [spec_DrawJoinAxis.E] at hp ⊢
    split at hp
    · exact h _ hp
    · cases hp)
theorem spec_DrawJoinAxis.ok : CallSpec Try.prog spec_DrawJoinAxis.E := spec_DrawJoinAxis.ok_of (by simp [spec_DrawJoinAxis.X, spec_newReader.ok, spec_anyArray.ok, spec_anyAxis.ok, spec_isAxis.ok, spec_reader_pick.ok, spec_copyInts.ok, spec_validShape.ok, spec_fill.ok]) fun bs h => ⟨0, by
  have r0 := cut_ok h (p := 0) (by omega) (by omega)
  obtain ⟨_, _, a1, a2, p1, p2⟩ := dj_bd r0
  obtain ⟨_, _, a3, a4⟩ := aAr_bd r0 (by omega)
  have e1 : aAxP (aArP (cutC bs) 0) (aArS (cutC bs) 0) = dAxP (cutC bs) := rfl
  have e2 : aAx (cutC bs) (aArP (cutC bs) 0) (aArS (cutC bs) 0) = dAx (cutC bs) := rfl
  rw [spec_DrawJoinAxis.e, e1, e2, r0, rd_le (q := aArP (cutC bs) 0) r0 (by omega) (by omega), rd_le (q := dAxP (cutC bs)) r0 (by omega) (by omega), rd_le (q := dAxP (cutC bs) + 1) r0 (by omega) (by omega), rd_le (q := dAxP (cutC bs) + 1 + 1) r0 (by omega) (by omega), decide_eq_true (p := aArP (cutC bs) 0 ≤ 2000000) (by omega), decide_eq_true (p := (aArS (cutC bs) 0).length ≤ 1000) (by omega), lt_of (xs := aArS (cutC bs) 0) (by omega), lt_of (xs := aArD (cutC bs) 0) (by omega), decide_eq_true (p := dAxP (cutC bs) ≤ 1000000) (by omega), decide_eq_true (p := dAxP (cutC bs) + 1 ≤ 1000000) (by omega), decide_eq_true (p := dAxP (cutC bs) + 1 + 1 ≤ 2000000) (by omega), szB_of (xs := aArS (cutC bs) 0) (by omega)]
  unfold djS djD djK djB1 djQ djSh
  cases hb : axB (aArS (cutC bs) 0) (aArD (cutC bs) 0) (dAx (cutC bs)) with
  | false => rfl
  | true =>
    obtain ⟨j, hk, hj, hv, ax, hd, hl⟩ := axB_inv hb
    cases pickV (cutC bs) (dAxP (cutC bs)) 8 == 0 with
    | true => rfl
    | false =>
      rw [hk, idx_nat hj, Int.toNat_natCast]
      simp only [Option.bind_some]
      rw [decide_eq_true hj, lt_of (by rw [List.length_set]; omega)]
      cases validS ((aArS (cutC bs) 0).set j (pickV (cutC bs) (dAxP (cutC bs) + 1) 5)) <;> rfl⟩

namespace impl_layoutOf
noncomputable def E : Entry := ⟨34, false, false, fun | [.d (.ints .i64 sh)] => decide (sh.length < 9223372036854775808) | _ => false, fun | [.d (.ints .i64 sh)] => ([.agg [((.ints .i64 nilI), true), ((.int .i64 0), false), ((.int .i64 0), false), ((.int .i64 0), false), ((.int .i64 0), false)], .one ((.bool false), false)], []) | _ => ([], []), fun | [.d (.ints .i64 sh)] => [(validS sh, ([.agg [((.ints .i64 sh), false), ((.int .i64 (strd sh 0)), false), ((.int .i64 (strd sh 1)), false), ((.int .i64 (strd sh 2)), false), ((.int .i64 (volW sh)), false)], .one ((.bool true), false)], []))] | _ => [], true, fun _ => none⟩
end impl_layoutOf
namespace impl_layoutOf
noncomputable def X : List Entry := []
noncomputable def I : List Inl := [⟨34, Try.f34, ⟨[], [(1000005, [1, 3, 6, 7, 8, 9, 10, 11, 12, 13, 14, 15, 16, 17, 18, 19, 20, 21, 22, 23, 24, 25, 26, 27, 28, 29, 30, 31, 32, 33, 34, 35, 36, 37, 38, 39, 40, 41, 42, 43, 44, 45, 46, 47, 48, 49])], [], [(10, [0, 2, 3, 1, 4, 5, 6, 7, 8])], [], []⟩⟩]
theorem I_ok : ∀ i ∈ I, Try.prog.funcs[i.f]? = some i.fn ∧ (i.fn.name == "runtime.NumGoroutine") = false := by
  intro i hi
  simp only [I, List.mem_cons, List.not_mem_nil, or_false] at hi
  subst hi
  exact ⟨by kernel_rfl, by kernel_rfl⟩
noncomputable abbrev L0 (fuel n : Nat) (s : St) (k : Kont) := lAt Try.prog X I fuel true 0 false 34 (bodyOf Try.f34) [1, 1, 1, 0, 1, 0] n s k
noncomputable abbrev k0  (fuel : Nat) : Kont := (kAt Try.prog X I fuel true 0 false 34 (bodyOf Try.f34) [1, 1, 1, 0, 1, 0] [] (endK Try.prog Try.f34))
noncomputable def t0 (p0 : List Int) (x0q1 : Int) (x0q7 : Int) (x0q8 : Int) (x0q9 : Int) (x0q10 : Int) : St := ⟨[(.imm (.ints .i64 p0)), .dead, (.ptr 1000000000 0 0), .dead, (.ptr 1000000001 0 0), (.imm (.int .i64 x0q1)), .dead, .dead, .dead, .dead, .dead, .dead, .dead, .dead, .dead, .dead, .dead, .dead, .dead, .dead, .dead, .dead, .dead, .dead, .dead, .dead, .dead, .dead, .dead, .dead, .dead, .dead, .dead, .dead, .dead, .dead, .dead, .dead, .dead, .dead, .dead, .dead, .dead, .dead, .dead, .dead, .dead, .dead, .dead, .dead], hOf [(1000000000, (.box [(.imm .nils), (.imm (.int .i64 0)), (.imm (.int .i64 0)), (.imm (.int .i64 0)), (.imm (.int .i64 0))])), (1000000001, (.box [(.imm (.ints .i64 p0)), (.imm (.int .i64 x0q7)), (.imm (.int .i64 x0q8)), (.imm (.int .i64 x0q9)), (.imm (.int .i64 x0q10))]))], [], []⟩
theorem e (fuel : Nat) (p0 : List Int) : runF Try.prog X I 0 fuel 34 Try.f34 [.d (.ints .i64 p0)] =
  (bif (decide ((((p0.length : Nat) : Int) : Int) > 3)) then
  some ([.agg [((.ints .i64 []), true), ((.int .i64 0), false), ((.int .i64 0), false), ((.int .i64 0), false), ((.int .i64 0), false)], .one ((.bool false), false)], [])
  else
  L0 fuel fuel (t0 p0 ((IntKind.wrap .i64 (((p0.length : Nat) : Int) - 1))) 0 0 0 1) (k0  fuel)) := by kernel_rfl
theorem s0 (fuel n0 : Nat) (p0 : List Int) (x0q1 : Int) (x0q7 : Int) (x0q8 : Int) (x0q9 : Int) (x0q10 : Int) : L0 fuel (n0 + 1) (t0 p0 x0q1 x0q7 x0q8 x0q9 x0q10) (k0  fuel) =
  (bif (decide ((x0q1 : Int) ≥ 0)) then
  (idx x0q1 p0.length).bind fun j21 =>
  (p0[j21]?).bind fun v22 =>
  (bif (decide ((v22 : Int) < 0)) then
  some ([.agg [((.ints .i64 []), true), ((.int .i64 0), false), ((.int .i64 0), false), ((.int .i64 0), false), ((.int .i64 0), false)], .one ((.bool false), false)], [])
  else
  (idx x0q1 p0.length).bind fun j23 =>
  (p0[j23]?).bind fun v24 =>
  (bif (decide ((v24 : Int) > 60)) then
  some ([.agg [((.ints .i64 []), true), ((.int .i64 0), false), ((.int .i64 0), false), ((.int .i64 0), false), ((.int .i64 0), false)], .one ((.bool false), false)], [])
  else
  (bif decide (x0q1 = ((0 : Nat) : Int)) then
  (idx x0q1 p0.length).bind fun j29 =>
  (p0[j29]?).bind fun v30 =>
  L0 fuel n0 (t0 p0 ((IntKind.wrap .i64 (x0q1 - 1))) x0q10 x0q8 x0q9 ((IntKind.wrap .i64 (x0q10 * v30)))) (k0  fuel)
  else
  (bif decide (x0q1 = ((1 : Nat) : Int)) then
  (idx x0q1 p0.length).bind fun j27 =>
  (p0[j27]?).bind fun v28 =>
  L0 fuel n0 (t0 p0 ((IntKind.wrap .i64 (x0q1 - 1))) x0q7 x0q10 x0q9 ((IntKind.wrap .i64 (x0q10 * v28)))) (k0  fuel)
  else
  (bif decide (x0q1 = ((2 : Nat) : Int)) then
  (idx x0q1 p0.length).bind fun j25 =>
  (p0[j25]?).bind fun v26 =>
  L0 fuel n0 (t0 p0 ((IntKind.wrap .i64 (x0q1 - 1))) x0q7 x0q8 x0q10 ((IntKind.wrap .i64 (x0q10 * v26)))) (k0  fuel)
  else
  none)))))
  else
  (bif (decide ((x0q10 : Int) > 60)) then
  some ([.agg [((.ints .i64 []), true), ((.int .i64 0), false), ((.int .i64 0), false), ((.int .i64 0), false), ((.int .i64 0), false)], .one ((.bool false), false)], [])
  else
  some ([.agg [((.ints .i64 p0), false), ((.int .i64 x0q7), false), ((.int .i64 x0q8), false), ((.int .i64 x0q9), false), ((.int .i64 x0q10), false)], .one ((.bool true), false)], []))) := by kernel_rfl
end impl_layoutOf
theorem impl_layoutOf.ok_of (hX : ∀ E ∈ impl_layoutOf.X, CallSpec Try.prog E) (h : ∀ (sh : List Int), (decide (sh.length < 9223372036854775808)) = true → ∃ fuel, runF Try.prog impl_layoutOf.X impl_layoutOf.I 0 fuel 34 Try.f34 [.d (.ints .i64 sh)] = some (bif validS sh then ([.agg [((.ints .i64 sh), false), ((.int .i64 (strd sh 0)), false), ((.int .i64 (strd sh 1)), false), ((.int .i64 (strd sh 2)), false), ((.int .i64 (volW sh)), false)], .one ((.bool true), false)], []) else ([.agg [((.ints .i64 nilI), true), ((.int .i64 0), false), ((.int .i64 0), false), ((.int .i64 0), false), ((.int .i64 0), false)], .one ((.bool false), false)], []))) : CallSpec Try.prog impl_layoutOf.E :=
  callSpec_of (d := 0) hX (by kernel_rfl) impl_layoutOf.I_ok (by kernel_rfl) (by kernel_rfl) (by kernel_rfl) (fun _ _ _ _ h => by dsimp only [impl_layoutOf.E] at h; cases h) (fun xs hp => by
    dsimp only [impl_layoutOf.E] at hp ⊢
    split at hp
    · exact h _ hp
    · cases hp)
theorem impl_layoutOf.bad (fuel n : Nat) (sh : List Int) (k : Nat) (v : Int) (s0 s1 s2 z : Int) (hk : k < sh.length) (hv : sh[k]? = some v) (h : ¬ (0 ≤ v ∧ v ≤ 60)) :
    impl_layoutOf.L0 fuel (n + 1) (impl_layoutOf.t0 sh (k : Int) s0 s1 s2 z) (impl_layoutOf.k0 fuel) = some ([.agg [(.ints .i64 [], true), (.int .i64 0, false), (.int .i64 0, false), (.int .i64 0, false), (.int .i64 0, false)], .one (.bool false, false)], []) := by
  rw [impl_layoutOf.s0, decide_eq_true (by omega), idx_nat hk]
  simp only [cond_true, Option.bind_some, hv]
  by_cases h0 : v < 0
  · rw [decide_eq_true h0]; rfl
  · rw [decide_eq_false h0, decide_eq_true (by omega)]; rfl
theorem impl_layoutOf.good (fuel n : Nat) (sh : List Int) (k : Nat) (v : Int) (s0 s1 s2 z : Int) (hk : k < sh.length) (hv : sh[k]? = some v) (h : 0 ≤ v ∧ v ≤ 60) (hk3 : k < 3) :
    impl_layoutOf.L0 fuel (n + 1) (impl_layoutOf.t0 sh (k : Int) s0 s1 s2 z) (impl_layoutOf.k0 fuel) =
      impl_layoutOf.L0 fuel n (impl_layoutOf.t0 sh ((k : Int) - 1) (bif k == 0 then z else s0) (bif k == 1 then z else s1) (bif k == 2 then z else s2) (IntKind.wrap .i64 (z * v))) (impl_layoutOf.k0 fuel) := by
  rw [impl_layoutOf.s0, decide_eq_true (by omega), idx_nat hk]
  simp only [cond_true, Option.bind_some, hv]
  rw [decide_eq_false (p := v < 0) (by omega), decide_eq_false (p := v > 60) (by omega), wS (x := (k : Int) - 1) (by omega) (by omega)]
  simp only [cond_false]
  match k, hk3 with
  | 0, _ => rfl
  | 1, _ => rfl
  | 2, _ => rfl
theorem impl_layoutOf.last (fuel n : Nat) (sh : List Int) (i : Int) (s0 s1 s2 z : Int) (hi : i < 0) :
    impl_layoutOf.L0 fuel (n + 1) (impl_layoutOf.t0 sh i s0 s1 s2 z) (impl_layoutOf.k0 fuel) = 
      bif decide (z ≤ 60) then some ([.agg [(.ints .i64 sh, false), (.int .i64 s0, false), (.int .i64 s1, false), (.int .i64 s2, false), (.int .i64 z, false)], .one (.bool true, false)], [])
      else some ([.agg [(.ints .i64 [], true), (.int .i64 0, false), (.int .i64 0, false), (.int .i64 0, false), (.int .i64 0, false)], .one (.bool false, false)], []) := by
  rw [impl_layoutOf.s0, decide_eq_false (by omega)]
  simp only [cond_false]
  by_cases hz : z ≤ 60
  · rw [decide_eq_true hz, decide_eq_false (by omega)]; rfl
  · rw [decide_eq_false hz, decide_eq_true (by omega)]; rfl
theorem rng_dec {v : Int} (h : 0 ≤ v ∧ v ≤ 60) : (decide (0 ≤ v) && decide (v ≤ 60)) = true := by simp [h.1, h.2]
theorem rng_bad {v : Int} (h : ¬ (0 ≤ v ∧ v ≤ 60)) : (decide (0 ≤ v) && decide (v ≤ 60)) = false := by
  cases hb : (decide (0 ≤ v) && decide (v ≤ 60)) with
  | false => rfl
  | true => simp at hb; exact absurd hb h
theorem validS1 (a : Int) : validS [a] = ((decide (0 ≤ a) && decide (a ≤ 60)) && decide (IntKind.wrap .i64 (1 * a) ≤ 60)) := by
  simp only [validS, allB_cons, allB_nil, Bool.and_true, volW, volFrom]; rfl
theorem validS2 (a b : Int) : validS [a, b] = ((decide (0 ≤ a) && decide (a ≤ 60)) && (decide (0 ≤ b) && decide (b ≤ 60)) && decide (IntKind.wrap .i64 (IntKind.wrap .i64 (1 * a) * b) ≤ 60)) := by
  simp only [validS, allB_cons, allB_nil, Bool.and_true, volW, volFrom]; rfl
theorem validS3 (a b c : Int) : validS [a, b, c] = ((decide (0 ≤ a) && decide (a ≤ 60)) && ((decide (0 ≤ b) && decide (b ≤ 60)) && (decide (0 ≤ c) && decide (c ≤ 60))) && decide (IntKind.wrap .i64 (IntKind.wrap .i64 (IntKind.wrap .i64 (1 * a) * b) * c) ≤ 60)) := by
  simp only [validS, allB_cons, allB_nil, Bool.and_true, volW, volFrom]; rfl
theorem impl_layoutOf.ok : CallSpec Try.prog impl_layoutOf.E := impl_layoutOf.ok_of (by simp [impl_layoutOf.X]) fun sh h => by
  refine ⟨5, ?_⟩
  rw [impl_layoutOf.e]
  match sh with
  | [] => rw [show decide (((([] : List Int).length : Nat) : Int) > 3) = false from rfl, cond_false, impl_layoutOf.last _ _ _ _ _ _ _ _ (by decide)]; rfl
  | [a] =>
    rw [show decide (((([a] : List Int).length : Nat) : Int) > 3) = false from rfl, cond_false, show IntKind.wrap .i64 ((([a] : List Int).length : Nat) - 1) = ((0 : Nat) : Int) from rfl, validS1]
    by_cases h1 : 0 ≤ a ∧ a ≤ 60
    · rw [impl_layoutOf.good _ _ _ _ a _ _ _ _ (by simp) rfl h1 (by omega), impl_layoutOf.last _ _ _ _ _ _ _ _ (by decide), rng_dec h1, Int.one_mul, wS (x := a) (by omega) (by omega)]
      simp only [strd, volW, volFrom, Int.one_mul, wS (x := a) (by omega) (by omega)]
      cases decide (a ≤ 60) <;> rfl
    · rw [impl_layoutOf.bad _ _ _ _ a _ _ _ _ (by simp) rfl h1, rng_bad h1]; rfl
  | [a, b] =>
    rw [show decide (((([a, b] : List Int).length : Nat) : Int) > 3) = false from rfl, cond_false, show IntKind.wrap .i64 ((([a, b] : List Int).length : Nat) - 1) = ((1 : Nat) : Int) from rfl, validS2]
    by_cases h1 : 0 ≤ b ∧ b ≤ 60
    case neg => rw [impl_layoutOf.bad _ _ _ _ b _ _ _ _ (by simp) rfl h1, rng_bad h1, Bool.and_false]; rfl
    rw [impl_layoutOf.good _ _ _ _ b _ _ _ _ (by simp) rfl h1 (by omega), show (((1 : Nat) : Int) - 1) = ((0 : Nat) : Int) from rfl]
    by_cases h2 : 0 ≤ a ∧ a ≤ 60
    case neg => rw [impl_layoutOf.bad _ _ _ _ a _ _ _ _ (by simp) rfl h2, rng_bad h2]; rfl
    have hm := mul60 h2.1 h2.2 h1.1 h1.2
    rw [impl_layoutOf.good _ _ _ _ a _ _ _ _ (by simp) rfl h2 (by omega), impl_layoutOf.last _ _ _ _ _ _ _ _ (by decide), rng_dec h1, rng_dec h2, Int.one_mul, Int.one_mul, wS (x := a) (by omega) (by omega), wS (x := b) (by omega) (by omega), Int.mul_comm b a, wS (x := a * b) (by omega) (by omega)]
    simp only [strd, volW, volFrom, Int.one_mul, wS (x := a) (by omega) (by omega), wS (x := b) (by omega) (by omega), wS (x := a * b) (by omega) (by omega), List.drop_succ_cons, List.drop_zero]
    cases decide (a * b ≤ 60) <;> rfl
  | [a, b, c] =>
    rw [show decide (((([a, b, c] : List Int).length : Nat) : Int) > 3) = false from rfl, cond_false, show IntKind.wrap .i64 ((([a, b, c] : List Int).length : Nat) - 1) = ((2 : Nat) : Int) from rfl, validS3]
    by_cases h0 : 0 ≤ c ∧ c ≤ 60
    case neg => rw [impl_layoutOf.bad _ _ _ _ c _ _ _ _ (by simp) rfl h0, rng_bad h0, Bool.and_false, Bool.and_false]; rfl
    rw [impl_layoutOf.good _ _ _ _ c _ _ _ _ (by simp) rfl h0 (by omega), show (((2 : Nat) : Int) - 1) = ((1 : Nat) : Int) from rfl]
    by_cases h1 : 0 ≤ b ∧ b ≤ 60
    case neg => rw [impl_layoutOf.bad _ _ _ _ b _ _ _ _ (by simp) rfl h1, rng_bad h1, Bool.false_and, Bool.and_false]; rfl
    rw [impl_layoutOf.good _ _ _ _ b _ _ _ _ (by simp) rfl h1 (by omega), show (((1 : Nat) : Int) - 1) = ((0 : Nat) : Int) from rfl]
    by_cases h2 : 0 ≤ a ∧ a ≤ 60
    case neg => rw [impl_layoutOf.bad _ _ _ _ a _ _ _ _ (by simp) rfl h2, rng_bad h2]; rfl
    have hm := mul60 h2.1 h2.2 h1.1 h1.2
    have hm1 := mul60 h1.1 h1.2 h0.1 h0.2
    have hm3 := mul3600 hm.1 hm.2 h0.1 h0.2
    have hc : b * c * a = a * b * c := by rw [Int.mul_comm (b * c) a, Int.mul_assoc]
    rw [impl_layoutOf.good _ _ _ _ a _ _ _ _ (by simp) rfl h2 (by omega), impl_layoutOf.last _ _ _ _ _ _ _ _ (by decide), rng_dec h0, rng_dec h1, rng_dec h2, Int.one_mul, Int.one_mul, wS (x := a) (by omega) (by omega), wS (x := c) (by omega) (by omega), Int.mul_comm c b, wS (x := a * b) (by omega) (by omega), wS (x := b * c) (by omega) (by omega), hc, wS (x := a * b * c) (by omega) (by omega)]
    simp only [strd, volW, volFrom, Int.one_mul, wS (x := a) (by omega) (by omega), wS (x := b) (by omega) (by omega), wS (x := c) (by omega) (by omega), wS (x := a * b) (by omega) (by omega), wS (x := b * c) (by omega) (by omega), wS (x := a * b * c) (by omega) (by omega), List.drop_succ_cons, List.drop_zero]
    cases decide (a * b * c ≤ 60) <;> rfl
  | a :: b :: c :: d :: t =>
    have h1 : ((((a :: b :: c :: d :: t).length : Nat) : Int) > 3) := by simp; omega
    have h2 : ¬ ((((a :: b :: c :: d :: t).length : Nat) : Int) ≤ 3) := by omega
    have h3 : validS (a :: b :: c :: d :: t) = false := by unfold validS; rw [decide_eq_false h2]; rfl
    rw [decide_eq_true h1, h3]
    rfl

namespace impl_isNumber
noncomputable def E : Entry := ⟨63, true, false, fun | [.d (.int .i64 v)] => true | _ => false, fun | [.d (.int .i64 v)] => ([.one ((.bool (numB v)), false)], []) | _ => ([], []), fun _ => [], false, fun _ => none⟩
end impl_isNumber
namespace impl_isNumber
noncomputable def X : List Entry := []
noncomputable def I : List Inl := [⟨63, Try.f63, ⟨[], [], [], [], [], []⟩⟩]
theorem I_ok : ∀ i ∈ I, Try.prog.funcs[i.f]? = some i.fn ∧ (i.fn.name == "runtime.NumGoroutine") = false := by
  intro i hi
  simp only [I, List.mem_cons, List.not_mem_nil, or_false] at hi
  subst hi
  exact ⟨by kernel_rfl, by kernel_rfl⟩
theorem e (fuel : Nat) (p0 : Int) : runF Try.prog X I 0 fuel 63 Try.f63 [.d (.int .i64 p0)] =
  (bif (decide (((-1000000) : Int) ≤ p0)) then
  some ([.one ((.bool (decide ((p0 : Int) ≤ 1000000))), false)], [])
  else
  some ([.one ((.bool false), false)], [])) := by kernel_rfl
end impl_isNumber
theorem impl_isNumber.ok_of (hX : ∀ E ∈ impl_isNumber.X, CallSpec Try.prog E) (h : ∀ (v : Int), (true) = true → ∃ fuel, runF Try.prog impl_isNumber.X impl_isNumber.I 0 fuel 63 Try.f63 [.d (.int .i64 v)] = some ([.one ((.bool (numB v)), false)], [])) : CallSpec Try.prog impl_isNumber.E :=
  callSpec_of (d := 0) hX (by kernel_rfl) impl_isNumber.I_ok (by kernel_rfl) (by kernel_rfl) (by kernel_rfl) (fun _ _ _ _ h => by dsimp only [impl_isNumber.E] at h; cases h) (fun xs hp => by
    dsimp only [impl_isNumber.E] at hp ⊢
    split at hp
    · exact h _ hp
    · cases hp)
theorem impl_isNumber.ok : CallSpec Try.prog impl_isNumber.E := impl_isNumber.ok_of (by simp [impl_isNumber.X]) fun v _ => ⟨0, by
  rw [impl_isNumber.e]
  unfold numB
  cases decide (-1000000 ≤ v) <;> rfl⟩

namespace impl_ValidArray
noncomputable def E : Entry := ⟨49, true, false, fun | [.d (.agg [(.ints .i64 sh), (.ints .i64 da)])] => decide (sh.length < 9223372036854775808) && decide (da.length < 9223372036854775808) | _ => false, fun | [.d (.agg [(.ints .i64 sh), (.ints .i64 da)])] => ([.one ((.bool (validA sh da)), false)], []) | _ => ([], []), fun _ => [], false, fun _ => none⟩
end impl_ValidArray
namespace impl_ValidArray
noncomputable def X : List Entry := [impl_layoutOf.E, impl_isNumber.E]
noncomputable def I : List Inl := [⟨49, Try.f49, ⟨[10], [(1000005, [0, 1, 2, 3, 4, 5, 6, 7, 8, 9, 10, 11, 12, 13, 14, 15, 16, 17, 18, 19, 20, 21, 22, 23, 27, 28, 29, 30, 31, 32, 33])], [], [], [], []⟩⟩]
theorem I_ok : ∀ i ∈ I, Try.prog.funcs[i.f]? = some i.fn ∧ (i.fn.name == "runtime.NumGoroutine") = false := by
  intro i hi
  simp only [I, List.mem_cons, List.not_mem_nil, or_false] at hi
  subst hi
  exact ⟨by kernel_rfl, by kernel_rfl⟩
noncomputable abbrev L0 (fuel n : Nat) (s : St) (k : Kont) := lAt Try.prog X I fuel true 0 false 49 (bodyOf Try.f49) [1, 1, 1, 0, 1, 0] n s k
noncomputable abbrev k0  (fuel : Nat) : Kont := (kAt Try.prog X I fuel true 0 false 49 (bodyOf Try.f49) [1, 1, 1, 0, 1, 0] [] (endK Try.prog Try.f49))
noncomputable def t0 (p0q1 : List Int) (x0q2 : Int) : St := ⟨[.dead, .dead, .dead, .dead, .dead, .dead, .dead, .dead, .dead, .dead, .dead, .dead, .dead, .dead, .dead, .dead, .dead, .dead, .dead, .dead, .dead, .dead, .dead, .dead, (.imm (.ints .i64 p0q1)), (.imm (.int .i64 ((p0q1.length : Nat) : Int))), (.imm (.int .i64 x0q2)), .dead, .dead, .dead, .dead, .dead, .dead, .dead], hOf [], [], []⟩
theorem e (fuel : Nat) (p0q0 : List Int) (p0q1 : List Int) : runF Try.prog X I 0 fuel 49 Try.f49 [.d (.agg [(.ints .i64 p0q0), (.ints .i64 p0q1)])] =
  (bif decide (p0q0.length < 9223372036854775808) then
  (bif validS p0q0 then
  (bif ((((p0q1.length : Nat) : Int) : Int) != (volW p0q0)) then
  some ([.one ((.bool false), false)], [])
  else
  L0 fuel fuel (t0 p0q1 0) (k0  fuel))
  else
  some ([.one ((.bool false), false)], []))
  else
  none) := by kernel_rfl
theorem s0 (fuel n0 : Nat) (p0q1 : List Int) (x0q2 : Int) : L0 fuel (n0 + 1) (t0 p0q1 x0q2) (k0  fuel) =
  (bif (decide ((x0q2 : Int) < ((p0q1.length : Nat) : Int))) then
  (idx x0q2 p0q1.length).bind fun j5 =>
  (p0q1[j5]?).bind fun v6 =>
  (bif (!(numB v6)) then
  some ([.one ((.bool false), false)], [])
  else
  L0 fuel n0 (t0 p0q1 ((IntKind.wrap .i64 (x0q2 + 1)))) (k0  fuel))
  else
  some ([.one ((.bool true), false)], [])) := by kernel_rfl
end impl_ValidArray
theorem impl_ValidArray.ok_of (hX : ∀ E ∈ impl_ValidArray.X, CallSpec Try.prog E) (h : ∀ (sh : List Int) (da : List Int), (decide (sh.length < 9223372036854775808) && decide (da.length < 9223372036854775808)) = true → ∃ fuel, runF Try.prog impl_ValidArray.X impl_ValidArray.I 0 fuel 49 Try.f49 [.d (.agg [(.ints .i64 sh), (.ints .i64 da)])] = some ([.one ((.bool (validA sh da)), false)], [])) : CallSpec Try.prog impl_ValidArray.E :=
  callSpec_of (d := 0) hX (by kernel_rfl) impl_ValidArray.I_ok (by kernel_rfl) (by kernel_rfl) (by kernel_rfl) (fun _ _ _ _ h => by dsimp only [impl_ValidArray.E] at h; cases h) (fun xs hp => by
    dsimp only [impl_ValidArray.E] at hp ⊢
    split at hp
    · exact h _ _ hp
    · cases hp)
theorem impl_ValidArray.loop (fuel : Nat) (xs : List Int) (hx : xs.length < 9223372036854775808) : ∀ (m n j : Nat), xs.length - j = m → m < n → j ≤ xs.length →
    impl_ValidArray.L0 fuel n (impl_ValidArray.t0 xs (j : Int)) (impl_ValidArray.k0 fuel) = some ([.one (.bool (allB (xs.drop j) (-1000000) 1000000), false)], []) := by
  intro m
  induction m with
  | zero =>
    intro n j h1 h2 h3
    obtain ⟨n, rfl⟩ : ∃ n', n = n' + 1 := ⟨n - 1, by omega⟩
    have hj : ¬ j < xs.length := by omega
    rw [impl_ValidArray.s0, dge hj, dropE hj]
    rfl
  | succ m ih =>
    intro n j h1 h2 h3
    obtain ⟨n, rfl⟩ : ∃ n', n = n' + 1 := ⟨n - 1, by omega⟩
    have hj : j < xs.length := by omega
    rw [impl_ValidArray.s0, dlt hj, idx_nat hj, w1 (by omega), dropS hj]
    simp only [cond_true, Option.bind_some, getS hj, allB_cons, numB_eq]
    rw [ih n (j + 1) (by omega) (by omega) (by omega)]
    cases decide (-1000000 ≤ xs[j]) && decide (xs[j] ≤ 1000000) <;> rfl

theorem impl_ValidArray.ok : CallSpec Try.prog impl_ValidArray.E := impl_ValidArray.ok_of (by simp [impl_ValidArray.X, impl_layoutOf.ok, impl_isNumber.ok]) fun sh da h => by
  simp only [Bool.and_eq_true, decide_eq_true_eq] at h
  refine ⟨da.length + 1, ?_⟩
  rw [impl_ValidArray.e, lt_of h.1]
  have := impl_ValidArray.loop (da.length + 1) da h.2 da.length (da.length + 1) 0 (by omega) (by omega) (by omega)
  simp only [cond_true, List.drop_zero] at this ⊢
  rw [show ((0 : Nat) : Int) = 0 from rfl] at this
  rw [this]
  unfold validA
  cases validS sh
  · rfl
  · cases hb : (((da.length : Nat) : Int) == volW sh) with
    | true => simp [bne, hb]
    | false => simp [bne, hb]

namespace impl_axisLength
noncomputable def E : Entry := ⟨31, true, false, fun | [.d (.agg [(.ints .i64 sh), (.ints .i64 da)]), .d (.int .i64 k)] => decide (sh.length < 9223372036854775808) && decide (da.length < 9223372036854775808) | _ => false, fun | [.d (.agg [(.ints .i64 sh), (.ints .i64 da)]), .d (.int .i64 k)] => ([.one ((.int .i64 (axL sh da k)), false), .one ((.bool (axB sh da k)), false)], []) | _ => ([], []), fun _ => [], false, fun _ => none⟩
end impl_axisLength
namespace impl_axisLength
noncomputable def X : List Entry := [impl_ValidArray.E]
noncomputable def I : List Inl := [⟨31, Try.f31, ⟨[], [], [], [], [], []⟩⟩]
theorem I_ok : ∀ i ∈ I, Try.prog.funcs[i.f]? = some i.fn ∧ (i.fn.name == "runtime.NumGoroutine") = false := by
  intro i hi
  simp only [I, List.mem_cons, List.not_mem_nil, or_false] at hi
  subst hi
  exact ⟨by kernel_rfl, by kernel_rfl⟩
theorem e (fuel : Nat) (p0q0 : List Int) (p0q1 : List Int) (p1 : Int) : runF Try.prog X I 0 fuel 31 Try.f31 [.d (.agg [(.ints .i64 p0q0), (.ints .i64 p0q1)]), .d (.int .i64 p1)] =
  (bif decide (p0q0.length < 9223372036854775808) && decide (p0q1.length < 9223372036854775808) then
  (bif (!(validA p0q0 p0q1)) then
  some ([.one ((.int .i64 0), false), .one ((.bool false), false)], [])
  else
  (bif (decide ((p1 : Int) < 0)) then
  some ([.one ((.int .i64 0), false), .one ((.bool false), false)], [])
  else
  (bif (decide ((p1 : Int) ≥ ((p0q0.length : Nat) : Int))) then
  some ([.one ((.int .i64 0), false), .one ((.bool false), false)], [])
  else
  (idx p1 p0q0.length).bind fun j1 =>
  (p0q0[j1]?).bind fun v2 =>
  some ([.one ((.int .i64 v2), false), .one ((.bool true), false)], []))))
  else
  none) := by kernel_rfl
end impl_axisLength
theorem impl_axisLength.ok_of (hX : ∀ E ∈ impl_axisLength.X, CallSpec Try.prog E) (h : ∀ (sh : List Int) (da : List Int) (k : Int), (decide (sh.length < 9223372036854775808) && decide (da.length < 9223372036854775808)) = true → ∃ fuel, runF Try.prog impl_axisLength.X impl_axisLength.I 0 fuel 31 Try.f31 [.d (.agg [(.ints .i64 sh), (.ints .i64 da)]), .d (.int .i64 k)] = some ([.one ((.int .i64 (axL sh da k)), false), .one ((.bool (axB sh da k)), false)], [])) : CallSpec Try.prog impl_axisLength.E :=
  callSpec_of (d := 0) hX (by kernel_rfl) impl_axisLength.I_ok (by kernel_rfl) (by kernel_rfl) (by kernel_rfl) (fun _ _ _ _ h => by dsimp only [impl_axisLength.E] at h; cases h) (fun xs hp => by
    dsimp only [impl_axisLength.E] at hp ⊢
    split at hp
    · exact h _ _ _ hp
    · cases hp)
theorem impl_axisLength.ok : CallSpec Try.prog impl_axisLength.E := impl_axisLength.ok_of (by simp [impl_axisLength.X, impl_ValidArray.ok]) fun sh da k h => ⟨0, by
  rw [impl_axisLength.e, h]
  unfold axL axB
  cases hv : validA sh da with
  | false => rfl
  | true =>
    by_cases h0 : k < 0
    · rw [decide_eq_true h0, show axOk sh k = false by simp [axOk]; omega]; rfl
    by_cases h1 : k ≥ ((sh.length : Nat) : Int)
    · rw [decide_eq_false h0, decide_eq_true h1, show axOk sh k = false by simp [axOk]; omega]; rfl
    obtain ⟨j, rfl⟩ : ∃ j : Nat, k = j := ⟨k.toNat, by omega⟩
    have hj : j < sh.length := by omega
    rw [decide_eq_false h0, decide_eq_false h1, show axOk sh j = true by simp [axOk]; omega, idx_nat hj]
    simp [hj]⟩

namespace impl_copyList
noncomputable def E : Entry := ⟨32, false, false, fun | [.d (.ints .i64 xs)] => szB xs | _ => false, fun | [.d (.ints .i64 xs)] => ([.one ((.ints .i64 xs), true)], []) | _ => ([], []), fun _ => [], true, fun _ => none⟩
end impl_copyList
namespace impl_copyList
noncomputable def X : List Entry := []
noncomputable def I : List Inl := [⟨32, Try.f32, ⟨[], [], [], [], [], []⟩⟩]
theorem I_ok : ∀ i ∈ I, Try.prog.funcs[i.f]? = some i.fn ∧ (i.fn.name == "runtime.NumGoroutine") = false := by
  intro i hi
  simp only [I, List.mem_cons, List.not_mem_nil, or_false] at hi
  subst hi
  exact ⟨by kernel_rfl, by kernel_rfl⟩
theorem e (fuel : Nat) (p0 : List Int) : runF Try.prog X I 0 fuel 32 Try.f32 [.d (.ints .i64 p0)] =
  (bif decide (0 ≤ (((p0.length : Nat) : Int) : Int)) && decide ((((p0.length : Nat) : Int) : Int) ≤ ((p0.length : Nat) : Int)) && decide ((((p0.length : Nat) : Int) : Int) ≤ 1152921504606846976) && decide (((8 : Nat) : Int) * ((p0.length : Nat) : Int) ≤ 281474976710656) then
  some ([.one ((.ints .i64 (copyL (List.replicate (((p0.length : Nat) : Int)).toNat (0 : Int)) 0 (List.replicate (((p0.length : Nat) : Int)).toNat (0 : Int)).length p0)), true)], [])
  else
  none) := by kernel_rfl
end impl_copyList
theorem impl_copyList.ok_of (hX : ∀ E ∈ impl_copyList.X, CallSpec Try.prog E) (h : ∀ (xs : List Int), (szB xs) = true → ∃ fuel, runF Try.prog impl_copyList.X impl_copyList.I 0 fuel 32 Try.f32 [.d (.ints .i64 xs)] = some ([.one ((.ints .i64 xs), true)], [])) : CallSpec Try.prog impl_copyList.E :=
  callSpec_of (d := 0) hX (by kernel_rfl) impl_copyList.I_ok (by kernel_rfl) (by kernel_rfl) (by kernel_rfl) (fun _ _ _ _ h => by dsimp only [impl_copyList.E] at h; cases h) (fun xs hp => by
    dsimp only [impl_copyList.E] at hp ⊢
    split at hp
    · exact h _ hp
    · cases hp)
theorem impl_copyList.ok : CallSpec Try.prog impl_copyList.E := impl_copyList.ok_of (by simp [impl_copyList.X]) fun xs h => ⟨0, by
  have hx := szB_le h
  rw [impl_copyList.e, mkOk (by omega) (by omega)]
  simp only [cond_true, Int.toNat_natCast, copyL_all]⟩

namespace slices_Equal_int_int
noncomputable def E : Entry := ⟨33, true, false, fun | [.d (.ints .i64 xs), .d (.ints .i64 ys)] => decide (xs.length < 9223372036854775808) && decide (ys.length < 9223372036854775808) | _ => false, fun | [.d (.ints .i64 xs), .d (.ints .i64 ys)] => ([.one ((.bool (decide (xs = ys))), false)], []) | _ => ([], []), fun _ => [], false, fun _ => none⟩
end slices_Equal_int_int
namespace slices_Equal_int_int
noncomputable def X : List Entry := []
noncomputable def I : List Inl := [⟨33, Try.f33, ⟨[], [(1000004, [2, 3, 4, 5, 6, 7, 8, 9, 10, 11, 14, 15, 16, 17, 18, 19, 20, 21, 22, 23, 24, 25])], [], [(6, [0, 1, 4, 5, 2, 3, 6, 7, 8])], [], []⟩⟩]
theorem I_ok : ∀ i ∈ I, Try.prog.funcs[i.f]? = some i.fn ∧ (i.fn.name == "runtime.NumGoroutine") = false := by
  intro i hi
  simp only [I, List.mem_cons, List.not_mem_nil, or_false] at hi
  subst hi
  exact ⟨by kernel_rfl, by kernel_rfl⟩
noncomputable abbrev L0 (fuel n : Nat) (s : St) (k : Kont) := lAt Try.prog X I fuel true 0 false 33 (bodyOf Try.f33) [1, 1, 0, 1, 0] n s k
noncomputable abbrev k0  (fuel : Nat) : Kont := (kAt Try.prog X I fuel true 0 false 33 (bodyOf Try.f33) [1, 1, 0, 1, 0] [] (endK Try.prog Try.f33))
noncomputable def t0 (p0 : List Int) (p1 : List Int) (x0q3 : Int) : St := ⟨[(.imm (.ints .i64 p0)), (.imm (.ints .i64 p1)), .dead, .dead, .dead, .dead, .dead, .dead, .dead, .dead, .dead, .dead, (.imm (.int .i64 ((p0.length : Nat) : Int))), (.imm (.int .i64 x0q3)), .dead, .dead, .dead, .dead, .dead, .dead, .dead, .dead, .dead, .dead, .dead, .dead], hOf [], [], []⟩
theorem e (fuel : Nat) (p0 : List Int) (p1 : List Int) : runF Try.prog X I 0 fuel 33 Try.f33 [.d (.ints .i64 p0), .d (.ints .i64 p1)] =
  (bif ((((p0.length : Nat) : Int) : Int) != ((p1.length : Nat) : Int)) then
  some ([.one ((.bool false), false)], [])
  else
  L0 fuel fuel (t0 p0 p1 0) (k0  fuel)) := by kernel_rfl
theorem s0 (fuel n0 : Nat) (p0 : List Int) (p1 : List Int) (x0q3 : Int) : L0 fuel (n0 + 1) (t0 p0 p1 x0q3) (k0  fuel) =
  (bif (decide ((x0q3 : Int) < ((p0.length : Nat) : Int))) then
  (idx x0q3 p0.length).bind fun j9 =>
  (p0[j9]?).bind fun v10 =>
  (idx x0q3 p1.length).bind fun j11 =>
  (p1[j11]?).bind fun v12 =>
  (bif ((v10 : Int) != v12) then
  some ([.one ((.bool false), false)], [])
  else
  L0 fuel n0 (t0 p0 p1 ((IntKind.wrap .i64 (x0q3 + 1)))) (k0  fuel))
  else
  some ([.one ((.bool true), false)], [])) := by kernel_rfl
end slices_Equal_int_int
theorem slices_Equal_int_int.ok_of (hX : ∀ E ∈ slices_Equal_int_int.X, CallSpec Try.prog E) (h : ∀ (xs : List Int) (ys : List Int), (decide (xs.length < 9223372036854775808) && decide (ys.length < 9223372036854775808)) = true → ∃ fuel, runF Try.prog slices_Equal_int_int.X slices_Equal_int_int.I 0 fuel 33 Try.f33 [.d (.ints .i64 xs), .d (.ints .i64 ys)] = some ([.one ((.bool (decide (xs = ys))), false)], [])) : CallSpec Try.prog slices_Equal_int_int.E :=
  callSpec_of (d := 0) hX (by kernel_rfl) slices_Equal_int_int.I_ok (by kernel_rfl) (by kernel_rfl) (by kernel_rfl) (fun _ _ _ _ h => by dsimp only [slices_Equal_int_int.E] at h; cases h) (fun xs hp => by
    dsimp only [slices_Equal_int_int.E] at hp ⊢
    split at hp
    · exact h _ _ hp
    · cases hp)
theorem slices_Equal_int_int.loop (fuel : Nat) (xs ys : List Int) (hl : xs.length = ys.length) (hx : xs.length < 9223372036854775808) : ∀ (m n j : Nat), xs.length - j = m → m < n → j ≤ xs.length →
    slices_Equal_int_int.L0 fuel n (slices_Equal_int_int.t0 xs ys (j : Int)) (slices_Equal_int_int.k0 fuel) = some ([.one (.bool (decide (xs.drop j = ys.drop j)), false)], []) := by
  intro m
  induction m with
  | zero =>
    intro n j h1 h2 h3
    obtain ⟨n, rfl⟩ : ∃ n', n = n' + 1 := ⟨n - 1, by omega⟩
    have hj : ¬ j < xs.length := by omega
    rw [slices_Equal_int_int.s0, dge hj, dropE hj, dropE (xs := ys) (by omega)]
    rfl
  | succ m ih =>
    intro n j h1 h2 h3
    obtain ⟨n, rfl⟩ : ∃ n', n = n' + 1 := ⟨n - 1, by omega⟩
    have hj : j < xs.length := by omega
    have hj2 : j < ys.length := by omega
    rw [slices_Equal_int_int.s0, dlt hj, idx_nat hj, idx_nat hj2, w1 (by omega), dropS hj, dropS hj2]
    simp only [cond_true, Option.bind_some, getS hj, getS hj2]
    rw [ih n (j + 1) (by omega) (by omega) (by omega)]
    by_cases hv : xs[j] = ys[j]
    · rw [hv]
      simp only [bne_self_eq_false, cond_false, List.cons.injEq, true_and]
    · have : (xs[j] != ys[j]) = true := by simp [hv]
      rw [this]
      simp only [cond_true, List.cons.injEq, hv, false_and, decide_false]

theorem slices_Equal_int_int.ok : CallSpec Try.prog slices_Equal_int_int.E := slices_Equal_int_int.ok_of (by simp [slices_Equal_int_int.X]) fun xs ys h => by
  simp only [Bool.and_eq_true, decide_eq_true_eq] at h
  refine ⟨xs.length + 1, ?_⟩
  rw [slices_Equal_int_int.e]
  by_cases hl : xs.length = ys.length
  · have := slices_Equal_int_int.loop (xs.length + 1) xs ys hl h.1 xs.length (xs.length + 1) 0 (by omega) (by omega) (by omega)
    simp only [List.drop_zero] at this
    simp only [hl, bne_self_eq_false, cond_false]
    rw [← hl]
    exact this
  · have hne : xs ≠ ys := fun e => hl (e ▸ rfl)
    have : (((xs.length : Nat) : Int) != ((ys.length : Nat) : Int)) = true := by simp; omega
    rw [this]
    simp [hne]

namespace impl_layoutOf_j
noncomputable def E : Entry := ⟨34, false, false, fun | [.d (.ints .i64 sh)] => decide (sh.length < 9223372036854775808) | _ => false, fun | [.d (.ints .i64 sh)] => ([.agg [(.junk, false), ((.int .i64 0), false), ((.int .i64 0), false), ((.int .i64 0), false), ((.int .i64 0), false)], .one ((.bool false), false)], []) | _ => ([], []), fun | [.d (.ints .i64 sh)] => [(validS sh, ([.agg [(.junk, false), ((.int .i64 (strd sh 0)), false), ((.int .i64 (strd sh 1)), false), ((.int .i64 (strd sh 2)), false), ((.int .i64 (volW sh)), false)], .one ((.bool true), false)], []))] | _ => [], true, fun _ => none⟩
end impl_layoutOf_j
theorem impl_layoutOf_j.ok : CallSpec Try.prog impl_layoutOf_j.E := CallSpec.le impl_layoutOf.ok rfl (fun _ _ _ _ h => by dsimp only [impl_layoutOf_j.E] at h; cases h) fun xs h => by
  dsimp only [impl_layoutOf_j.E] at h
  split at h
  case h_2 => simp at h
  rename_i sh
  refine ⟨h, ?_⟩
  simp only [Entry.r, impl_layoutOf_j.E, impl_layoutOf.E, pickR]
  cases hv : validS sh
  · refine ⟨.agg rfl (fun i h1 h2 => ?_) (.same .nil), rfl⟩
    match i, h1 with
    | 0, _ => exact .inr (.inr (.inl ⟨rfl, _, _, rfl⟩))
    | 1, _ | 2, _ | 3, _ | 4, _ => exact .inl rfl
  · refine ⟨.agg rfl (fun i h1 h2 => ?_) (.same .nil), rfl⟩
    match i, h1 with
    | 0, _ => exact .inr (.inl ⟨rfl, rfl, rfl, rfl⟩)
    | 1, _ | 2, _ | 3, _ | 4, _ => exact .inl rfl

namespace impl_JoinAxis
noncomputable def E : Entry := ⟨10, false, false, fun | [.d (.agg [(.ints .i64 sa), (.ints .i64 da)]), .d (.agg [(.ints .i64 sb), (.ints .i64 db)]), .d (.int .i64 k)] => decide (sa.length < 9223372036854775808) && decide (da.length < 9223372036854775808) && decide (sb.length < 9223372036854775808) && decide (db.length < 9223372036854775808) | _ => false, fun | [.d (.agg [(.ints .i64 sa), (.ints .i64 da)]), .d (.agg [(.ints .i64 sb), (.ints .i64 db)]), .d (.int .i64 k)] => ([.agg [((.ints .i64 (joS sa da sb db k)), true), ((.ints .i64 (joD sa da sb db k)), true)], .one ((.bool (joB sa da sb db k)), false)], []) | _ => ([], []), fun _ => [], true, fun _ => none⟩
end impl_JoinAxis
namespace impl_JoinAxis
noncomputable def X : List Entry := [impl_axisLength.E, impl_copyList.E, slices_Equal_int_int.E, impl_layoutOf_j.E]
noncomputable def I : List Inl := [⟨10, Try.f10, ⟨[40, 60], [(1000016, [0, 1, 2, 5, 7, 8, 9, 10, 11, 19, 20, 21, 22, 23, 24, 25, 26, 27, 28, 29, 30, 31, 32, 33, 34, 35, 36, 37, 38, 39, 40, 41, 42, 43, 44, 45, 46, 47, 48, 49, 50, 51, 52, 53, 54, 55, 56, 57, 58, 59, 60, 61, 62, 63, 64, 65, 66, 67, 68, 69, 70, 71, 72, 73, 74, 75, 76, 77, 78, 79, 80, 81, 82, 83, 84, 85, 86, 87, 88, 89, 90, 91, 92, 93, 94, 95, 96, 97, 98, 99, 100, 101, 102, 103, 104, 105, 106, 107, 108, 109, 110, 111, 112, 113, 114, 115, 116, 117, 118, 119, 120, 121])], [], [(13, [0, 1, 2, 6, 7, 8, 3, 4, 5, 12, 9, 10, 11, 13]), (18, [0, 1, 2, 4, 6, 7, 8, 9, 10, 11, 12, 3, 5, 13, 14, 15, 16]), (19, [0, 1, 2, 4, 6, 7, 8, 9, 10, 11, 12, 3, 5, 13, 14, 15, 16])], [], []⟩⟩]
theorem I_ok : ∀ i ∈ I, Try.prog.funcs[i.f]? = some i.fn ∧ (i.fn.name == "runtime.NumGoroutine") = false := by
  intro i hi
  simp only [I, List.mem_cons, List.not_mem_nil, or_false] at hi
  subst hi
  exact ⟨by kernel_rfl, by kernel_rfl⟩
noncomputable abbrev L0 (fuel n : Nat) (s : St) (k : Kont) := lAt Try.prog X I fuel true 0 false 10 (bodyOf Try.f10) [1, 1, 1, 1, 1, 1, 1, 1, 1, 1, 1, 1, 0, 1, 0] n s k
noncomputable abbrev k0  (fuel : Nat) : Kont := (kAt Try.prog X I fuel true 0 false 10 (bodyOf Try.f10) [1, 1, 1, 1, 1, 1, 1, 1, 1, 1, 1, 1, 0, 1, 0] [] (endK Try.prog Try.f10))
noncomputable def t0 (p0q0 : List Int) (p0q1 : List Int) (p1q0 : List Int) (p1q1 : List Int) (j1 : Nat) (p2 : Int) (j4 : Nat) (v3 : Int) (x0q0 : Int) (x0q1 : Int) (x0q2 : Int) (x0q3 : Int) (x0q13 : List Int) : St := ⟨[.dead, .dead, .dead, (.ptr 1000000000 0 0), (.ptr 1000000001 0 0), .dead, (.ptr 1000000002 0 0), .dead, .dead, .dead, .dead, .dead, (.all 1000000003 1), (.ptr 1000000004 0 0), (.imm (.int .i64 x0q0)), (.imm (.int .i64 x0q1)), (.all 1000000005 1), (.imm (.int .i64 x0q2)), (.imm (.int .i64 x0q3)), .dead, .dead, .dead, .dead, .dead, .dead, .dead, .dead, .dead, .dead, .dead, .dead, .dead, .dead, .dead, .dead, .dead, .dead, .dead, .dead, .dead, .dead, .dead, .dead, .dead, .dead, .dead, .dead, .dead, .dead, .dead, .dead, .dead, .dead, .dead, .dead, .dead, .dead, .dead, .dead, .dead, .dead, .dead, .dead, .dead, .dead, .dead, .dead, .dead, .dead, .dead, .dead, .dead, .dead, .dead, .dead, .dead, .dead, .dead, .dead, .dead, .dead, .dead, .dead, .dead, .dead, .dead, .dead, .dead, .dead, .dead, .dead, .dead, .dead, .dead, .dead, .dead, .dead, .dead, .dead, .dead, .dead, .dead, .dead, .dead, .dead, .dead, .dead, .dead, .dead, .dead, .dead, .dead, .dead, .dead, .dead, .dead, .dead, .dead, .dead, .dead, .dead, .dead], hOf [(1000000000, (.box [(.imm (.ints .i64 p0q0)), (.imm (.ints .i64 p0q1))])), (1000000001, (.box [(.imm (.ints .i64 p1q0)), (.imm (.ints .i64 p1q1))])), (1000000002, (.box [(.imm .nils), (.imm .nils)])), (1000000003, (.ints .i64 ((p0q0.set j1 (axL p1q0 p1q1 p2)).set j4 (IntKind.wrap .i64 (v3 + (axL p0q0 p0q1 p2)))))), (1000000004, (.box [(.imm .junk), (.imm (.int .i64 (strd (((p0q0.set j1 (axL p1q0 p1q1 p2)).set j4 (IntKind.wrap .i64 (v3 + (axL p0q0 p0q1 p2))))) 0))), (.imm (.int .i64 (strd (((p0q0.set j1 (axL p1q0 p1q1 p2)).set j4 (IntKind.wrap .i64 (v3 + (axL p0q0 p0q1 p2))))) 1))), (.imm (.int .i64 (strd (((p0q0.set j1 (axL p1q0 p1q1 p2)).set j4 (IntKind.wrap .i64 (v3 + (axL p0q0 p0q1 p2))))) 2))), (.imm (.int .i64 (volW (((p0q0.set j1 (axL p1q0 p1q1 p2)).set j4 (IntKind.wrap .i64 (v3 + (axL p0q0 p0q1 p2))))))))])), (1000000005, (.ints .i64 x0q13))], [], []⟩
theorem e (fuel : Nat) (p0q0 : List Int) (p0q1 : List Int) (p1q0 : List Int) (p1q1 : List Int) (p2 : Int) : runF Try.prog X I 0 fuel 10 Try.f10 [.d (.agg [(.ints .i64 p0q0), (.ints .i64 p0q1)]), .d (.agg [(.ints .i64 p1q0), (.ints .i64 p1q1)]), .d (.int .i64 p2)] =
  (bif decide (p0q0.length < 9223372036854775808) && decide (p0q1.length < 9223372036854775808) then
  (bif decide (p1q0.length < 9223372036854775808) && decide (p1q1.length < 9223372036854775808) then
  (bif (!(axB p0q0 p0q1 p2)) then
  some ([.agg [((.ints .i64 []), true), ((.ints .i64 []), true)], .one ((.bool false), false)], [])
  else
  (bif (!(axB p1q0 p1q1 p2)) then
  some ([.agg [((.ints .i64 []), true), ((.ints .i64 []), true)], .one ((.bool false), false)], [])
  else
  (bif szB p0q0 then
  (idx p2 p0q0.length).bind fun j1 =>
  (bif decide (j1 < p0q0.length) then
  (bif decide (((p0q0.set j1 (axL p1q0 p1q1 p2))).length < 9223372036854775808) && decide (p1q0.length < 9223372036854775808) then
  (bif (!(decide (((p0q0.set j1 (axL p1q0 p1q1 p2))) = p1q0))) then
  some ([.agg [((.ints .i64 []), true), ((.ints .i64 []), true)], .one ((.bool false), false)], [])
  else
  (idx p2 (p0q0.set j1 (axL p1q0 p1q1 p2)).length).bind fun j2 =>
  ((p0q0.set j1 (axL p1q0 p1q1 p2))[j2]?).bind fun v3 =>
  (idx p2 (p0q0.set j1 (axL p1q0 p1q1 p2)).length).bind fun j4 =>
  (bif decide (j4 < (p0q0.set j1 (axL p1q0 p1q1 p2)).length) then
  (bif decide ((((p0q0.set j1 (axL p1q0 p1q1 p2)).set j4 (IntKind.wrap .i64 (v3 + (axL p0q0 p0q1 p2))))).length < 9223372036854775808) then
  (bif validS (((p0q0.set j1 (axL p1q0 p1q1 p2)).set j4 (IntKind.wrap .i64 (v3 + (axL p0q0 p0q1 p2))))) then
  (bif decide (p2 = ((0 : Nat) : Int)) then
  (bif decide (p2 = ((0 : Nat) : Int)) then
  (bif decide (0 ≤ ((volW (((p0q0.set j1 (axL p1q0 p1q1 p2)).set j4 (IntKind.wrap .i64 (v3 + (axL p0q0 p0q1 p2)))))) : Int)) && decide (((volW (((p0q0.set j1 (axL p1q0 p1q1 p2)).set j4 (IntKind.wrap .i64 (v3 + (axL p0q0 p0q1 p2)))))) : Int) ≤ (volW (((p0q0.set j1 (axL p1q0 p1q1 p2)).set j4 (IntKind.wrap .i64 (v3 + (axL p0q0 p0q1 p2))))))) && decide (((volW (((p0q0.set j1 (axL p1q0 p1q1 p2)).set j4 (IntKind.wrap .i64 (v3 + (axL p0q0 p0q1 p2)))))) : Int) ≤ 1152921504606846976) && decide (((8 : Nat) : Int) * (volW (((p0q0.set j1 (axL p1q0 p1q1 p2)).set j4 (IntKind.wrap .i64 (v3 + (axL p0q0 p0q1 p2)))))) ≤ 281474976710656) then
  L0 fuel fuel (t0 p0q0 p0q1 p1q0 p1q1 j1 p2 j4 v3 ((IntKind.wrap .i64 ((axL p0q0 p0q1 p2) * (strd (((p0q0.set j1 (axL p1q0 p1q1 p2)).set j4 (IntKind.wrap .i64 (v3 + (axL p0q0 p0q1 p2))))) 0)))) ((IntKind.wrap .i64 ((axL p1q0 p1q1 p2) * (strd (((p0q0.set j1 (axL p1q0 p1q1 p2)).set j4 (IntKind.wrap .i64 (v3 + (axL p0q0 p0q1 p2))))) 0)))) 0 0 ((List.replicate ((volW (((p0q0.set j1 (axL p1q0 p1q1 p2)).set j4 (IntKind.wrap .i64 (v3 + (axL p0q0 p0q1 p2))))))).toNat (0 : Int)))) (k0  fuel)
  else
  none)
  else
  (bif decide (p2 = ((1 : Nat) : Int)) then
  (bif decide (0 ≤ ((volW (((p0q0.set j1 (axL p1q0 p1q1 p2)).set j4 (IntKind.wrap .i64 (v3 + (axL p0q0 p0q1 p2)))))) : Int)) && decide (((volW (((p0q0.set j1 (axL p1q0 p1q1 p2)).set j4 (IntKind.wrap .i64 (v3 + (axL p0q0 p0q1 p2)))))) : Int) ≤ (volW (((p0q0.set j1 (axL p1q0 p1q1 p2)).set j4 (IntKind.wrap .i64 (v3 + (axL p0q0 p0q1 p2))))))) && decide (((volW (((p0q0.set j1 (axL p1q0 p1q1 p2)).set j4 (IntKind.wrap .i64 (v3 + (axL p0q0 p0q1 p2)))))) : Int) ≤ 1152921504606846976) && decide (((8 : Nat) : Int) * (volW (((p0q0.set j1 (axL p1q0 p1q1 p2)).set j4 (IntKind.wrap .i64 (v3 + (axL p0q0 p0q1 p2)))))) ≤ 281474976710656) then
  L0 fuel fuel (t0 p0q0 p0q1 p1q0 p1q1 j1 p2 j4 v3 ((IntKind.wrap .i64 ((axL p0q0 p0q1 p2) * (strd (((p0q0.set j1 (axL p1q0 p1q1 p2)).set j4 (IntKind.wrap .i64 (v3 + (axL p0q0 p0q1 p2))))) 0)))) ((IntKind.wrap .i64 ((axL p1q0 p1q1 p2) * (strd (((p0q0.set j1 (axL p1q0 p1q1 p2)).set j4 (IntKind.wrap .i64 (v3 + (axL p0q0 p0q1 p2))))) 1)))) 0 0 ((List.replicate ((volW (((p0q0.set j1 (axL p1q0 p1q1 p2)).set j4 (IntKind.wrap .i64 (v3 + (axL p0q0 p0q1 p2))))))).toNat (0 : Int)))) (k0  fuel)
  else
  none)
  else
  (bif decide (p2 = ((2 : Nat) : Int)) then
  (bif decide (0 ≤ ((volW (((p0q0.set j1 (axL p1q0 p1q1 p2)).set j4 (IntKind.wrap .i64 (v3 + (axL p0q0 p0q1 p2)))))) : Int)) && decide (((volW (((p0q0.set j1 (axL p1q0 p1q1 p2)).set j4 (IntKind.wrap .i64 (v3 + (axL p0q0 p0q1 p2)))))) : Int) ≤ (volW (((p0q0.set j1 (axL p1q0 p1q1 p2)).set j4 (IntKind.wrap .i64 (v3 + (axL p0q0 p0q1 p2))))))) && decide (((volW (((p0q0.set j1 (axL p1q0 p1q1 p2)).set j4 (IntKind.wrap .i64 (v3 + (axL p0q0 p0q1 p2)))))) : Int) ≤ 1152921504606846976) && decide (((8 : Nat) : Int) * (volW (((p0q0.set j1 (axL p1q0 p1q1 p2)).set j4 (IntKind.wrap .i64 (v3 + (axL p0q0 p0q1 p2)))))) ≤ 281474976710656) then
  L0 fuel fuel (t0 p0q0 p0q1 p1q0 p1q1 j1 p2 j4 v3 ((IntKind.wrap .i64 ((axL p0q0 p0q1 p2) * (strd (((p0q0.set j1 (axL p1q0 p1q1 p2)).set j4 (IntKind.wrap .i64 (v3 + (axL p0q0 p0q1 p2))))) 0)))) ((IntKind.wrap .i64 ((axL p1q0 p1q1 p2) * (strd (((p0q0.set j1 (axL p1q0 p1q1 p2)).set j4 (IntKind.wrap .i64 (v3 + (axL p0q0 p0q1 p2))))) 2)))) 0 0 ((List.replicate ((volW (((p0q0.set j1 (axL p1q0 p1q1 p2)).set j4 (IntKind.wrap .i64 (v3 + (axL p0q0 p0q1 p2))))))).toNat (0 : Int)))) (k0  fuel)
  else
  none)
  else
  none)))
  else
  (bif decide (p2 = ((1 : Nat) : Int)) then
  (bif decide (p2 = ((0 : Nat) : Int)) then
  (bif decide (0 ≤ ((volW (((p0q0.set j1 (axL p1q0 p1q1 p2)).set j4 (IntKind.wrap .i64 (v3 + (axL p0q0 p0q1 p2)))))) : Int)) && decide (((volW (((p0q0.set j1 (axL p1q0 p1q1 p2)).set j4 (IntKind.wrap .i64 (v3 + (axL p0q0 p0q1 p2)))))) : Int) ≤ (volW (((p0q0.set j1 (axL p1q0 p1q1 p2)).set j4 (IntKind.wrap .i64 (v3 + (axL p0q0 p0q1 p2))))))) && decide (((volW (((p0q0.set j1 (axL p1q0 p1q1 p2)).set j4 (IntKind.wrap .i64 (v3 + (axL p0q0 p0q1 p2)))))) : Int) ≤ 1152921504606846976) && decide (((8 : Nat) : Int) * (volW (((p0q0.set j1 (axL p1q0 p1q1 p2)).set j4 (IntKind.wrap .i64 (v3 + (axL p0q0 p0q1 p2)))))) ≤ 281474976710656) then
  L0 fuel fuel (t0 p0q0 p0q1 p1q0 p1q1 j1 p2 j4 v3 ((IntKind.wrap .i64 ((axL p0q0 p0q1 p2) * (strd (((p0q0.set j1 (axL p1q0 p1q1 p2)).set j4 (IntKind.wrap .i64 (v3 + (axL p0q0 p0q1 p2))))) 1)))) ((IntKind.wrap .i64 ((axL p1q0 p1q1 p2) * (strd (((p0q0.set j1 (axL p1q0 p1q1 p2)).set j4 (IntKind.wrap .i64 (v3 + (axL p0q0 p0q1 p2))))) 0)))) 0 0 ((List.replicate ((volW (((p0q0.set j1 (axL p1q0 p1q1 p2)).set j4 (IntKind.wrap .i64 (v3 + (axL p0q0 p0q1 p2))))))).toNat (0 : Int)))) (k0  fuel)
  else
  none)
  else
  (bif decide (p2 = ((1 : Nat) : Int)) then
  (bif decide (0 ≤ ((volW (((p0q0.set j1 (axL p1q0 p1q1 p2)).set j4 (IntKind.wrap .i64 (v3 + (axL p0q0 p0q1 p2)))))) : Int)) && decide (((volW (((p0q0.set j1 (axL p1q0 p1q1 p2)).set j4 (IntKind.wrap .i64 (v3 + (axL p0q0 p0q1 p2)))))) : Int) ≤ (volW (((p0q0.set j1 (axL p1q0 p1q1 p2)).set j4 (IntKind.wrap .i64 (v3 + (axL p0q0 p0q1 p2))))))) && decide (((volW (((p0q0.set j1 (axL p1q0 p1q1 p2)).set j4 (IntKind.wrap .i64 (v3 + (axL p0q0 p0q1 p2)))))) : Int) ≤ 1152921504606846976) && decide (((8 : Nat) : Int) * (volW (((p0q0.set j1 (axL p1q0 p1q1 p2)).set j4 (IntKind.wrap .i64 (v3 + (axL p0q0 p0q1 p2)))))) ≤ 281474976710656) then
  L0 fuel fuel (t0 p0q0 p0q1 p1q0 p1q1 j1 p2 j4 v3 ((IntKind.wrap .i64 ((axL p0q0 p0q1 p2) * (strd (((p0q0.set j1 (axL p1q0 p1q1 p2)).set j4 (IntKind.wrap .i64 (v3 + (axL p0q0 p0q1 p2))))) 1)))) ((IntKind.wrap .i64 ((axL p1q0 p1q1 p2) * (strd (((p0q0.set j1 (axL p1q0 p1q1 p2)).set j4 (IntKind.wrap .i64 (v3 + (axL p0q0 p0q1 p2))))) 1)))) 0 0 ((List.replicate ((volW (((p0q0.set j1 (axL p1q0 p1q1 p2)).set j4 (IntKind.wrap .i64 (v3 + (axL p0q0 p0q1 p2))))))).toNat (0 : Int)))) (k0  fuel)
  else
  none)
  else
  (bif decide (p2 = ((2 : Nat) : Int)) then
  (bif decide (0 ≤ ((volW (((p0q0.set j1 (axL p1q0 p1q1 p2)).set j4 (IntKind.wrap .i64 (v3 + (axL p0q0 p0q1 p2)))))) : Int)) && decide (((volW (((p0q0.set j1 (axL p1q0 p1q1 p2)).set j4 (IntKind.wrap .i64 (v3 + (axL p0q0 p0q1 p2)))))) : Int) ≤ (volW (((p0q0.set j1 (axL p1q0 p1q1 p2)).set j4 (IntKind.wrap .i64 (v3 + (axL p0q0 p0q1 p2))))))) && decide (((volW (((p0q0.set j1 (axL p1q0 p1q1 p2)).set j4 (IntKind.wrap .i64 (v3 + (axL p0q0 p0q1 p2)))))) : Int) ≤ 1152921504606846976) && decide (((8 : Nat) : Int) * (volW (((p0q0.set j1 (axL p1q0 p1q1 p2)).set j4 (IntKind.wrap .i64 (v3 + (axL p0q0 p0q1 p2)))))) ≤ 281474976710656) then
  L0 fuel fuel (t0 p0q0 p0q1 p1q0 p1q1 j1 p2 j4 v3 ((IntKind.wrap .i64 ((axL p0q0 p0q1 p2) * (strd (((p0q0.set j1 (axL p1q0 p1q1 p2)).set j4 (IntKind.wrap .i64 (v3 + (axL p0q0 p0q1 p2))))) 1)))) ((IntKind.wrap .i64 ((axL p1q0 p1q1 p2) * (strd (((p0q0.set j1 (axL p1q0 p1q1 p2)).set j4 (IntKind.wrap .i64 (v3 + (axL p0q0 p0q1 p2))))) 2)))) 0 0 ((List.replicate ((volW (((p0q0.set j1 (axL p1q0 p1q1 p2)).set j4 (IntKind.wrap .i64 (v3 + (axL p0q0 p0q1 p2))))))).toNat (0 : Int)))) (k0  fuel)
  else
  none)
  else
  none)))
  else
  (bif decide (p2 = ((2 : Nat) : Int)) then
  (bif decide (p2 = ((0 : Nat) : Int)) then
  (bif decide (0 ≤ ((volW (((p0q0.set j1 (axL p1q0 p1q1 p2)).set j4 (IntKind.wrap .i64 (v3 + (axL p0q0 p0q1 p2)))))) : Int)) && decide (((volW (((p0q0.set j1 (axL p1q0 p1q1 p2)).set j4 (IntKind.wrap .i64 (v3 + (axL p0q0 p0q1 p2)))))) : Int) ≤ (volW (((p0q0.set j1 (axL p1q0 p1q1 p2)).set j4 (IntKind.wrap .i64 (v3 + (axL p0q0 p0q1 p2))))))) && decide (((volW (((p0q0.set j1 (axL p1q0 p1q1 p2)).set j4 (IntKind.wrap .i64 (v3 + (axL p0q0 p0q1 p2)))))) : Int) ≤ 1152921504606846976) && decide (((8 : Nat) : Int) * (volW (((p0q0.set j1 (axL p1q0 p1q1 p2)).set j4 (IntKind.wrap .i64 (v3 + (axL p0q0 p0q1 p2)))))) ≤ 281474976710656) then
  L0 fuel fuel (t0 p0q0 p0q1 p1q0 p1q1 j1 p2 j4 v3 ((IntKind.wrap .i64 ((axL p0q0 p0q1 p2) * (strd (((p0q0.set j1 (axL p1q0 p1q1 p2)).set j4 (IntKind.wrap .i64 (v3 + (axL p0q0 p0q1 p2))))) 2)))) ((IntKind.wrap .i64 ((axL p1q0 p1q1 p2) * (strd (((p0q0.set j1 (axL p1q0 p1q1 p2)).set j4 (IntKind.wrap .i64 (v3 + (axL p0q0 p0q1 p2))))) 0)))) 0 0 ((List.replicate ((volW (((p0q0.set j1 (axL p1q0 p1q1 p2)).set j4 (IntKind.wrap .i64 (v3 + (axL p0q0 p0q1 p2))))))).toNat (0 : Int)))) (k0  fuel)
  else
  none)
  else
  (bif decide (p2 = ((1 : Nat) : Int)) then
  (bif decide (0 ≤ ((volW (((p0q0.set j1 (axL p1q0 p1q1 p2)).set j4 (IntKind.wrap .i64 (v3 + (axL p0q0 p0q1 p2)))))) : Int)) && decide (((volW (((p0q0.set j1 (axL p1q0 p1q1 p2)).set j4 (IntKind.wrap .i64 (v3 + (axL p0q0 p0q1 p2)))))) : Int) ≤ (volW (((p0q0.set j1 (axL p1q0 p1q1 p2)).set j4 (IntKind.wrap .i64 (v3 + (axL p0q0 p0q1 p2))))))) && decide (((volW (((p0q0.set j1 (axL p1q0 p1q1 p2)).set j4 (IntKind.wrap .i64 (v3 + (axL p0q0 p0q1 p2)))))) : Int) ≤ 1152921504606846976) && decide (((8 : Nat) : Int) * (volW (((p0q0.set j1 (axL p1q0 p1q1 p2)).set j4 (IntKind.wrap .i64 (v3 + (axL p0q0 p0q1 p2)))))) ≤ 281474976710656) then
  L0 fuel fuel (t0 p0q0 p0q1 p1q0 p1q1 j1 p2 j4 v3 ((IntKind.wrap .i64 ((axL p0q0 p0q1 p2) * (strd (((p0q0.set j1 (axL p1q0 p1q1 p2)).set j4 (IntKind.wrap .i64 (v3 + (axL p0q0 p0q1 p2))))) 2)))) ((IntKind.wrap .i64 ((axL p1q0 p1q1 p2) * (strd (((p0q0.set j1 (axL p1q0 p1q1 p2)).set j4 (IntKind.wrap .i64 (v3 + (axL p0q0 p0q1 p2))))) 1)))) 0 0 ((List.replicate ((volW (((p0q0.set j1 (axL p1q0 p1q1 p2)).set j4 (IntKind.wrap .i64 (v3 + (axL p0q0 p0q1 p2))))))).toNat (0 : Int)))) (k0  fuel)
  else
  none)
  else
  (bif decide (p2 = ((2 : Nat) : Int)) then
  (bif decide (0 ≤ ((volW (((p0q0.set j1 (axL p1q0 p1q1 p2)).set j4 (IntKind.wrap .i64 (v3 + (axL p0q0 p0q1 p2)))))) : Int)) && decide (((volW (((p0q0.set j1 (axL p1q0 p1q1 p2)).set j4 (IntKind.wrap .i64 (v3 + (axL p0q0 p0q1 p2)))))) : Int) ≤ (volW (((p0q0.set j1 (axL p1q0 p1q1 p2)).set j4 (IntKind.wrap .i64 (v3 + (axL p0q0 p0q1 p2))))))) && decide (((volW (((p0q0.set j1 (axL p1q0 p1q1 p2)).set j4 (IntKind.wrap .i64 (v3 + (axL p0q0 p0q1 p2)))))) : Int) ≤ 1152921504606846976) && decide (((8 : Nat) : Int) * (volW (((p0q0.set j1 (axL p1q0 p1q1 p2)).set j4 (IntKind.wrap .i64 (v3 + (axL p0q0 p0q1 p2)))))) ≤ 281474976710656) then
  L0 fuel fuel (t0 p0q0 p0q1 p1q0 p1q1 j1 p2 j4 v3 ((IntKind.wrap .i64 ((axL p0q0 p0q1 p2) * (strd (((p0q0.set j1 (axL p1q0 p1q1 p2)).set j4 (IntKind.wrap .i64 (v3 + (axL p0q0 p0q1 p2))))) 2)))) ((IntKind.wrap .i64 ((axL p1q0 p1q1 p2) * (strd (((p0q0.set j1 (axL p1q0 p1q1 p2)).set j4 (IntKind.wrap .i64 (v3 + (axL p0q0 p0q1 p2))))) 2)))) 0 0 ((List.replicate ((volW (((p0q0.set j1 (axL p1q0 p1q1 p2)).set j4 (IntKind.wrap .i64 (v3 + (axL p0q0 p0q1 p2))))))).toNat (0 : Int)))) (k0  fuel)
  else
  none)
  else
  none)))
  else
  none)))
  else
  some ([.agg [((.ints .i64 []), true), ((.ints .i64 []), true)], .one ((.bool false), false)], []))
  else
  none)
  else
  none))
  else
  none)
  else
  none)
  else
  none)))
  else
  none)
  else
  none) := by kernel_rfl
theorem s0 (fuel n0 : Nat) (p0q0 : List Int) (p0q1 : List Int) (p1q0 : List Int) (p1q1 : List Int) (j1 : Nat) (p2 : Int) (j4 : Nat) (v3 : Int) (x0q0 : Int) (x0q1 : Int) (x0q2 : Int) (x0q3 : Int) (x0q13 : List Int) : L0 fuel (n0 + 1) (t0 p0q0 p0q1 p1q0 p1q1 j1 p2 j4 v3 x0q0 x0q1 x0q2 x0q3 x0q13) (k0  fuel) =
  (bif (decide ((x0q3 : Int) < (volW (((p0q0.set j1 (axL p1q0 p1q1 p2)).set j4 (IntKind.wrap .i64 (v3 + (axL p0q0 p0q1 p2)))))))) then
  (cutEnds x0q13.length (some (.imm (.int .i64 x0q3))) (none)).bind fun cq9 =>
  (cutEnds p0q1.length (some (.imm (.int .i64 (IntKind.wrap .i64 (x0q2 * x0q0))))) (some (.imm (.int .i64 (IntKind.wrap .i64 ((IntKind.wrap .i64 (x0q2 + 1)) * x0q0)))))).bind fun cq10 =>
  (bif decide (cq9.1 + (cq9.2 - cq9.1) ≤ x0q13.length) then
  (cutEnds (copyL x0q13 cq9.1 ((cq9.2 - cq9.1)) ((p0q1.drop cq10.1).take (cq10.2 - cq10.1))).length (some (.imm (.int .i64 (IntKind.wrap .i64 (x0q3 + ((min ((p0q1.drop cq10.1).take (cq10.2 - cq10.1)).length ((cq9.2 - cq9.1)) : Nat) : Int)))))) (none)).bind fun cq11 =>
  (cutEnds p1q1.length (some (.imm (.int .i64 (IntKind.wrap .i64 (x0q2 * x0q1))))) (some (.imm (.int .i64 (IntKind.wrap .i64 ((IntKind.wrap .i64 (x0q2 + 1)) * x0q1)))))).bind fun cq12 =>
  (bif decide (cq11.1 + (cq11.2 - cq11.1) ≤ (copyL x0q13 cq9.1 ((cq9.2 - cq9.1)) ((p0q1.drop cq10.1).take (cq10.2 - cq10.1))).length) then
  L0 fuel n0 (t0 p0q0 p0q1 p1q0 p1q1 j1 p2 j4 v3 x0q0 x0q1 ((IntKind.wrap .i64 (x0q2 + 1))) ((IntKind.wrap .i64 ((IntKind.wrap .i64 (x0q3 + ((min ((p0q1.drop cq10.1).take (cq10.2 - cq10.1)).length ((cq9.2 - cq9.1)) : Nat) : Int))) + ((min ((p1q1.drop cq12.1).take (cq12.2 - cq12.1)).length ((cq11.2 - cq11.1)) : Nat) : Int)))) ((copyL (copyL x0q13 cq9.1 ((cq9.2 - cq9.1)) ((p0q1.drop cq10.1).take (cq10.2 - cq10.1))) cq11.1 ((cq11.2 - cq11.1)) ((p1q1.drop cq12.1).take (cq12.2 - cq12.1))))) (k0  fuel)
  else
  none)
  else
  none)
  else
  some ([.agg [((.ints .i64 ((p0q0.set j1 (axL p1q0 p1q1 p2)).set j4 (IntKind.wrap .i64 (v3 + (axL p0q0 p0q1 p2))))), true), ((.ints .i64 x0q13), true)], .one ((.bool true), false)], [])) := by kernel_rfl
end impl_JoinAxis
theorem impl_JoinAxis.ok_of (hX : ∀ E ∈ impl_JoinAxis.X, CallSpec Try.prog E) (h : ∀ (sa : List Int) (da : List Int) (sb : List Int) (db : List Int) (k : Int), (decide (sa.length < 9223372036854775808) && decide (da.length < 9223372036854775808) && decide (sb.length < 9223372036854775808) && decide (db.length < 9223372036854775808)) = true → ∃ fuel, runF Try.prog impl_JoinAxis.X impl_JoinAxis.I 0 fuel 10 Try.f10 [.d (.agg [(.ints .i64 sa), (.ints .i64 da)]), .d (.agg [(.ints .i64 sb), (.ints .i64 db)]), .d (.int .i64 k)] = some ([.agg [((.ints .i64 (joS sa da sb db k)), true), ((.ints .i64 (joD sa da sb db k)), true)], .one ((.bool (joB sa da sb db k)), false)], [])) : CallSpec Try.prog impl_JoinAxis.E :=
  callSpec_of (d := 0) hX (by kernel_rfl) impl_JoinAxis.I_ok (by kernel_rfl) (by kernel_rfl) (by kernel_rfl) (fun _ _ _ _ h => by dsimp only [impl_JoinAxis.E] at h; cases h) (fun xs hp => by
    dsimp only [impl_JoinAxis.E] at hp ⊢
    split at hp
    · exact h _ _ _ _ _ hp
    · cases hp)
theorem impl_JoinAxis.loop (fuel : Nat) (sa da sb db : List Int) (j : Nat) (o : JoOk sa da sb db j) (hk : (sa.set j (axL sb db (j : Int))).set j (IntKind.wrap .i64 (((lenN sb j : Nat) : Int) + (axL sa da (j : Int)))) = joSh sa sb j) (hf : 3600 < fuel) :
    impl_JoinAxis.L0 fuel fuel (impl_JoinAxis.t0 sa da sb db j (j : Int) j ((lenN sb j : Nat) : Int) ((lenN sa j * behN sa j : Nat) : Int) ((lenN sb j * behN sa j : Nat) : Int) 0 0 (List.replicate (befN sa j * (lenN sa j * behN sa j + lenN sb j * behN sa j)) 0)) (impl_JoinAxis.k0 fuel) = some ([.agg [((.ints .i64 (joSh sa sb j)), true), ((.ints .i64 (joN sa da sb db j)), true)], .one ((.bool true), false)], []) := by
  have hda := o.da
  have hdb := o.db
  have hle := o.le
  have hvol := o.vol
  have hla := validA_len o.va
  have hlb := validA_len o.vb
  have hB := o.xa.bef_le
  unfold joN
  generalize hxe : lenN sa j * behN sa j = x at *
  generalize hye : lenN sb j * behN sa j = y at *
  generalize befN sa j = B at *
  by_cases hz : x + y = 0
  · obtain ⟨f, hf1⟩ : ∃ f, fuel = f + 1 := ⟨fuel - 1, by omega⟩
    have e0 : joC x y da db B = [] := by
      have := joC_len (x := x) (y := y) (da := da) (db := db) B (by omega) (by omega)
      rw [hz, Nat.mul_zero] at this
      exact List.length_eq_zero_iff.1 this
    rw [hz, Nat.mul_zero] at hvol ⊢
    conv => lhs; arg 2; rw [hf1]
    rw [impl_JoinAxis.s0, hk, hvol, e0]
    rfl
  · refine run_loop (N := B) (fun n i (s : Int × List Int) => impl_JoinAxis.L0 fuel n (impl_JoinAxis.t0 sa da sb db j (j : Int) j ((lenN sb j : Nat) : Int) (x : Int) (y : Int) (i : Int) s.1 s.2) (impl_JoinAxis.k0 fuel)) (fun i s => s.1 = ((i * (x + y) : Nat) : Int) ∧ s.2 = joC x y da db i ++ List.replicate (B * (x + y) - i * (x + y)) 0) ?_ ?_ fuel 0 (0, List.replicate (B * (x + y)) 0) (by omega) (by omega) ⟨by simp, by simp [joC]⟩
    · rintro n ⟨c, out⟩ ⟨hc, ho⟩
      simp only at hc ho
      subst hc
      dsimp only
      rw [Nat.sub_self, List.replicate_zero, List.append_nil] at ho
      rw [impl_JoinAxis.s0, hk, hvol, dge (by omega), cond_false, ho]
    · rintro n i ⟨c, out⟩ hi ⟨hc, ho⟩
      simp only at hc ho
      subst hc
      dsimp only
      have h1 : (i + 1) * x ≤ B * x := Nat.mul_le_mul_right _ hi
      have h2 : (i + 1) * y ≤ B * y := Nat.mul_le_mul_right _ hi
      have h3 : i * x ≤ (i + 1) * x := Nat.mul_le_mul_right _ (by omega)
      have h4 : i * y ≤ (i + 1) * y := Nat.mul_le_mul_right _ (by omega)
      have hl := joC_len (x := x) (y := y) (da := da) (db := db) i (by omega) (by omega)
      have h5 : (i + 1) * (x + y) ≤ B * (x + y) := Nat.mul_le_mul_right _ hi
      have h6 : (i + 1) * (x + y) = i * (x + y) + (x + y) := by rw [Nat.add_mul, Nat.one_mul]
      have q1 : ((da.drop (i * x)).take x).length = x := by simp only [List.length_take, List.length_drop]; rw [Nat.add_mul, Nat.one_mul] at h1; omega
      have q2 : ((db.drop (i * y)).take y).length = y := by simp only [List.length_take, List.length_drop]; rw [Nat.add_mul, Nat.one_mul] at h2; omega
      have hol : out.length = B * (x + y) := by rw [ho, List.length_append, hl, List.length_replicate]; omega
      have c1 : copyL out (i * (x + y)) (B * (x + y) - i * (x + y)) ((da.drop (i * x)).take x) = joC x y da db i ++ (da.drop (i * x)).take x ++ List.replicate (B * (x + y) - i * (x + y) - x) 0 := by
        have := copy_zero (A := joC x y da db i) (ys := (da.drop (i * x)).take x) (K := B * (x + y) - i * (x + y)) (by omega)
        rw [hl, q1] at this
        rw [ho, this]
      have hl2 : (joC x y da db i ++ (da.drop (i * x)).take x).length = i * (x + y) + x := by rw [List.length_append, hl, q1]
      have c2 : copyL (joC x y da db i ++ (da.drop (i * x)).take x ++ List.replicate (B * (x + y) - i * (x + y) - x) 0) (i * (x + y) + x) (B * (x + y) - (i * (x + y) + x)) ((db.drop (i * y)).take y) = joC x y da db (i + 1) ++ List.replicate (B * (x + y) - (i + 1) * (x + y)) 0 := by
        have := copy_zero (A := joC x y da db i ++ (da.drop (i * x)).take x) (ys := (db.drop (i * y)).take y) (K := B * (x + y) - i * (x + y) - x) (by omega)
        rw [hl2, q2] at this
        rw [show B * (x + y) - (i * (x + y) + x) = B * (x + y) - i * (x + y) - x by omega, this, show B * (x + y) - i * (x + y) - x - y = B * (x + y) - (i + 1) * (x + y) by omega]
        rfl
      rw [impl_JoinAxis.s0, hk, hvol, dlt (by omega), cond_true, hol, cut_lo (by omega), w1 (by omega), wMul (by omega), wMul (by omega), wMul (by omega), wMul (by omega), cut_both h3 (by omega), cut_both h4 (by omega)]
      simp only [Option.bind_some, ce_cut, c1]
      rw [decide_eq_true (by omega), cond_true, q1, show min x (B * (x + y) - i * (x + y)) = x by omega, wAdd (by omega)]
      have hl3 : (joC x y da db i ++ (da.drop (i * x)).take x ++ List.replicate (B * (x + y) - i * (x + y) - x) 0).length = B * (x + y) := by rw [List.length_append, hl2, List.length_replicate]; omega
      rw [hl3, cut_lo (by omega)]
      simp only [Option.bind_some, c2]
      rw [decide_eq_true (by omega), cond_true, q2, show min y (B * (x + y) - (i * (x + y) + x)) = y by omega, wAdd (by omega)]
      exact ⟨(((i + 1) * (x + y) : Nat), _), ⟨rfl, rfl⟩, by rw [show i * (x + y) + x + y = (i + 1) * (x + y) by omega]⟩
theorem impl_JoinAxis.ok : CallSpec Try.prog impl_JoinAxis.E := impl_JoinAxis.ok_of (by simp [impl_JoinAxis.X, impl_axisLength.ok, impl_copyList.ok, slices_Equal_int_int.ok, impl_layoutOf_j.ok]) fun sa da sb db k h => by
  obtain ⟨F, hF⟩ : ∃ F : Nat, 3600 < F := ⟨3601, by omega⟩
  refine ⟨F, ?_⟩
  simp only [Bool.and_eq_true] at h
  obtain ⟨⟨⟨h1, h2⟩, h3⟩, h4⟩ := h
  rw [impl_JoinAxis.e, h1, h2, h3, h4]
  unfold joS joD
  cases ha : axB sa da k with
  | false =>
    have : joB sa da sb db k = false := by simp only [joB, ha, Bool.false_and]
    rw [this]; rfl
  | true =>
    cases hb : axB sb db k with
    | false =>
      have : joB sa da sb db k = false := by simp only [joB, hb, Bool.false_and, Bool.and_false]
      rw [this]; rfl
    | true =>
      obtain ⟨j, rfl, hj, hv, ax, hd, hl⟩ := axB_inv ha
      obtain ⟨j2, e2, hj2, hv2, ax2, hd2, hl2⟩ := axB_inv hb
      obtain rfl : j = j2 := by omega
      have hr := ax.rank
      have hr2 := ax2.rank
      have hLa := ax.len_le
      have hLb := ax2.len_le
      have hset : sa.set j (axL sb db (j : Int)) = sa.set j (sb.getD j 0) := by rw [hl2, ax2.len]
      have hk : (sa.set j (axL sb db (j : Int))).set j (IntKind.wrap .i64 (((lenN sb j : Nat) : Int) + (axL sa da (j : Int)))) = joSh sa sb j := by
        rw [List.set_set, hl, wAdd (by omega)]
        unfold joSh
        rw [ax.len, ax2.len, ← Int.natCast_add, Nat.add_comm]
      rw [szB_of (xs := sa) (by omega), idx_nat hj]
      simp only [cond_true, Bool.not_true, cond_false, Option.bind_some]
      rw [decide_eq_true hj, cond_true, lt_of (by rw [List.length_set]; omega)]
      by_cases hs : sa.set j (sb.getD j 0) = sb
      · rw [hset] at hk ⊢
        rw [decide_eq_true hs, List.length_set, idx_nat hj]
        simp only [cond_true, Bool.and_self, Bool.not_true, cond_false, Option.bind_some]
        rw [List.getElem?_set_self hj]
        simp only [Option.bind_some]
        rw [decide_eq_true hj, cond_true, ax2.len]
        rw [ax2.len] at hk
        rw [hk, lt_of (by unfold joSh; rw [List.length_set]; omega), cond_true]
        have hjo : joB sa da sb db (j : Int) = validS (joSh sa sb j) := by
          simp only [joB, ha, hb, Int.toNat_natCast, decide_eq_true hs, Bool.true_and]
        cases hvs : validS (joSh sa sb j) with
        | false => rw [hjo, hvs]; rfl
        | true =>
          rw [hvs] at hjo
          obtain ⟨j3, e3, o⟩ := joB_inv hjo
          obtain rfl : j = j3 := by omega
          have hvol := o.vol
          have hle := o.le
          have hj5 : j < (joSh sa sb j).length := by unfold joSh; rw [List.length_set]; exact hj
          have hst : strd (joSh sa sb j) j = ((behN sa j : Nat) : Int) := by
            rw [strd_beh (ax_of hvs hj5), o.sh, beh_set]
          have hx : lenN sa j * behN sa j ≤ 60 * 3600 := Nat.mul_le_mul hLa ax.beh_le
          have hy : lenN sb j * behN sa j ≤ 60 * 3600 := Nat.mul_le_mul hLb ax.beh_le
          have hk2 : (sa.set j (axL sb db (j : Int))).set j (IntKind.wrap .i64 (((lenN sb j : Nat) : Int) + (axL sa da (j : Int)))) = joSh sa sb j := by rw [hset, ax2.len]; exact hk
          have lp := impl_JoinAxis.loop F sa da sb db j o hk2 hF
          rw [hvol, mkOk (by omega) (by omega), hl, hl2, Int.toNat_natCast]
          have fin : ∀ s : Int, s = ((behN sa j : Nat) : Int) → impl_JoinAxis.L0 F F (impl_JoinAxis.t0 sa da sb db j (j : Int) j ((lenN sb j : Nat) : Int) (IntKind.wrap .i64 (((lenN sa j : Nat) : Int) * s)) (IntKind.wrap .i64 (((lenN sb j : Nat) : Int) * s)) 0 0 (List.replicate (befN sa j * (lenN sa j * behN sa j + lenN sb j * behN sa j)) 0)) (impl_JoinAxis.k0 F) = some ([.agg [((.ints .i64 (bif joB sa da sb db (j : Int) then joSh sa sb (j : Int).toNat else [])), true), ((.ints .i64 (bif joB sa da sb db (j : Int) then joN sa da sb db (j : Int).toNat else [])), true)], .one ((.bool (joB sa da sb db (j : Int))), false)], []) := by
            rintro s rfl
            rw [wMul (by omega), wMul (by omega), lp, hjo, Int.toNat_natCast]
            rfl
          have hcase : j = 0 ∨ j = 1 ∨ j = 2 := by omega
          rcases hcase with rfl | rfl | rfl
          · exact fin _ hst
          · exact fin _ hst
          · exact fin _ hst
      · have : joB sa da sb db (j : Int) = false := by
          simp only [joB, Int.toNat_natCast, decide_eq_false hs, Bool.and_false, Bool.false_and]
        rw [hset, decide_eq_false hs, this]; rfl

namespace spec_without
noncomputable def E : Entry := ⟨36, false, false, fun | [.d (.ints .i64 sh), .d (.int .i64 k)] => axOk sh k && validS sh | _ => false, fun | [.d (.ints .i64 sh), .d (.int .i64 k)] => ([.one ((.ints .i64 (sh.eraseIdx k.toNat)), true)], []) | _ => ([], []), fun _ => [], true, fun _ => none⟩
end spec_without
namespace spec_without
noncomputable def X : List Entry := []
noncomputable def I : List Inl := [⟨36, Try.f36, ⟨[], [], [], [(1, [1, 2, 5, 6, 7, 8, 3, 0, 4, 9, 10])], [13], []⟩⟩]
theorem I_ok : ∀ i ∈ I, Try.prog.funcs[i.f]? = some i.fn ∧ (i.fn.name == "runtime.NumGoroutine") = false := by
  intro i hi
  simp only [I, List.mem_cons, List.not_mem_nil, or_false] at hi
  subst hi
  exact ⟨by kernel_rfl, by kernel_rfl⟩
theorem e (fuel : Nat) (p0 : List Int) (p1 : Int) : runF Try.prog X I 0 fuel 36 Try.f36 [.d (.ints .i64 p0), .d (.int .i64 p1)] =
  (cutEnds p0.length (some (.imm (.int .i64 (IntKind.wrap .i64 (p1 + 1))))) (none)).bind fun cq1 =>
  (cutEnds p0.length (none) (some (.imm (.int .i64 p1)))).bind fun cq2 =>
  (bif fits (([] : List Int).length + ((p0.drop cq2.1).take (cq2.2 - cq2.1)).length) 8 then
  (bif fits ((([] : List Int) ++ ((p0.drop cq2.1).take (cq2.2 - cq2.1))).length + ((p0.drop cq1.1).take (cq1.2 - cq1.1)).length) 8 then
  some ([.one ((.ints .i64 ((([] : List Int) ++ ((p0.drop cq2.1).take (cq2.2 - cq2.1))) ++ ((p0.drop cq1.1).take (cq1.2 - cq1.1)))), true)], [])
  else
  none)
  else
  none) := by kernel_rfl
end spec_without
theorem spec_without.ok_of (hX : ∀ E ∈ spec_without.X, CallSpec Try.prog E) (h : ∀ (sh : List Int) (k : Int), (axOk sh k && validS sh) = true → ∃ fuel, runF Try.prog spec_without.X spec_without.I 0 fuel 36 Try.f36 [.d (.ints .i64 sh), .d (.int .i64 k)] = some ([.one ((.ints .i64 (sh.eraseIdx k.toNat)), true)], [])) : CallSpec Try.prog spec_without.E :=
  callSpec_of (d := 0) hX (by kernel_rfl) spec_without.I_ok (by kernel_rfl) (by kernel_rfl) (by kernel_rfl) (fun _ _ _ _ h => by dsimp only [spec_without.E] at h; cases h) (fun xs hp => by
    dsimp only [spec_without.E] at hp ⊢
    split at hp
    · exact h _ _ hp
    · cases hp)
theorem spec_without.ok : CallSpec Try.prog spec_without.E := spec_without.ok_of (by simp [spec_without.X]) fun sh k h => ⟨0, by
  rw [spec_without.e]
  simp only [Bool.and_eq_true] at h
  obtain ⟨e1, e2⟩ := axOk_nat h.1
  have hr := (validS_inv h.2).1
  generalize k.toNat = j at *
  subst e1
  rw [w1 (by omega), cut_lo (by omega), cut_hi (by omega)]
  simp only [Option.bind_some]
  rw [fitsOk (by simp; omega), cond_true, fitsOk (by simp; omega), cond_true, drop_take, List.drop_zero, Nat.sub_zero, List.nil_append, erase_eq]⟩

namespace spec_sameInts
noncomputable def E : Entry := ⟨35, true, false, fun | [.d (.ints .i64 xs), .d (.ints .i64 ys)] => decide (xs.length < 9223372036854775808) && decide (ys.length < 9223372036854775808) | _ => false, fun | [.d (.ints .i64 xs), .d (.ints .i64 ys)] => ([.one ((.bool (decide (xs = ys))), false)], []) | _ => ([], []), fun _ => [], false, fun _ => none⟩
end spec_sameInts
namespace spec_sameInts
noncomputable def X : List Entry := []
noncomputable def I : List Inl := [⟨35, Try.f35, ⟨[], [(1000004, [2, 3, 4, 6, 7, 8, 9, 10, 11, 12, 13, 14, 15, 16, 17, 18, 19, 20, 21, 22, 23, 24, 25])], [], [(6, [0, 1, 4, 5, 2, 3, 6, 7, 8])], [], []⟩⟩]
theorem I_ok : ∀ i ∈ I, Try.prog.funcs[i.f]? = some i.fn ∧ (i.fn.name == "runtime.NumGoroutine") = false := by
  intro i hi
  simp only [I, List.mem_cons, List.not_mem_nil, or_false] at hi
  subst hi
  exact ⟨by kernel_rfl, by kernel_rfl⟩
noncomputable abbrev L0 (fuel n : Nat) (s : St) (k : Kont) := lAt Try.prog X I fuel true 0 false 35 (bodyOf Try.f35) [1, 1, 0, 1, 0] n s k
noncomputable abbrev k0  (fuel : Nat) : Kont := (kAt Try.prog X I fuel true 0 false 35 (bodyOf Try.f35) [1, 1, 0, 1, 0] [] (endK Try.prog Try.f35))
noncomputable def t0 (p0 : List Int) (p1 : List Int) (x0q2 : Int) : St := ⟨[(.imm (.ints .i64 p0)), (.imm (.ints .i64 p1)), .dead, .dead, .dead, (.imm (.int .i64 x0q2)), .dead, .dead, .dead, .dead, .dead, .dead, .dead, .dead, .dead, .dead, .dead, .dead, .dead, .dead, .dead, .dead, .dead, .dead, .dead, .dead], hOf [], [], []⟩
theorem e (fuel : Nat) (p0 : List Int) (p1 : List Int) : runF Try.prog X I 0 fuel 35 Try.f35 [.d (.ints .i64 p0), .d (.ints .i64 p1)] =
  (bif ((((p0.length : Nat) : Int) : Int) != ((p1.length : Nat) : Int)) then
  some ([.one ((.bool false), false)], [])
  else
  L0 fuel fuel (t0 p0 p1 0) (k0  fuel)) := by kernel_rfl
theorem s0 (fuel n0 : Nat) (p0 : List Int) (p1 : List Int) (x0q2 : Int) : L0 fuel (n0 + 1) (t0 p0 p1 x0q2) (k0  fuel) =
  (bif (decide ((x0q2 : Int) < ((p0.length : Nat) : Int))) then
  (idx x0q2 p0.length).bind fun j9 =>
  (p0[j9]?).bind fun v10 =>
  (idx x0q2 p1.length).bind fun j11 =>
  (p1[j11]?).bind fun v12 =>
  (bif ((v10 : Int) != v12) then
  some ([.one ((.bool false), false)], [])
  else
  L0 fuel n0 (t0 p0 p1 ((IntKind.wrap .i64 (x0q2 + 1)))) (k0  fuel))
  else
  some ([.one ((.bool true), false)], [])) := by kernel_rfl
end spec_sameInts
theorem spec_sameInts.ok_of (hX : ∀ E ∈ spec_sameInts.X, CallSpec Try.prog E) (h : ∀ (xs : List Int) (ys : List Int), (decide (xs.length < 9223372036854775808) && decide (ys.length < 9223372036854775808)) = true → ∃ fuel, runF Try.prog spec_sameInts.X spec_sameInts.I 0 fuel 35 Try.f35 [.d (.ints .i64 xs), .d (.ints .i64 ys)] = some ([.one ((.bool (decide (xs = ys))), false)], [])) : CallSpec Try.prog spec_sameInts.E :=
  callSpec_of (d := 0) hX (by kernel_rfl) spec_sameInts.I_ok (by kernel_rfl) (by kernel_rfl) (by kernel_rfl) (fun _ _ _ _ h => by dsimp only [spec_sameInts.E] at h; cases h) (fun xs hp => by
    dsimp only [spec_sameInts.E] at hp ⊢
    split at hp
    · exact h _ _ hp
    · cases hp)
theorem spec_sameInts.loop (fuel : Nat) (xs ys : List Int) (hl : xs.length = ys.length) (hx : xs.length < 9223372036854775808) : ∀ (m n j : Nat), xs.length - j = m → m < n → j ≤ xs.length →
    spec_sameInts.L0 fuel n (spec_sameInts.t0 xs ys (j : Int)) (spec_sameInts.k0 fuel) = some ([.one (.bool (decide (xs.drop j = ys.drop j)), false)], []) := by
  intro m
  induction m with
  | zero =>
    intro n j h1 h2 h3
    obtain ⟨n, rfl⟩ : ∃ n', n = n' + 1 := ⟨n - 1, by omega⟩
    have hj : ¬ j < xs.length := by omega
    rw [spec_sameInts.s0, dge hj, dropE hj, dropE (xs := ys) (by omega)]
    rfl
  | succ m ih =>
    intro n j h1 h2 h3
    obtain ⟨n, rfl⟩ : ∃ n', n = n' + 1 := ⟨n - 1, by omega⟩
    have hj : j < xs.length := by omega
    have hj2 : j < ys.length := by omega
    rw [spec_sameInts.s0, dlt hj, idx_nat hj, idx_nat hj2, w1 (by omega), dropS hj, dropS hj2]
    simp only [cond_true, Option.bind_some, getS hj, getS hj2]
    rw [ih n (j + 1) (by omega) (by omega) (by omega)]
    by_cases hv : xs[j] = ys[j]
    · rw [hv]
      simp only [bne_self_eq_false, cond_false, List.cons.injEq, true_and]
    · have : (xs[j] != ys[j]) = true := by simp [hv]
      rw [this]
      simp only [cond_true, List.cons.injEq, hv, false_and, decide_false]

theorem spec_sameInts.ok : CallSpec Try.prog spec_sameInts.E := spec_sameInts.ok_of (by simp [spec_sameInts.X]) fun xs ys h => by
  simp only [Bool.and_eq_true, decide_eq_true_eq] at h
  refine ⟨xs.length + 1, ?_⟩
  rw [spec_sameInts.e]
  by_cases hl : xs.length = ys.length
  · have := spec_sameInts.loop (xs.length + 1) xs ys hl h.1 xs.length (xs.length + 1) 0 (by omega) (by omega) (by omega)
    simp only [List.drop_zero] at this
    simp only [hl, bne_self_eq_false, cond_false]
    rw [← hl]
    exact this
  · have hne : xs ≠ ys := fun e => hl (e ▸ rfl)
    have : (((xs.length : Nat) : Int) != ((ys.length : Nat) : Int)) = true := by simp; omega
    rw [this]
    simp [hne]

namespace spec_around
noncomputable def E : Entry := ⟨37, true, false, fun | [.d (.ints .i64 sh), .d (.int .i64 k)] => validS sh && axOk sh k | _ => false, fun | [.d (.ints .i64 sh), .d (.int .i64 k)] => ([.one ((.int .i64 ((befN sh k.toNat : Nat) : Int)), false), .one ((.int .i64 ((behN sh k.toNat : Nat) : Int)), false)], []) | _ => ([], []), fun _ => [], false, fun _ => none⟩
end spec_around
namespace spec_around
noncomputable def X : List Entry := [spec_volume.E]
noncomputable def I : List Inl := [⟨37, Try.f37, ⟨[], [], [], [(1, [0, 1, 4, 5, 6, 2, 3, 7, 8, 9, 10])], [], []⟩⟩]
theorem I_ok : ∀ i ∈ I, Try.prog.funcs[i.f]? = some i.fn ∧ (i.fn.name == "runtime.NumGoroutine") = false := by
  intro i hi
  simp only [I, List.mem_cons, List.not_mem_nil, or_false] at hi
  subst hi
  exact ⟨by kernel_rfl, by kernel_rfl⟩
theorem e (fuel : Nat) (p0 : List Int) (p1 : Int) : runF Try.prog X I 0 fuel 37 Try.f37 [.d (.ints .i64 p0), .d (.int .i64 p1)] =
  (cutEnds p0.length (none) (some (.imm (.int .i64 p1)))).bind fun cq1 =>
  (bif decide ((((p0.drop cq1.1).take (cq1.2 - cq1.1))).length < 9223372036854775808) then
  (cutEnds p0.length (some (.imm (.int .i64 (IntKind.wrap .i64 (p1 + 1))))) (none)).bind fun cq2 =>
  (bif decide ((((p0.drop cq2.1).take (cq2.2 - cq2.1))).length < 9223372036854775808) then
  some ([.one ((.int .i64 (volW (((p0.drop cq1.1).take (cq1.2 - cq1.1))))), false), .one ((.int .i64 (volW (((p0.drop cq2.1).take (cq2.2 - cq2.1))))), false)], [])
  else
  none)
  else
  none) := by kernel_rfl
end spec_around
theorem spec_around.ok_of (hX : ∀ E ∈ spec_around.X, CallSpec Try.prog E) (h : ∀ (sh : List Int) (k : Int), (validS sh && axOk sh k) = true → ∃ fuel, runF Try.prog spec_around.X spec_around.I 0 fuel 37 Try.f37 [.d (.ints .i64 sh), .d (.int .i64 k)] = some ([.one ((.int .i64 ((befN sh k.toNat : Nat) : Int)), false), .one ((.int .i64 ((behN sh k.toNat : Nat) : Int)), false)], [])) : CallSpec Try.prog spec_around.E :=
  callSpec_of (d := 0) hX (by kernel_rfl) spec_around.I_ok (by kernel_rfl) (by kernel_rfl) (by kernel_rfl) (fun _ _ _ _ h => by dsimp only [spec_around.E] at h; cases h) (fun xs hp => by
    dsimp only [spec_around.E] at hp ⊢
    split at hp
    · exact h _ _ hp
    · cases hp)
theorem spec_around.ok : CallSpec Try.prog spec_around.E := spec_around.ok_of (by simp [spec_around.X, spec_volume.ok]) fun sh k h => ⟨0, by
  rw [spec_around.e]
  simp only [Bool.and_eq_true] at h
  obtain ⟨e1, e2⟩ := axOk_nat h.2
  have ax := ax_of h.1 e2
  have hr := ax.rank
  generalize k.toNat = j at *
  subst e1
  rw [cut_hi (by omega), w1 (by omega), cut_lo (by omega)]
  simp only [Option.bind_some, List.drop_zero, Nat.sub_zero, drop_take]
  rw [lt_of (by simp; omega), lt_of (by simp; omega), ax.bef, ax.beh]
  rfl⟩

namespace spec_JoinAxis
noncomputable def E : Entry := ⟨11, false, false, fun | [.d (.agg [(.ints .i64 sa), (.ints .i64 da)]), .d (.agg [(.ints .i64 sb), (.ints .i64 db)]), .d (.int .i64 k)] => decide (sa.length < 9223372036854775808) && decide (da.length < 9223372036854775808) && decide (sb.length < 9223372036854775808) && decide (db.length < 9223372036854775808) | _ => false, fun | [.d (.agg [(.ints .i64 sa), (.ints .i64 da)]), .d (.agg [(.ints .i64 sb), (.ints .i64 db)]), .d (.int .i64 k)] => ([.agg [((.ints .i64 (joS sa da sb db k)), true), ((.ints .i64 (joD sa da sb db k)), true)], .one ((.bool (joB sa da sb db k)), false)], []) | _ => ([], []), fun _ => [], true, fun _ => none⟩
end spec_JoinAxis
namespace spec_JoinAxis
noncomputable def X : List Entry := [spec_isAxis.E, spec_without.E, spec_sameInts.E, spec_copyInts.E, spec_validShape.E, spec_around.E, spec_make1.E]
noncomputable def I : List Inl := [⟨11, Try.f11, ⟨[29, 33, 49, 121], [(1000012, [0, 1, 2, 5, 7, 11, 15, 16, 17, 18, 19, 20, 21, 22, 23, 24, 25, 26, 27, 28, 29, 30, 31, 32, 33, 34, 35, 36, 37, 38, 39, 40, 41, 42, 43, 44, 45, 46, 47, 48, 49, 50, 51, 52, 53, 54, 55, 56, 57, 58, 59, 60, 61, 62, 63, 64, 65, 66, 67, 68, 69, 70, 71, 72, 73, 74, 75, 76, 77, 78, 79, 80, 81, 82, 83, 84, 85, 86, 87, 88, 89, 90, 91, 92, 93, 94, 95, 96, 97, 98, 99, 100, 101, 102, 103, 104, 105, 106, 107, 108, 109, 110, 111, 112, 113, 114, 115, 116, 117, 118, 119, 120, 121])], [], [(1, [1, 0, 2, 3, 4, 6, 5, 7, 8, 9, 10, 11, 13, 15, 17, 12, 16, 14, 18, 19, 20, 21, 22, 23, 26, 24, 25, 27, 28, 29, 30]), (4, [0, 1, 2, 4, 7, 9, 3, 5, 6, 8, 10, 11, 12, 13, 14])], [], []⟩⟩]
theorem I_ok : ∀ i ∈ I, Try.prog.funcs[i.f]? = some i.fn ∧ (i.fn.name == "runtime.NumGoroutine") = false := by
  intro i hi
  simp only [I, List.mem_cons, List.not_mem_nil, or_false] at hi
  subst hi
  exact ⟨by kernel_rfl, by kernel_rfl⟩
noncomputable abbrev L0 (fuel n : Nat) (s : St) (k : Kont) := lAt Try.prog X I fuel true 0 false 11 (bodyOf Try.f11) [1, 1, 1, 1, 1, 1, 1, 1, 1, 0, 1, 0] n s k
noncomputable abbrev k0  (fuel : Nat) : Kont := (kAt Try.prog X I fuel true 0 false 11 (bodyOf Try.f11) [1, 1, 1, 1, 1, 1, 1, 1, 1, 0, 1, 0] [] (endK Try.prog Try.f11))
noncomputable def t0 (p0q0 : List Int) (p2 : Int) (v7 : Int) (v9 : Int) (p0q1 : List Int) (p1q0 : List Int) (p1q1 : List Int) (j5 : Nat) (v2 : Int) (v4 : Int) (x0q3 : Int) (x0q9 : List Int) : St := ⟨[.dead, .dead, .dead, (.ptr 1000000000 0 0), (.ptr 1000000001 0 0), .dead, (.ptr 1000000002 0 0), .dead, (.all 1000000003 1), (.all 1000000004 1), (.imm (.int .i64 ((befN p0q0 p2.toNat : Nat) : Int))), .dead, (.imm (.int .i64 (IntKind.wrap .i64 (v7 * ((behN p0q0 p2.toNat : Nat) : Int))))), (.imm (.int .i64 (IntKind.wrap .i64 (v9 * ((behN p0q0 p2.toNat : Nat) : Int))))), (.imm (.int .i64 x0q3)), .dead, .dead, .dead, .dead, .dead, .dead, .dead, .dead, .dead, .dead, .dead, .dead, .dead, .dead, .dead, .dead, .dead, .dead, .dead, .dead, .dead, .dead, .dead, .dead, .dead, .dead, .dead, .dead, .dead, .dead, .dead, .dead, .dead, .dead, .dead, .dead, .dead, .dead, .dead, .dead, .dead, .dead, .dead, .dead, .dead, .dead, .dead, .dead, .dead, .dead, .dead, .dead, .dead, .dead, .dead, .dead, .dead, .dead, .dead, .dead, .dead, .dead, .dead, .dead, .dead, .dead, .dead, .dead, .dead, .dead, .dead, .dead, .dead, .dead, .dead, .dead, .dead, .dead, .dead, .dead, .dead, .dead, .dead, .dead, .dead, .dead, .dead, .dead, .dead, .dead, .dead, .dead, .dead, .dead, .dead, .dead, .dead, .dead, .dead, .dead, .dead, .dead, .dead, .dead, .dead, .dead, .dead], hOf [(1000000000, (.box [(.imm (.ints .i64 p0q0)), (.imm (.ints .i64 p0q1))])), (1000000001, (.box [(.imm (.ints .i64 p1q0)), (.imm (.ints .i64 p1q1))])), (1000000002, (.box [(.imm .nils), (.imm .nils)])), (1000000003, (.ints .i64 (p0q0.set j5 (IntKind.wrap .i64 (v2 + v4))))), (1000000004, (.ints .i64 x0q9))], [], []⟩
theorem e (fuel : Nat) (p0q0 : List Int) (p0q1 : List Int) (p1q0 : List Int) (p1q1 : List Int) (p2 : Int) : runF Try.prog X I 0 fuel 11 Try.f11 [.d (.agg [(.ints .i64 p0q0), (.ints .i64 p0q1)]), .d (.agg [(.ints .i64 p1q0), (.ints .i64 p1q1)]), .d (.int .i64 p2)] =
  (bif decide (p0q0.length < 9223372036854775808) && decide (p0q1.length < 9223372036854775808) then
  (bif (!(axB p0q0 p0q1 p2)) then
  some ([.agg [((.ints .i64 []), true), ((.ints .i64 []), true)], .one ((.bool false), false)], [])
  else
  (bif decide (p1q0.length < 9223372036854775808) && decide (p1q1.length < 9223372036854775808) then
  (bif (!(axB p1q0 p1q1 p2)) then
  some ([.agg [((.ints .i64 []), true), ((.ints .i64 []), true)], .one ((.bool false), false)], [])
  else
  (bif axOk p0q0 p2 && validS p0q0 then
  (bif axOk p1q0 p2 && validS p1q0 then
  (bif decide (((p0q0.eraseIdx p2.toNat)).length < 9223372036854775808) && decide (((p1q0.eraseIdx p2.toNat)).length < 9223372036854775808) then
  (bif (!(decide (((p0q0.eraseIdx p2.toNat)) = ((p1q0.eraseIdx p2.toNat))))) then
  some ([.agg [((.ints .i64 []), true), ((.ints .i64 []), true)], .one ((.bool false), false)], [])
  else
  (bif ((((p0q0.length : Nat) : Int) : Int) != ((p1q0.length : Nat) : Int)) then
  some ([.agg [((.ints .i64 []), true), ((.ints .i64 []), true)], .one ((.bool false), false)], [])
  else
  (bif szB p0q0 then
  (idx p2 p0q0.length).bind fun j1 =>
  (p0q0[j1]?).bind fun v2 =>
  (idx p2 p1q0.length).bind fun j3 =>
  (p1q0[j3]?).bind fun v4 =>
  (idx p2 p0q0.length).bind fun j5 =>
  (bif decide (j5 < p0q0.length) then
  (bif decide (((p0q0.set j5 (IntKind.wrap .i64 (v2 + v4)))).length < 9223372036854775808) then
  (bif (!(validS ((p0q0.set j5 (IntKind.wrap .i64 (v2 + v4)))))) then
  some ([.agg [((.ints .i64 []), true), ((.ints .i64 []), true)], .one ((.bool false), false)], [])
  else
  (bif validS p0q0 && axOk p0q0 p2 then
  (idx p2 p0q0.length).bind fun j6 =>
  (p0q0[j6]?).bind fun v7 =>
  (idx p2 p1q0.length).bind fun j8 =>
  (p1q0[j8]?).bind fun v9 =>
  L0 fuel fuel (t0 p0q0 p2 v7 v9 p0q1 p1q0 p1q1 j5 v2 v4 0 ([])) (k0  fuel)
  else
  none))
  else
  none)
  else
  none)
  else
  none)))
  else
  none)
  else
  none)
  else
  none))
  else
  none))
  else
  none) := by kernel_rfl
theorem s0 (fuel n0 : Nat) (p0q0 : List Int) (p2 : Int) (v7 : Int) (v9 : Int) (p0q1 : List Int) (p1q0 : List Int) (p1q1 : List Int) (j5 : Nat) (v2 : Int) (v4 : Int) (x0q3 : Int) (x0q9 : List Int) : L0 fuel (n0 + 1) (t0 p0q0 p2 v7 v9 p0q1 p1q0 p1q1 j5 v2 v4 x0q3 x0q9) (k0  fuel) =
  (bif (decide ((x0q3 : Int) < ((befN p0q0 p2.toNat : Nat) : Int))) then
  (cutEnds p0q1.length (some (.imm (.int .i64 (IntKind.wrap .i64 (x0q3 * (IntKind.wrap .i64 (v7 * ((behN p0q0 p2.toNat : Nat) : Int)))))))) (some (.imm (.int .i64 (IntKind.wrap .i64 ((IntKind.wrap .i64 (x0q3 + 1)) * (IntKind.wrap .i64 (v7 * ((behN p0q0 p2.toNat : Nat) : Int))))))))).bind fun cq14 =>
  (bif fits (x0q9.length + ((p0q1.drop cq14.1).take (cq14.2 - cq14.1)).length) 8 then
  (cutEnds p1q1.length (some (.imm (.int .i64 (IntKind.wrap .i64 (x0q3 * (IntKind.wrap .i64 (v9 * ((behN p0q0 p2.toNat : Nat) : Int)))))))) (some (.imm (.int .i64 (IntKind.wrap .i64 ((IntKind.wrap .i64 (x0q3 + 1)) * (IntKind.wrap .i64 (v9 * ((behN p0q0 p2.toNat : Nat) : Int))))))))).bind fun cq15 =>
  (bif fits ((x0q9 ++ ((p0q1.drop cq14.1).take (cq14.2 - cq14.1))).length + ((p1q1.drop cq15.1).take (cq15.2 - cq15.1)).length) 8 then
  L0 fuel n0 (t0 p0q0 p2 v7 v9 p0q1 p1q0 p1q1 j5 v2 v4 ((IntKind.wrap .i64 (x0q3 + 1))) (((x0q9 ++ ((p0q1.drop cq14.1).take (cq14.2 - cq14.1))) ++ ((p1q1.drop cq15.1).take (cq15.2 - cq15.1))))) (k0  fuel)
  else
  none)
  else
  none)
  else
  (bif szB ((p0q0.set j5 (IntKind.wrap .i64 (v2 + v4)))) && szB x0q9 then
  some ([.agg [((.ints .i64 ((p0q0.set j5 (IntKind.wrap .i64 (v2 + v4))))), true), ((.ints .i64 x0q9), true)], .one ((.bool true), false)], [])
  else
  none)) := by kernel_rfl
end spec_JoinAxis
theorem spec_JoinAxis.ok_of (hX : ∀ E ∈ spec_JoinAxis.X, CallSpec Try.prog E) (h : ∀ (sa : List Int) (da : List Int) (sb : List Int) (db : List Int) (k : Int), (decide (sa.length < 9223372036854775808) && decide (da.length < 9223372036854775808) && decide (sb.length < 9223372036854775808) && decide (db.length < 9223372036854775808)) = true → ∃ fuel, runF Try.prog spec_JoinAxis.X spec_JoinAxis.I 0 fuel 11 Try.f11 [.d (.agg [(.ints .i64 sa), (.ints .i64 da)]), .d (.agg [(.ints .i64 sb), (.ints .i64 db)]), .d (.int .i64 k)] = some ([.agg [((.ints .i64 (joS sa da sb db k)), true), ((.ints .i64 (joD sa da sb db k)), true)], .one ((.bool (joB sa da sb db k)), false)], [])) : CallSpec Try.prog spec_JoinAxis.E :=
  callSpec_of (d := 0) hX (by kernel_rfl) spec_JoinAxis.I_ok (by kernel_rfl) (by kernel_rfl) (by kernel_rfl) (fun _ _ _ _ h => by dsimp only [spec_JoinAxis.E] at h; cases h) (fun xs hp => by
    dsimp only [spec_JoinAxis.E] at hp ⊢
    split at hp
    · exact h _ _ _ _ _ hp
    · cases hp)
theorem spec_JoinAxis.loop (fuel : Nat) (sa da sb db : List Int) (j : Nat) (o : JoOk sa da sb db j) (hf : 3600 < fuel) :
    spec_JoinAxis.L0 fuel fuel (spec_JoinAxis.t0 sa (j : Int) ((lenN sa j : Nat) : Int) ((lenN sb j : Nat) : Int) da sb db j ((lenN sa j : Nat) : Int) ((lenN sb j : Nat) : Int) 0 []) (spec_JoinAxis.k0 fuel) = some ([.agg [((.ints .i64 (joSh sa sb j)), true), ((.ints .i64 (joN sa da sb db j)), true)], .one ((.bool true), false)], []) := by
  have hda := o.da
  have hdb := o.db
  have hle := o.le
  have hB := o.xa.bef_le
  have hr := o.xa.rank
  have hLa := o.xa.len_le
  have hLb := o.xb.len_le
  have hla := validA_len o.va
  have hlb := validA_len o.vb
  have hx : lenN sa j * behN sa j ≤ 60 * 3600 := Nat.mul_le_mul hLa o.xa.beh_le
  have hy : lenN sb j * behN sa j ≤ 60 * 3600 := Nat.mul_le_mul hLb o.xa.beh_le
  have es : sa.set j (IntKind.wrap .i64 (((lenN sa j : Nat) : Int) + ((lenN sb j : Nat) : Int))) = joSh sa sb j := by rw [wAdd (by omega), o.sh]
  refine run_loop (N := befN sa j) (fun n i out => spec_JoinAxis.L0 fuel n (spec_JoinAxis.t0 sa (j : Int) ((lenN sa j : Nat) : Int) ((lenN sb j : Nat) : Int) da sb db j ((lenN sa j : Nat) : Int) ((lenN sb j : Nat) : Int) (i : Int) out) (spec_JoinAxis.k0 fuel)) (fun i out => out = joC (lenN sa j * behN sa j) (lenN sb j * behN sa j) da db i) ?_ ?_ fuel 0 [] (by omega) (by omega) rfl
  · rintro n out rfl
    have hl := joC_len (x := lenN sa j * behN sa j) (y := lenN sb j * behN sa j) (da := da) (db := db) (befN sa j) (by omega) (by omega)
    rw [spec_JoinAxis.s0, Int.toNat_natCast, dge (by omega), cond_false, es, szB_of (by rw [o.sh, List.length_set]; omega), szB_of (by omega)]
    rfl
  · rintro n i out hi rfl
    have h1 : (i + 1) * (lenN sa j * behN sa j) ≤ befN sa j * (lenN sa j * behN sa j) := Nat.mul_le_mul_right _ hi
    have h2 : (i + 1) * (lenN sb j * behN sa j) ≤ befN sa j * (lenN sb j * behN sa j) := Nat.mul_le_mul_right _ hi
    have h3 : i * (lenN sa j * behN sa j) ≤ (i + 1) * (lenN sa j * behN sa j) := Nat.mul_le_mul_right _ (by omega)
    have h4 : i * (lenN sb j * behN sa j) ≤ (i + 1) * (lenN sb j * behN sa j) := Nat.mul_le_mul_right _ (by omega)
    have hl := joC_len (x := lenN sa j * behN sa j) (y := lenN sb j * behN sa j) (da := da) (db := db) i (by omega) (by omega)
    have h5 : i * (lenN sa j * behN sa j + lenN sb j * behN sa j) ≤ befN sa j * (lenN sa j * behN sa j + lenN sb j * behN sa j) := Nat.mul_le_mul_right _ (by omega)
    rw [spec_JoinAxis.s0, Int.toNat_natCast, dlt hi, cond_true, wMul (by omega), wMul (by omega), w1 (by omega), wMul (by omega), wMul (by omega), wMul (by omega), wMul (by omega), cut_both h3 (by omega), cut_both h4 (by omega)]
    simp only [Option.bind_some, ce_cut]
    rw [fitsOk (by simp only [List.length_take, List.length_drop]; omega), cond_true, fitsOk (by simp only [List.length_append, List.length_take, List.length_drop]; omega), cond_true]
    exact ⟨_, rfl, rfl⟩
theorem spec_JoinAxis.ok : CallSpec Try.prog spec_JoinAxis.E := spec_JoinAxis.ok_of (by simp [spec_JoinAxis.X, spec_isAxis.ok, spec_without.ok, spec_sameInts.ok, spec_copyInts.ok, spec_validShape.ok, spec_around.ok, spec_make1.ok]) fun sa da sb db k h => by
  obtain ⟨F, hF⟩ : ∃ F : Nat, 3600 < F := ⟨3601, by omega⟩
  refine ⟨F, ?_⟩
  simp only [Bool.and_eq_true] at h
  obtain ⟨⟨⟨h1, h2⟩, h3⟩, h4⟩ := h
  rw [spec_JoinAxis.e, h1, h2, h3, h4]
  unfold joS joD
  cases ha : axB sa da k with
  | false =>
    have : joB sa da sb db k = false := by simp only [joB, ha, Bool.false_and]
    rw [this]; rfl
  | true =>
    cases hb : axB sb db k with
    | false =>
      have : joB sa da sb db k = false := by simp only [joB, hb, Bool.false_and, Bool.and_false]
      rw [this]; rfl
    | true =>
      obtain ⟨j, rfl, hj, hv, ax, hd, hl⟩ := axB_inv ha
      obtain ⟨j2, e2, hj2, hv2, ax2, hd2, hl2⟩ := axB_inv hb
      obtain rfl : j = j2 := by omega
      have hr := ax.rank
      have hr2 := ax2.rank
      have hLa := ax.len_le
      have hLb := ax2.len_le
      have vs := (validA_inv hv).1
      have vs2 := (validA_inv hv2).1
      have hiff := set_iff (sa := sa) (sb := sb) hj hj2
      rw [axOk_of hj, axOk_of hj2, vs, vs2, Int.toNat_natCast]
      simp only [cond_true, Bool.and_self, Bool.not_true, cond_false]
      rw [lt_of (by rw [set_eraseIdx_len hj]; omega), lt_of (by rw [set_eraseIdx_len hj2]; omega)]
      by_cases c1 : sa.eraseIdx j = sb.eraseIdx j
      · by_cases c2 : sa.length = sb.length
        · have hs := hiff.2 ⟨c1, c2⟩
          have e2 : (((sa.length : Nat) : Int) != ((sb.length : Nat) : Int)) = false := by simp [c2]
          rw [decide_eq_true c1, e2, szB_of (xs := sa) (by omega), idx_nat hj, idx_nat hj2]
          simp only [cond_true, Bool.and_self, Bool.not_true, cond_false, Option.bind_some, getD_get hj, getD_get hj2, ax.len, ax2.len]
          have es : sa.set j (IntKind.wrap .i64 (((lenN sa j : Nat) : Int) + ((lenN sb j : Nat) : Int))) = joSh sa sb j := by
            unfold joSh
            rw [ax.len, ax2.len, wS (by omega) (by omega)]
          have hjo : joB sa da sb db (j : Int) = validS (joSh sa sb j) := by
            simp only [joB, ha, hb, Int.toNat_natCast, decide_eq_true hs, Bool.true_and]
          rw [es, decide_eq_true hj, lt_of (by unfold joSh; rw [List.length_set]; omega)]
          simp only [cond_true]
          cases hvs : validS (joSh sa sb j) with
          | false => rw [hjo, hvs]; rfl
          | true =>
            rw [hvs] at hjo
            obtain ⟨j3, e3, o⟩ := joB_inv hjo
            obtain rfl : j = j3 := by omega
            simp only [Bool.not_true, cond_false]
            rw [spec_JoinAxis.loop F sa da sb db j o hF, hjo]
            rfl
        · have : joB sa da sb db (j : Int) = false := by
            simp only [joB, Int.toNat_natCast, decide_eq_false (fun e => c2 (hiff.1 e).2), Bool.and_false, Bool.false_and]
          have e2 : (((sa.length : Nat) : Int) != ((sb.length : Nat) : Int)) = true := by simp; omega
          rw [this, e2, decide_eq_true c1]; rfl
      · have : joB sa da sb db (j : Int) = false := by
          simp only [joB, Int.toNat_natCast, decide_eq_false (fun e => c1 (hiff.1 e).1), Bool.and_false, Bool.false_and]
        rw [this, decide_eq_false c1]; rfl

namespace laws_equalInts
noncomputable def E : Entry := ⟨39, true, false, fun | [.d (.ints .i64 xs), .d (.ints .i64 ys)] => decide (xs.length < 9223372036854775808) && decide (ys.length < 9223372036854775808) | _ => false, fun | [.d (.ints .i64 xs), .d (.ints .i64 ys)] => ([.one ((.bool (decide (xs = ys))), false)], []) | _ => ([], []), fun _ => [], false, fun _ => none⟩
end laws_equalInts
namespace laws_equalInts
noncomputable def X : List Entry := []
noncomputable def I : List Inl := [⟨39, Try.f39, ⟨[], [(1000004, [2, 3, 4, 6, 7, 8, 9, 10, 11, 12, 13, 14, 15, 16, 17, 18, 19, 20, 21, 22, 23, 24, 25])], [], [(6, [0, 1, 4, 5, 2, 3, 6, 7, 8])], [], []⟩⟩]
theorem I_ok : ∀ i ∈ I, Try.prog.funcs[i.f]? = some i.fn ∧ (i.fn.name == "runtime.NumGoroutine") = false := by
  intro i hi
  simp only [I, List.mem_cons, List.not_mem_nil, or_false] at hi
  subst hi
  exact ⟨by kernel_rfl, by kernel_rfl⟩
noncomputable abbrev L0 (fuel n : Nat) (s : St) (k : Kont) := lAt Try.prog X I fuel true 0 false 39 (bodyOf Try.f39) [1, 1, 0, 1, 0] n s k
noncomputable abbrev k0  (fuel : Nat) : Kont := (kAt Try.prog X I fuel true 0 false 39 (bodyOf Try.f39) [1, 1, 0, 1, 0] [] (endK Try.prog Try.f39))
noncomputable def t0 (p0 : List Int) (p1 : List Int) (x0q2 : Int) : St := ⟨[(.imm (.ints .i64 p0)), (.imm (.ints .i64 p1)), .dead, .dead, .dead, (.imm (.int .i64 x0q2)), .dead, .dead, .dead, .dead, .dead, .dead, .dead, .dead, .dead, .dead, .dead, .dead, .dead, .dead, .dead, .dead, .dead, .dead, .dead, .dead], hOf [], [], []⟩
theorem e (fuel : Nat) (p0 : List Int) (p1 : List Int) : runF Try.prog X I 0 fuel 39 Try.f39 [.d (.ints .i64 p0), .d (.ints .i64 p1)] =
  (bif ((((p0.length : Nat) : Int) : Int) != ((p1.length : Nat) : Int)) then
  some ([.one ((.bool false), false)], [])
  else
  L0 fuel fuel (t0 p0 p1 0) (k0  fuel)) := by kernel_rfl
theorem s0 (fuel n0 : Nat) (p0 : List Int) (p1 : List Int) (x0q2 : Int) : L0 fuel (n0 + 1) (t0 p0 p1 x0q2) (k0  fuel) =
  (bif (decide ((x0q2 : Int) < ((p0.length : Nat) : Int))) then
  (idx x0q2 p0.length).bind fun j9 =>
  (p0[j9]?).bind fun v10 =>
  (idx x0q2 p1.length).bind fun j11 =>
  (p1[j11]?).bind fun v12 =>
  (bif ((v10 : Int) != v12) then
  some ([.one ((.bool false), false)], [])
  else
  L0 fuel n0 (t0 p0 p1 ((IntKind.wrap .i64 (x0q2 + 1)))) (k0  fuel))
  else
  some ([.one ((.bool true), false)], [])) := by kernel_rfl
end laws_equalInts
theorem laws_equalInts.ok_of (hX : ∀ E ∈ laws_equalInts.X, CallSpec Try.prog E) (h : ∀ (xs : List Int) (ys : List Int), (decide (xs.length < 9223372036854775808) && decide (ys.length < 9223372036854775808)) = true → ∃ fuel, runF Try.prog laws_equalInts.X laws_equalInts.I 0 fuel 39 Try.f39 [.d (.ints .i64 xs), .d (.ints .i64 ys)] = some ([.one ((.bool (decide (xs = ys))), false)], [])) : CallSpec Try.prog laws_equalInts.E :=
  callSpec_of (d := 0) hX (by kernel_rfl) laws_equalInts.I_ok (by kernel_rfl) (by kernel_rfl) (by kernel_rfl) (fun _ _ _ _ h => by dsimp only [laws_equalInts.E] at h; cases h) (fun xs hp => by
    dsimp only [laws_equalInts.E] at hp ⊢
    split at hp
    · exact h _ _ hp
    · cases hp)
theorem laws_equalInts.loop (fuel : Nat) (xs ys : List Int) (hl : xs.length = ys.length) (hx : xs.length < 9223372036854775808) : ∀ (m n j : Nat), xs.length - j = m → m < n → j ≤ xs.length →
    laws_equalInts.L0 fuel n (laws_equalInts.t0 xs ys (j : Int)) (laws_equalInts.k0 fuel) = some ([.one (.bool (decide (xs.drop j = ys.drop j)), false)], []) := by
  intro m
  induction m with
  | zero =>
    intro n j h1 h2 h3
    obtain ⟨n, rfl⟩ : ∃ n', n = n' + 1 := ⟨n - 1, by omega⟩
    have hj : ¬ j < xs.length := by omega
    rw [laws_equalInts.s0, dge hj, dropE hj, dropE (xs := ys) (by omega)]
    rfl
  | succ m ih =>
    intro n j h1 h2 h3
    obtain ⟨n, rfl⟩ : ∃ n', n = n' + 1 := ⟨n - 1, by omega⟩
    have hj : j < xs.length := by omega
    have hj2 : j < ys.length := by omega
    rw [laws_equalInts.s0, dlt hj, idx_nat hj, idx_nat hj2, w1 (by omega), dropS hj, dropS hj2]
    simp only [cond_true, Option.bind_some, getS hj, getS hj2]
    rw [ih n (j + 1) (by omega) (by omega) (by omega)]
    by_cases hv : xs[j] = ys[j]
    · rw [hv]
      simp only [bne_self_eq_false, cond_false, List.cons.injEq, true_and]
    · have : (xs[j] != ys[j]) = true := by simp [hv]
      rw [this]
      simp only [cond_true, List.cons.injEq, hv, false_and, decide_false]

theorem laws_equalInts.ok : CallSpec Try.prog laws_equalInts.E := laws_equalInts.ok_of (by simp [laws_equalInts.X]) fun xs ys h => by
  simp only [Bool.and_eq_true, decide_eq_true_eq] at h
  refine ⟨xs.length + 1, ?_⟩
  rw [laws_equalInts.e]
  by_cases hl : xs.length = ys.length
  · have := laws_equalInts.loop (xs.length + 1) xs ys hl h.1 xs.length (xs.length + 1) 0 (by omega) (by omega) (by omega)
    simp only [List.drop_zero] at this
    simp only [hl, bne_self_eq_false, cond_false]
    rw [← hl]
    exact this
  · have hne : xs ≠ ys := fun e => hl (e ▸ rfl)
    have : (((xs.length : Nat) : Int) != ((ys.length : Nat) : Int)) = true := by simp; omega
    rw [this]
    simp [hne]

namespace laws_equalArray
noncomputable def E : Entry := ⟨12, true, false, fun | [.d (.agg [(.ints .i64 sa), (.ints .i64 da)]), .d (.agg [(.ints .i64 sb), (.ints .i64 db)])] => decide (sa.length < 9223372036854775808) && decide (da.length < 9223372036854775808) && decide (sb.length < 9223372036854775808) && decide (db.length < 9223372036854775808) | _ => false, fun | [.d (.agg [(.ints .i64 sa), (.ints .i64 da)]), .d (.agg [(.ints .i64 sb), (.ints .i64 db)])] => ([.one ((.bool (decide (sa = sb) && decide (da = db))), false)], []) | _ => ([], []), fun _ => [], false, fun _ => none⟩
end laws_equalArray
namespace laws_equalArray
noncomputable def X : List Entry := [laws_equalInts.E]
noncomputable def I : List Inl := [⟨12, Try.f12, ⟨[], [], [], [], [], []⟩⟩]
theorem I_ok : ∀ i ∈ I, Try.prog.funcs[i.f]? = some i.fn ∧ (i.fn.name == "runtime.NumGoroutine") = false := by
  intro i hi
  simp only [I, List.mem_cons, List.not_mem_nil, or_false] at hi
  subst hi
  exact ⟨by kernel_rfl, by kernel_rfl⟩
theorem e (fuel : Nat) (p0q0 : List Int) (p0q1 : List Int) (p1q0 : List Int) (p1q1 : List Int) : runF Try.prog X I 0 fuel 12 Try.f12 [.d (.agg [(.ints .i64 p0q0), (.ints .i64 p0q1)]), .d (.agg [(.ints .i64 p1q0), (.ints .i64 p1q1)])] =
  (bif decide (p0q0.length < 9223372036854775808) && decide (p1q0.length < 9223372036854775808) then
  (bif (decide (p0q0 = p1q0)) then
  (bif decide (p0q1.length < 9223372036854775808) && decide (p1q1.length < 9223372036854775808) then
  some ([.one ((.bool (decide (p0q1 = p1q1))), false)], [])
  else
  none)
  else
  some ([.one ((.bool false), false)], []))
  else
  none) := by kernel_rfl
end laws_equalArray
theorem laws_equalArray.ok_of (hX : ∀ E ∈ laws_equalArray.X, CallSpec Try.prog E) (h : ∀ (sa : List Int) (da : List Int) (sb : List Int) (db : List Int), (decide (sa.length < 9223372036854775808) && decide (da.length < 9223372036854775808) && decide (sb.length < 9223372036854775808) && decide (db.length < 9223372036854775808)) = true → ∃ fuel, runF Try.prog laws_equalArray.X laws_equalArray.I 0 fuel 12 Try.f12 [.d (.agg [(.ints .i64 sa), (.ints .i64 da)]), .d (.agg [(.ints .i64 sb), (.ints .i64 db)])] = some ([.one ((.bool (decide (sa = sb) && decide (da = db))), false)], [])) : CallSpec Try.prog laws_equalArray.E :=
  callSpec_of (d := 0) hX (by kernel_rfl) laws_equalArray.I_ok (by kernel_rfl) (by kernel_rfl) (by kernel_rfl) (fun _ _ _ _ h => by dsimp only [laws_equalArray.E] at h; cases h) (fun xs hp => by
    dsimp only [laws_equalArray.E] at hp ⊢
    split at hp
    · exact h _ _ _ _ hp
    · cases hp)
theorem laws_equalArray.ok : CallSpec Try.prog laws_equalArray.E := laws_equalArray.ok_of (by simp [laws_equalArray.X, laws_equalInts.ok]) fun sa da sb db h => ⟨0, by
  simp only [Bool.and_eq_true, decide_eq_true_eq] at h
  obtain ⟨⟨⟨h1, h2⟩, h3⟩, h4⟩ := h
  rw [laws_equalArray.e]
  simp only [h1, h2, h3, h4, decide_true, Bool.and_self, cond_true]
  cases decide (sa = sb) <;> cases decide (da = db) <;> rfl⟩

namespace impl_isCount
noncomputable def E : Entry := ⟨40, true, false, fun | [.d (.int .i64 n)] => true | _ => false, fun | [.d (.int .i64 n)] => ([.one ((.bool (cntB n)), false)], []) | _ => ([], []), fun _ => [], false, fun _ => none⟩
end impl_isCount
namespace impl_isCount
noncomputable def X : List Entry := []
noncomputable def I : List Inl := [⟨40, Try.f40, ⟨[], [], [], [], [], []⟩⟩]
theorem I_ok : ∀ i ∈ I, Try.prog.funcs[i.f]? = some i.fn ∧ (i.fn.name == "runtime.NumGoroutine") = false := by
  intro i hi
  simp only [I, List.mem_cons, List.not_mem_nil, or_false] at hi
  subst hi
  exact ⟨by kernel_rfl, by kernel_rfl⟩
theorem e (fuel : Nat) (p0 : Int) : runF Try.prog X I 0 fuel 40 Try.f40 [.d (.int .i64 p0)] =
  (bif (decide (((-60) : Int) ≤ p0)) then
  some ([.one ((.bool (decide ((p0 : Int) ≤ 60))), false)], [])
  else
  some ([.one ((.bool false), false)], [])) := by kernel_rfl
end impl_isCount
theorem impl_isCount.ok_of (hX : ∀ E ∈ impl_isCount.X, CallSpec Try.prog E) (h : ∀ (n : Int), (true) = true → ∃ fuel, runF Try.prog impl_isCount.X impl_isCount.I 0 fuel 40 Try.f40 [.d (.int .i64 n)] = some ([.one ((.bool (cntB n)), false)], [])) : CallSpec Try.prog impl_isCount.E :=
  callSpec_of (d := 0) hX (by kernel_rfl) impl_isCount.I_ok (by kernel_rfl) (by kernel_rfl) (by kernel_rfl) (fun _ _ _ _ h => by dsimp only [impl_isCount.E] at h; cases h) (fun xs hp => by
    dsimp only [impl_isCount.E] at hp ⊢
    split at hp
    · exact h _ hp
    · cases hp)
theorem impl_isCount.ok : CallSpec Try.prog impl_isCount.E := impl_isCount.ok_of (by simp [impl_isCount.X]) fun n _ => ⟨0, by
  rw [impl_isCount.e]
  unfold cntB
  cases decide (-60 ≤ n) <;> rfl⟩

namespace impl_TakeAxis_1
noncomputable def E : Entry := ⟨41, true, false, fun | [.d (.int .i64 i), .d (.pbox [(.int .i64 c)])] => true | _ => false, fun | [.d (.int .i64 i), .d (.pbox [(.int .i64 c)])] => ([.one ((.int .i64 (addI c i)), false)], []) | _ => ([], []), fun _ => [], false, fun | [(.pbox [(.int .i64 c)])] => some (false, q1, (q1v (addI c))) | _ => none⟩
end impl_TakeAxis_1
namespace impl_TakeAxis_1
noncomputable def X : List Entry := []
noncomputable def I : List Inl := [⟨41, Try.f41, ⟨[], [], [], [], [], []⟩⟩]
theorem I_ok : ∀ i ∈ I, Try.prog.funcs[i.f]? = some i.fn ∧ (i.fn.name == "runtime.NumGoroutine") = false := by
  intro i hi
  simp only [I, List.mem_cons, List.not_mem_nil, or_false] at hi
  subst hi
  exact ⟨by kernel_rfl, by kernel_rfl⟩
theorem e (fuel : Nat) (p0 : Int) (f0q0 : Int) : runF Try.prog X I 0 fuel 41 Try.f41 [.d (.int .i64 p0), .d (.pbox [(.int .i64 f0q0)])] =
  some ([.one ((.int .i64 (IntKind.wrap .i64 (f0q0 + p0))), false)], []) := by kernel_rfl
end impl_TakeAxis_1
theorem impl_TakeAxis_1.ok_of (hX : ∀ E ∈ impl_TakeAxis_1.X, CallSpec Try.prog E) (hfn : ∀ ds rb dom G, impl_TakeAxis_1.E.fnOf ds = some (rb, dom, G) → ∀ qs, dom qs = true → impl_TakeAxis_1.E.m ((qs.map fun q => .d q.d) ++ ds.map .d) = some ([.one (fnD rb (G qs), false)], [])) (h : ∀ (i : Int) (c : Int), (true) = true → ∃ fuel, runF Try.prog impl_TakeAxis_1.X impl_TakeAxis_1.I 0 fuel 41 Try.f41 [.d (.int .i64 i), .d (.pbox [(.int .i64 c)])] = some ([.one ((.int .i64 (addI c i)), false)], [])) : CallSpec Try.prog impl_TakeAxis_1.E :=
  callSpec_of (d := 0) hX (by kernel_rfl) impl_TakeAxis_1.I_ok (by kernel_rfl) (by kernel_rfl) (by kernel_rfl) hfn (fun xs hp => by
    dsimp only [impl_TakeAxis_1.E] at hp ⊢
    split at hp
    · exact h _ _ hp
    · cases hp)
theorem impl_TakeAxis_1.ok : CallSpec Try.prog impl_TakeAxis_1.E := impl_TakeAxis_1.ok_of (by simp [impl_TakeAxis_1.X]) (fun ds rb dom G h qs hq => by
  dsimp only [impl_TakeAxis_1.E] at h
  split at h
  case h_2 => cases h
  cases h
  match qs, hq with
  | [.i n], _ => rfl) fun i c _ => ⟨0, by rw [impl_TakeAxis_1.e]; rfl⟩

namespace impl_absolute
noncomputable def E : Entry := ⟨42, true, false, fun | [.d (.int .i64 n)] => true | _ => false, fun | [.d (.int .i64 n)] => ([.one ((.int .i64 (absV n)), false)], []) | _ => ([], []), fun _ => [], false, fun _ => none⟩
end impl_absolute
namespace impl_absolute
noncomputable def X : List Entry := []
noncomputable def I : List Inl := [⟨42, Try.f42, ⟨[], [], [], [], [], []⟩⟩]
theorem I_ok : ∀ i ∈ I, Try.prog.funcs[i.f]? = some i.fn ∧ (i.fn.name == "runtime.NumGoroutine") = false := by
  intro i hi
  simp only [I, List.mem_cons, List.not_mem_nil, or_false] at hi
  subst hi
  exact ⟨by kernel_rfl, by kernel_rfl⟩
theorem e (fuel : Nat) (p0 : Int) : runF Try.prog X I 0 fuel 42 Try.f42 [.d (.int .i64 p0)] =
  some ([.one ((.int .i64 (maxI p0 (IntKind.wrap .i64 (0 - p0)))), false)], []) := by kernel_rfl
end impl_absolute
theorem impl_absolute.ok_of (hX : ∀ E ∈ impl_absolute.X, CallSpec Try.prog E) (h : ∀ (n : Int), (true) = true → ∃ fuel, runF Try.prog impl_absolute.X impl_absolute.I 0 fuel 42 Try.f42 [.d (.int .i64 n)] = some ([.one ((.int .i64 (absV n)), false)], [])) : CallSpec Try.prog impl_absolute.E :=
  callSpec_of (d := 0) hX (by kernel_rfl) impl_absolute.I_ok (by kernel_rfl) (by kernel_rfl) (by kernel_rfl) (fun _ _ _ _ h => by dsimp only [impl_absolute.E] at h; cases h) (fun xs hp => by
    dsimp only [impl_absolute.E] at hp ⊢
    split at hp
    · exact h _ hp
    · cases hp)
theorem impl_absolute.ok : CallSpec Try.prog impl_absolute.E := impl_absolute.ok_of (by simp [impl_absolute.X]) fun n _ => ⟨0, by rw [impl_absolute.e]; rfl⟩

namespace impl_view_copied
noncomputable def E : Entry := ⟨43, false, false, fun | [.d (.agg [(.ints .i64 sh), (.ints .i64 da), (.int .i64 k), (.int .i64 len), (.fn false dom G)])] => axB sh da k && domB len dom | _ => false, fun | [.d (.agg [(.ints .i64 sh), (.ints .i64 da), (.int .i64 k), (.int .i64 len), (.fn false dom G)])] => ([.agg [((.ints .i64 (cpS sh k len)), true), ((.ints .i64 (cpD sh da k len G)), true)], .one ((.bool (cpB sh k len)), false)], []) | _ => ([], []), fun _ => [], true, fun _ => none⟩
end impl_view_copied
namespace impl_view_copied
noncomputable def X : List Entry := [impl_copyList.E, impl_layoutOf_j.E]
noncomputable def I : List Inl := [⟨43, Try.f43, ⟨[17, 26], [(1000009, [0, 3, 5, 6, 10, 11, 12, 13, 14, 15, 16, 17, 18, 19, 20, 21, 22, 23, 24, 25, 26, 27, 28, 29, 30, 31, 32, 33, 34, 35, 36, 37, 38, 39, 40, 41, 42, 43, 44, 45, 46, 47, 50, 51, 52, 53, 54, 55, 56, 57, 58, 59, 60, 61, 62, 63, 64, 65, 66, 67, 68, 69, 70, 71, 72, 73, 74, 75, 76, 77, 78, 79, 80, 81, 82, 83, 84, 85, 86, 87, 88, 89, 90, 91, 92, 93, 94, 95])], [], [(7, [0, 2, 5, 6, 8, 1, 3, 4, 12, 7, 9, 10, 11, 13]), (12, [0, 2, 3, 1, 4, 5, 6, 7]), (14, [0, 1, 2, 3, 5, 6, 9, 11, 13, 15, 4, 7, 8, 10, 12, 14, 16, 17, 18, 19, 20])], [], []⟩⟩]
theorem I_ok : ∀ i ∈ I, Try.prog.funcs[i.f]? = some i.fn ∧ (i.fn.name == "runtime.NumGoroutine") = false := by
  intro i hi
  simp only [I, List.mem_cons, List.not_mem_nil, or_false] at hi
  subst hi
  exact ⟨by kernel_rfl, by kernel_rfl⟩
noncomputable abbrev L0 (fuel n : Nat) (s : St) (k : Kont) := lAt Try.prog X I fuel true 0 false 43 (bodyOf Try.f43) [1, 1, 1, 1, 1, 1, 1, 0, 1, 0] n s k
noncomputable abbrev k0  (fuel : Nat) : Kont := (kAt Try.prog X I fuel true 0 false 43 (bodyOf Try.f43) [1, 1, 1, 1, 1, 1, 1, 0, 1, 0] [] (endK Try.prog Try.f43))
noncomputable def t0 (p0q0 : List Int) (j1 : Nat) (p0q3 : Int) (p0q1 : List Int) (p0q2 : Int) (p0q4d : List Q → Bool) (p0q4g : List Q → Int) (x0q0 : Int) (x0q1 : Int) (x0q3 : Int) (x0q11 : List Int) : St := ⟨[.dead, (.ptr 1000000000 0 0), (.ptr 1000000001 0 0), .dead, (.all 1000000002 1), .dead, .dead, (.all 1000000003 1), (.imm (.int .i64 x0q0)), (.imm (.int .i64 x0q1)), .dead, .dead, .dead, .dead, .dead, .dead, .dead, .dead, .dead, .dead, .dead, .dead, .dead, .dead, .dead, .dead, .dead, .dead, .dead, .dead, .dead, .dead, .dead, .dead, .dead, .dead, .dead, .dead, .dead, .dead, .dead, .dead, .dead, .dead, .dead, .dead, .dead, .dead, (.imm (.int .i64 (((List.replicate ((volW ((p0q0.set j1 p0q3)))).toNat (0 : Int)).length : Nat) : Int))), (.imm (.int .i64 x0q3)), .dead, .dead, .dead, .dead, .dead, .dead, .dead, .dead, .dead, .dead, .dead, .dead, .dead, .dead, .dead, .dead, .dead, .dead, .dead, .dead, .dead, .dead, .dead, .dead, .dead, .dead, .dead, .dead, .dead, .dead, .dead, .dead, .dead, .dead, .dead, .dead, .dead, .dead, .dead, .dead, .dead, .dead, .dead, .dead, .dead, .dead], hOf [(1000000000, (.box [(.imm (.ints .i64 p0q0)), (.imm (.ints .i64 p0q1)), (.imm (.int .i64 p0q2)), (.imm (.int .i64 p0q3)), (.imm (.fn false p0q4d p0q4g))])), (1000000001, (.box [(.imm .nils), (.imm .nils)])), (1000000002, (.ints .i64 (p0q0.set j1 p0q3))), (1000000003, (.ints .i64 x0q11))], [], []⟩
theorem e (fuel : Nat) (p0q0 : List Int) (p0q1 : List Int) (p0q2 : Int) (p0q3 : Int) (p0q4d : List Q → Bool) (p0q4g : List Q → Int) : runF Try.prog X I 0 fuel 43 Try.f43 [.d (.agg [(.ints .i64 p0q0), (.ints .i64 p0q1), (.int .i64 p0q2), (.int .i64 p0q3), (.fn false p0q4d p0q4g)])] =
  (bif szB p0q0 then
  (idx p0q2 p0q0.length).bind fun j1 =>
  (bif decide (j1 < p0q0.length) then
  (bif decide (((p0q0.set j1 p0q3)).length < 9223372036854775808) then
  (bif validS ((p0q0.set j1 p0q3)) then
  (bif decide (0 ≤ ((volW ((p0q0.set j1 p0q3))) : Int)) && decide (((volW ((p0q0.set j1 p0q3))) : Int) ≤ (volW ((p0q0.set j1 p0q3)))) && decide (((volW ((p0q0.set j1 p0q3))) : Int) ≤ 1152921504606846976) && decide (((8 : Nat) : Int) * (volW ((p0q0.set j1 p0q3))) ≤ 281474976710656) then
  (bif decide (p0q2 = ((0 : Nat) : Int)) then
  (idx p0q2 p0q0.length).bind fun j12 =>
  (p0q0[j12]?).bind fun v13 =>
  L0 fuel fuel (t0 p0q0 j1 p0q3 p0q1 p0q2 p0q4d p0q4g ((strd ((p0q0.set j1 p0q3)) 0)) v13 0 ((List.replicate ((volW ((p0q0.set j1 p0q3)))).toNat (0 : Int)))) (k0  fuel)
  else
  (bif decide (p0q2 = ((1 : Nat) : Int)) then
  (idx p0q2 p0q0.length).bind fun j10 =>
  (p0q0[j10]?).bind fun v11 =>
  L0 fuel fuel (t0 p0q0 j1 p0q3 p0q1 p0q2 p0q4d p0q4g ((strd ((p0q0.set j1 p0q3)) 1)) v11 0 ((List.replicate ((volW ((p0q0.set j1 p0q3)))).toNat (0 : Int)))) (k0  fuel)
  else
  (bif decide (p0q2 = ((2 : Nat) : Int)) then
  (idx p0q2 p0q0.length).bind fun j2 =>
  (p0q0[j2]?).bind fun v3 =>
  L0 fuel fuel (t0 p0q0 j1 p0q3 p0q1 p0q2 p0q4d p0q4g ((strd ((p0q0.set j1 p0q3)) 2)) v3 0 ((List.replicate ((volW ((p0q0.set j1 p0q3)))).toNat (0 : Int)))) (k0  fuel)
  else
  none)))
  else
  none)
  else
  some ([.agg [((.ints .i64 []), true), ((.ints .i64 []), true)], .one ((.bool false), false)], []))
  else
  none)
  else
  none)
  else
  none) := by kernel_rfl
theorem s0 (fuel n0 : Nat) (p0q0 : List Int) (j1 : Nat) (p0q3 : Int) (p0q1 : List Int) (p0q2 : Int) (p0q4d : List Q → Bool) (p0q4g : List Q → Int) (x0q0 : Int) (x0q1 : Int) (x0q3 : Int) (x0q11 : List Int) : L0 fuel (n0 + 1) (t0 p0q0 j1 p0q3 p0q1 p0q2 p0q4d p0q4g x0q0 x0q1 x0q3 x0q11) (k0  fuel) =
  (bif (decide ((x0q3 : Int) < (((List.replicate ((volW ((p0q0.set j1 p0q3)))).toNat (0 : Int)).length : Nat) : Int))) then
  (bif decide ((x0q0 : Int) = 0) then
  none
  else
  (bif decide ((x0q0 : Int) = 0) then
  none
  else
  (bif decide ((p0q3 : Int) = 0) then
  none
  else
  (bif (p0q4d [Q.i ((Int.tmod (IntKind.wrap .i64 (Int.tdiv x0q3 x0q0)) p0q3))]) then
  (bif (decide ((0 : Int) ≤ (p0q4g [Q.i ((Int.tmod (IntKind.wrap .i64 (Int.tdiv x0q3 x0q0)) p0q3))]))) then
  (bif (decide (((p0q4g [Q.i ((Int.tmod (IntKind.wrap .i64 (Int.tdiv x0q3 x0q0)) p0q3))]) : Int) < x0q1)) then
  (bif decide ((p0q3 : Int) = 0) then
  none
  else
  (idx (IntKind.wrap .i64 ((IntKind.wrap .i64 ((IntKind.wrap .i64 ((IntKind.wrap .i64 ((IntKind.wrap .i64 (Int.tdiv (IntKind.wrap .i64 (Int.tdiv x0q3 x0q0)) p0q3)) * x0q1)) + (p0q4g [Q.i ((Int.tmod (IntKind.wrap .i64 (Int.tdiv x0q3 x0q0)) p0q3))]))) * x0q0)) + (Int.tmod x0q3 x0q0))) p0q1.length).bind fun j7 =>
  (p0q1[j7]?).bind fun v8 =>
  (idx x0q3 x0q11.length).bind fun j9 =>
  (bif decide (j9 < x0q11.length) then
  L0 fuel n0 (t0 p0q0 j1 p0q3 p0q1 p0q2 p0q4d p0q4g x0q0 x0q1 ((IntKind.wrap .i64 (x0q3 + 1))) ((x0q11.set j9 v8))) (k0  fuel)
  else
  none))
  else
  L0 fuel n0 (t0 p0q0 j1 p0q3 p0q1 p0q2 p0q4d p0q4g x0q0 x0q1 ((IntKind.wrap .i64 (x0q3 + 1))) x0q11) (k0  fuel))
  else
  L0 fuel n0 (t0 p0q0 j1 p0q3 p0q1 p0q2 p0q4d p0q4g x0q0 x0q1 ((IntKind.wrap .i64 (x0q3 + 1))) x0q11) (k0  fuel))
  else
  none))))
  else
  some ([.agg [((.ints .i64 (p0q0.set j1 p0q3)), true), ((.ints .i64 x0q11), true)], .one ((.bool true), false)], [])) := by kernel_rfl
end impl_view_copied
theorem impl_view_copied.ok_of (hX : ∀ E ∈ impl_view_copied.X, CallSpec Try.prog E) (h : ∀ (sh : List Int) (da : List Int) (k : Int) (len : Int) (dom : List Q → Bool) (G : List Q → Int), (axB sh da k && domB len dom) = true → ∃ fuel, runF Try.prog impl_view_copied.X impl_view_copied.I 0 fuel 43 Try.f43 [.d (.agg [(.ints .i64 sh), (.ints .i64 da), (.int .i64 k), (.int .i64 len), (.fn false dom G)])] = some ([.agg [((.ints .i64 (cpS sh k len)), true), ((.ints .i64 (cpD sh da k len G)), true)], .one ((.bool (cpB sh k len)), false)], [])) : CallSpec Try.prog impl_view_copied.E :=
  callSpec_of (d := 0) hX (by kernel_rfl) impl_view_copied.I_ok (by kernel_rfl) (by kernel_rfl) (by kernel_rfl) (fun _ _ _ _ h => by dsimp only [impl_view_copied.E] at h; cases h) (fun xs hp => by
    dsimp only [impl_view_copied.E] at hp ⊢
    split at hp
    · exact h _ _ _ _ _ _ hp
    · cases hp)
theorem impl_view_copied.loop (fuel : Nat) (sh da : List Int) (k l : Nat) (dom : List Q → Bool) (G : List Q → Int) (ax : Ax sh k) (hd : da.length = befN sh k * lenN sh k * behN sh k) (al : AlOk sh k (cpL sh k l G)) (hdom : domB (l : Int) dom = true)
    (hv : (volW (sh.set k (l : Int))).toNat = befN sh k * l * behN sh k) (hf : 60 < fuel) :
    impl_view_copied.L0 fuel fuel (impl_view_copied.t0 sh k (l : Int) da (k : Int) dom G ((behN sh k : Nat) : Int) ((lenN sh k : Nat) : Int) 0 (List.replicate (volW (sh.set k (l : Int))).toNat 0)) (impl_view_copied.k0 fuel) =
    some ([.agg [((.ints .i64 (sh.set k (l : Int))), true), ((.ints .i64 (alA sh da k (cpL sh k l G))), true)], .one ((.bool true), false)], []) := by
  have hll : (cpL sh k l G).length = l := by simp [cpL, tab_length]
  have hle := al.le
  have hlen : (alA sh da k (cpL sh k l G)).length = befN sh k * l * behN sh k := by rw [alA_length, hll]
  have hlk := ax.lt
  have hdl := ax.le
  rw [hll] at hle
  refine run_loop (N := befN sh k * l * behN sh k) (fun n j out => impl_view_copied.L0 fuel n (impl_view_copied.t0 sh k (l : Int) da (k : Int) dom G ((behN sh k : Nat) : Int) ((lenN sh k : Nat) : Int) (j : Int) out) (impl_view_copied.k0 fuel)) (fun j out => out = part (alA sh da k (cpL sh k l G)) j) ?_ ?_ fuel 0 _ (by omega) (by omega) (by rw [part_zero, hlen, hv])
  · intro n out ho
    rw [← hlen, part_all] at ho
    rw [impl_view_copied.s0, List.length_replicate, hv, dge (by omega), ho]
    rfl
  · intro n j out hj ho
    obtain ⟨d1, d2, d3, d4⟩ := dec3 hj
    have hM : behN sh k ≠ 0 := by omega
    have hL : l ≠ 0 := by omega
    have hol : out.length = befN sh k * l * behN sh k := by rw [ho, part_length (by omega), hlen]
    have hg := alA_get (sh := sh) (da := da) (k := k) (ls := cpL sh k l G) d1 (by rw [hll]; exact d2) d3
    rw [hll, d4] at hg
    have hcl : (cpL sh k l G).getD (j / behN sh k % l) 0 = cpF (lenN sh k) G (j / behN sh k % l) := by
      unfold cpL
      rw [Int.toNat_natCast, Int.toNat_natCast, tab_getD d2]
    rw [hcl] at hg
    have hdm := domB_get hdom (i := j / behN sh k % l) (by simpa using d2)
    have hjM : j / behN sh k ≤ 1000 := Nat.le_trans (Nat.div_le_self _ _) (by omega)
    have hjL : j / behN sh k / l ≤ 1000 := Nat.le_trans (Nat.div_le_self _ _) hjM
    rw [impl_view_copied.s0, List.length_replicate, hv, dlt hj, decide_eq_false (p := ((behN sh k : Nat) : Int) = 0) (by omega), decide_eq_false (p := ((l : Nat) : Int) = 0) (by omega), tdivN, wN (n := j / behN sh k) (by omega), tmodN, tmodN, hdm, tdivN, wN (n := j / behN sh k / l) (by omega), w1 (j := j) (by omega)]
    simp only [cond_true, cond_false]
    generalize hG : G [Q.i ((j / behN sh k % l : Nat) : Int)] = g
    unfold cpF at hg
    rw [hG] at hg
    by_cases h0 : 0 ≤ g
    · by_cases h1 : g < ((lenN sh k : Nat) : Int)
      · obtain ⟨p, rfl⟩ : ∃ p : Nat, g = p := ⟨g.toNat, by omega⟩
        have hpl : p < lenN sh k := by omega
        obtain ⟨e2, _, _, _⟩ := enc3 d1 hpl d3
        have hx : j / behN sh k / l * lenN sh k + p ≤ 1000000000 := by
          have h1 := ax.len_le
          have : j / behN sh k / l * lenN sh k ≤ 1000 * 60 := Nat.mul_le_mul hjL h1
          omega
        rw [decide_eq_true h0, decide_eq_true h1, wIdx hx (by omega), idx_nat (by omega), idx_nat (by omega)]
        simp only [cond_true, Option.bind_some, getD_get (show (j / behN sh k / l * lenN sh k + p) * behN sh k + j % behN sh k < da.length by omega), show j < out.length by omega, decide_true]
        refine ⟨_, ?_, rfl⟩
        rw [ho, part_set (by omega)]
        rw [hg]
        simp [atV, h1]
      · rw [decide_eq_true h0, decide_eq_false h1]
        refine ⟨_, ?_, rfl⟩
        rw [ho, part_same (by omega)]
        rw [hg]
        simp [atV, h1]
    · rw [decide_eq_false h0]
      refine ⟨_, ?_, rfl⟩
      rw [ho, part_same (by omega)]
      rw [hg]
      simp [atV, h0]
theorem impl_view_copied.ok : CallSpec Try.prog impl_view_copied.E := impl_view_copied.ok_of (by simp [impl_view_copied.X, impl_copyList.ok, impl_layoutOf_j.ok]) fun sh da k len dom G h => by
  obtain ⟨F, hF⟩ : ∃ F : Nat, 60 < F := ⟨61, by omega⟩
  refine ⟨F, ?_⟩
  simp only [Bool.and_eq_true, axB] at h
  obtain ⟨e1, e2⟩ := axOk_nat h.1.2
  have hv := validA_inv h.1.1
  have ax := ax_of hv.1 e2
  have hd := ax_data h.1.1 e2
  have hr := ax.rank
  rw [impl_view_copied.e, szB_of (xs := sh) (by omega)]
  simp only [cpS, cpD, cpB]
  generalize k.toNat = j at *
  subst e1
  rw [idx_nat e2]
  simp only [cond_true, Option.bind_some, e2, decide_true]
  rw [lt_of (xs := sh.set j len) (by simp; omega), cond_true]
  cases hs : validS (sh.set j len) with
  | false => rfl
  | true =>
    have ax2 := ax_of hs (k := j) (by simpa using e2)
    have hb := vol_bd hs
    have hbnd := allB_get ax2.bnd ax2.lt
    have hl0 : (sh.set j len).getD j 0 = len := by simp [e2]
    rw [hl0] at hbnd
    obtain ⟨l, rfl⟩ : ∃ l : Nat, len = l := ⟨len.toNat, by omega⟩
    have hst := strd_beh ax2
    have hvol := ax2.vol
    have hle := ax2.le
    rw [len_set e2, bef_set, beh_set, Int.toNat_natCast] at hvol hle
    rw [beh_set] at hst
    have al : AlOk sh j (cpL sh j l G) := by
      have hll : (cpL sh j l G).length = l := by simp [cpL, tab_length]
      refine ⟨by omega, by rw [hll]; exact hle, fun p hp => ?_⟩
      simp only [cpL, tab, List.mem_map, List.mem_range, Int.toNat_natCast] at hp
      obtain ⟨i, hi, rfl⟩ := hp
      unfold cpF
      by_cases h0 : 0 ≤ G [.i (i : Int)]
      · by_cases h1 : G [.i (i : Int)] < ((lenN sh j : Nat) : Int)
        · simp only [decide_eq_true h0, decide_eq_true h1, Bool.and_self, cond_true]; exact h1
        · simp only [decide_eq_true h0, decide_eq_false h1, Bool.and_false, cond_false]; omega
      · simp only [decide_eq_false h0, Bool.false_and, cond_false]; omega
    have key := impl_view_copied.loop F sh da j l dom G ax hd al h.2 (by rw [hvol]; rfl) (by omega)
    rw [mkOk hb.1 (by omega)]
    simp only [cond_true]
    match j, e2, hst, key with
    | 0, e2, hst, key => rw [decide_eq_true (p := ((0 : Nat) : Int) = ((0 : Nat) : Int)) rfl, hst, getD_get e2, ax.len]; exact key
    | 1, e2, hst, key => rw [decide_eq_false (p := ((1 : Nat) : Int) = ((0 : Nat) : Int)) (by omega), decide_eq_true (p := ((1 : Nat) : Int) = ((1 : Nat) : Int)) rfl, hst, getD_get e2, ax.len]; exact key
    | 2, e2, hst, key => rw [decide_eq_false (p := ((2 : Nat) : Int) = ((0 : Nat) : Int)) (by omega), decide_eq_false (p := ((2 : Nat) : Int) = ((1 : Nat) : Int)) (by omega), decide_eq_true (p := ((2 : Nat) : Int) = ((2 : Nat) : Int)) rfl, hst, getD_get e2, ax.len]; exact key
    | j + 3, e2, _, _ => exact absurd e2 (by omega)

namespace impl_TakeAxis
noncomputable def E : Entry := ⟨13, false, false, fun | [.d (.agg [(.ints .i64 sh), (.ints .i64 da)]), .d (.int .i64 k), .d (.int .i64 n)] => decide (sh.length < 9223372036854775808) && decide (da.length < 9223372036854775808) | _ => false, fun | [.d (.agg [(.ints .i64 sh), (.ints .i64 da)]), .d (.int .i64 k), .d (.int .i64 n)] => ([.agg [((.ints .i64 (tkS sh da k n)), true), ((.ints .i64 (tkD sh da k n)), true)], .one ((.bool (tkB sh da k n)), false)], []) | _ => ([], []), fun _ => [], true, fun _ => none⟩
end impl_TakeAxis
namespace impl_TakeAxis
noncomputable def X : List Entry := [impl_axisLength.E, impl_isCount.E, impl_TakeAxis_1.E, impl_absolute.E, impl_view_copied.E]
noncomputable def I : List Inl := [⟨13, Try.f13, ⟨[38], [], [(7, [10])], [(8, [1, 2, 4, 0, 3, 5, 6, 7, 8, 9, 10])], [], []⟩⟩]
theorem I_ok : ∀ i ∈ I, Try.prog.funcs[i.f]? = some i.fn ∧ (i.fn.name == "runtime.NumGoroutine") = false := by
  intro i hi
  simp only [I, List.mem_cons, List.not_mem_nil, or_false] at hi
  subst hi
  exact ⟨by kernel_rfl, by kernel_rfl⟩
theorem e (fuel : Nat) (p0q0 : List Int) (p0q1 : List Int) (p1 : Int) (p2 : Int) : runF Try.prog X I 0 fuel 13 Try.f13 [.d (.agg [(.ints .i64 p0q0), (.ints .i64 p0q1)]), .d (.int .i64 p1), .d (.int .i64 p2)] =
  (bif decide (p0q0.length < 9223372036854775808) && decide (p0q1.length < 9223372036854775808) then
  (bif (!(axB p0q0 p0q1 p1)) then
  some ([.agg [((.ints .i64 []), true), ((.ints .i64 []), true)], .one ((.bool false), false)], [])
  else
  (bif (!(cntB p2)) then
  some ([.agg [((.ints .i64 []), true), ((.ints .i64 []), true)], .one ((.bool false), false)], [])
  else
  (bif (decide ((p2 : Int) < 0)) then
  (bif axB p0q0 p0q1 p1 && domB ((absV p2)) q1 then
  some ([.agg [((.ints .i64 (cpS p0q0 p1 ((absV p2)))), true), ((.ints .i64 (cpD p0q0 p0q1 p1 ((absV p2)) ((q1v (addI ((IntKind.wrap .i64 ((axL p0q0 p0q1 p1) + p2)))))))), true)], .one ((.bool (cpB p0q0 p1 ((absV p2)))), false)], [])
  else
  none)
  else
  (bif axB p0q0 p0q1 p1 && domB ((absV p2)) q1 then
  some ([.agg [((.ints .i64 (cpS p0q0 p1 ((absV p2)))), true), ((.ints .i64 (cpD p0q0 p0q1 p1 ((absV p2)) ((q1v (addI 0))))), true)], .one ((.bool (cpB p0q0 p1 ((absV p2)))), false)], [])
  else
  none))))
  else
  none) := by kernel_rfl
end impl_TakeAxis
theorem impl_TakeAxis.ok_of (hX : ∀ E ∈ impl_TakeAxis.X, CallSpec Try.prog E) (h : ∀ (sh : List Int) (da : List Int) (k : Int) (n : Int), (decide (sh.length < 9223372036854775808) && decide (da.length < 9223372036854775808)) = true → ∃ fuel, runF Try.prog impl_TakeAxis.X impl_TakeAxis.I 0 fuel 13 Try.f13 [.d (.agg [(.ints .i64 sh), (.ints .i64 da)]), .d (.int .i64 k), .d (.int .i64 n)] = some ([.agg [((.ints .i64 (tkS sh da k n)), true), ((.ints .i64 (tkD sh da k n)), true)], .one ((.bool (tkB sh da k n)), false)], [])) : CallSpec Try.prog impl_TakeAxis.E :=
  callSpec_of (d := 0) hX (by kernel_rfl) impl_TakeAxis.I_ok (by kernel_rfl) (by kernel_rfl) (by kernel_rfl) (fun _ _ _ _ h => by dsimp only [impl_TakeAxis.E] at h; cases h) (fun xs hp => by
    dsimp only [impl_TakeAxis.E] at hp ⊢
    split at hp
    · exact h _ _ _ _ hp
    · cases hp)
theorem impl_TakeAxis.ok : CallSpec Try.prog impl_TakeAxis.E := impl_TakeAxis.ok_of (by simp [impl_TakeAxis.X, impl_axisLength.ok, impl_isCount.ok, impl_TakeAxis_1.ok, impl_absolute.ok, impl_view_copied.ok]) fun sh da k n h => ⟨0, by
  rw [impl_TakeAxis.e, h]
  unfold tkS tkD tkB
  cases hb : axB sh da k with
  | false => rfl
  | true =>
    cases hn : cntB n with
    | false => rfl
    | true =>
      obtain ⟨j, rfl, hj, hv, ax, hd, hl⟩ := axB_inv hb
      have hB := validA_inv hv
      have hn2 := cntB_inv hn
      have hc : ∀ z, z = (bif decide (n < 0) then IntKind.wrap .i64 (((lenN sh j : Nat) : Int) + n) else 0) → cpL sh (j : Int) ((n.natAbs : Nat) : Int) (q1v (addI z)) = tkL (lenN sh j) n := by
        rintro z rfl
        exact cpL_congr (l := n.natAbs) rfl (fun i hi => by rw [Int.toNat_natCast]; exact cp_take ax.len_le hn2.1 hn2.2 hi)
      rw [hl, domB_q1, absV_nat (by omega) (by omega)]
      simp only [cond_true, Bool.not_true, cond_false, Bool.and_self, Bool.true_and, cpS, cpD, cpB, lenK, Int.toNat_natCast, alS, tkL_length]
      by_cases h0 : n < 0
      · rw [decide_eq_true h0, cond_true, hc _ (by rw [decide_eq_true h0]; rfl)]
      · rw [decide_eq_false h0, cond_false, hc _ (by rw [decide_eq_false h0]; rfl)]⟩

namespace impl_DropAxis_1
noncomputable def E : Entry := ⟨44, true, false, fun | [.d (.int .i64 i), .d (.pbox [(.int .i64 c)])] => true | _ => false, fun | [.d (.int .i64 i), .d (.pbox [(.int .i64 c)])] => ([.one ((.int .i64 (addI c i)), false)], []) | _ => ([], []), fun _ => [], false, fun | [(.pbox [(.int .i64 c)])] => some (false, q1, (q1v (addI c))) | _ => none⟩
end impl_DropAxis_1
namespace impl_DropAxis_1
noncomputable def X : List Entry := []
noncomputable def I : List Inl := [⟨44, Try.f44, ⟨[], [], [], [], [], []⟩⟩]
theorem I_ok : ∀ i ∈ I, Try.prog.funcs[i.f]? = some i.fn ∧ (i.fn.name == "runtime.NumGoroutine") = false := by
  intro i hi
  simp only [I, List.mem_cons, List.not_mem_nil, or_false] at hi
  subst hi
  exact ⟨by kernel_rfl, by kernel_rfl⟩
theorem e (fuel : Nat) (p0 : Int) (f0q0 : Int) : runF Try.prog X I 0 fuel 44 Try.f44 [.d (.int .i64 p0), .d (.pbox [(.int .i64 f0q0)])] =
  some ([.one ((.int .i64 (IntKind.wrap .i64 (f0q0 + p0))), false)], []) := by kernel_rfl
end impl_DropAxis_1
theorem impl_DropAxis_1.ok_of (hX : ∀ E ∈ impl_DropAxis_1.X, CallSpec Try.prog E) (hfn : ∀ ds rb dom G, impl_DropAxis_1.E.fnOf ds = some (rb, dom, G) → ∀ qs, dom qs = true → impl_DropAxis_1.E.m ((qs.map fun q => .d q.d) ++ ds.map .d) = some ([.one (fnD rb (G qs), false)], [])) (h : ∀ (i : Int) (c : Int), (true) = true → ∃ fuel, runF Try.prog impl_DropAxis_1.X impl_DropAxis_1.I 0 fuel 44 Try.f44 [.d (.int .i64 i), .d (.pbox [(.int .i64 c)])] = some ([.one ((.int .i64 (addI c i)), false)], [])) : CallSpec Try.prog impl_DropAxis_1.E :=
  callSpec_of (d := 0) hX (by kernel_rfl) impl_DropAxis_1.I_ok (by kernel_rfl) (by kernel_rfl) (by kernel_rfl) hfn (fun xs hp => by
    dsimp only [impl_DropAxis_1.E] at hp ⊢
    split at hp
    · exact h _ _ hp
    · cases hp)
theorem impl_DropAxis_1.ok : CallSpec Try.prog impl_DropAxis_1.E := impl_DropAxis_1.ok_of (by simp [impl_DropAxis_1.X]) (fun ds rb dom G h qs hq => by
  dsimp only [impl_DropAxis_1.E] at h
  split at h
  case h_2 => cases h
  cases h
  match qs, hq with
  | [.i n], _ => rfl) fun i c _ => ⟨0, by rw [impl_DropAxis_1.e]; rfl⟩

namespace impl_DropAxis
noncomputable def E : Entry := ⟨14, false, false, fun | [.d (.agg [(.ints .i64 sh), (.ints .i64 da)]), .d (.int .i64 k), .d (.int .i64 n)] => decide (sh.length < 9223372036854775808) && decide (da.length < 9223372036854775808) | _ => false, fun | [.d (.agg [(.ints .i64 sh), (.ints .i64 da)]), .d (.int .i64 k), .d (.int .i64 n)] => ([.agg [((.ints .i64 (drS sh da k n)), true), ((.ints .i64 (drD sh da k n)), true)]], []) | _ => ([], []), fun _ => [], true, fun _ => none⟩
end impl_DropAxis
namespace impl_DropAxis
noncomputable def X : List Entry := [impl_axisLength.E, impl_isCount.E, impl_DropAxis_1.E, impl_absolute.E, impl_view_copied.E]
noncomputable def I : List Inl := [⟨14, Try.f14, ⟨[42], [], [(5, [9])], [], [], []⟩⟩]
theorem I_ok : ∀ i ∈ I, Try.prog.funcs[i.f]? = some i.fn ∧ (i.fn.name == "runtime.NumGoroutine") = false := by
  intro i hi
  simp only [I, List.mem_cons, List.not_mem_nil, or_false] at hi
  subst hi
  exact ⟨by kernel_rfl, by kernel_rfl⟩
theorem e (fuel : Nat) (p0q0 : List Int) (p0q1 : List Int) (p1 : Int) (p2 : Int) : runF Try.prog X I 0 fuel 14 Try.f14 [.d (.agg [(.ints .i64 p0q0), (.ints .i64 p0q1)]), .d (.int .i64 p1), .d (.int .i64 p2)] =
  (bif decide (p0q0.length < 9223372036854775808) && decide (p0q1.length < 9223372036854775808) then
  (bif (!(axB p0q0 p0q1 p1)) then
  some ([.agg [((.ints .i64 []), true), ((.ints .i64 []), true)]], [])
  else
  (bif (!(cntB p2)) then
  some ([.agg [((.ints .i64 []), true), ((.ints .i64 []), true)]], [])
  else
  (bif axB p0q0 p0q1 p1 && domB ((maxI (IntKind.wrap .i64 ((axL p0q0 p0q1 p1) - (absV p2))) 0)) q1 then
  some ([.agg [((.ints .i64 (cpS p0q0 p1 ((maxI (IntKind.wrap .i64 ((axL p0q0 p0q1 p1) - (absV p2))) 0)))), true), ((.ints .i64 (cpD p0q0 p0q1 p1 ((maxI (IntKind.wrap .i64 ((axL p0q0 p0q1 p1) - (absV p2))) 0)) ((q1v (addI ((maxI p2 0))))))), true)]], [])
  else
  none)))
  else
  none) := by kernel_rfl
end impl_DropAxis
theorem impl_DropAxis.ok_of (hX : ∀ E ∈ impl_DropAxis.X, CallSpec Try.prog E) (h : ∀ (sh : List Int) (da : List Int) (k : Int) (n : Int), (decide (sh.length < 9223372036854775808) && decide (da.length < 9223372036854775808)) = true → ∃ fuel, runF Try.prog impl_DropAxis.X impl_DropAxis.I 0 fuel 14 Try.f14 [.d (.agg [(.ints .i64 sh), (.ints .i64 da)]), .d (.int .i64 k), .d (.int .i64 n)] = some ([.agg [((.ints .i64 (drS sh da k n)), true), ((.ints .i64 (drD sh da k n)), true)]], [])) : CallSpec Try.prog impl_DropAxis.E :=
  callSpec_of (d := 0) hX (by kernel_rfl) impl_DropAxis.I_ok (by kernel_rfl) (by kernel_rfl) (by kernel_rfl) (fun _ _ _ _ h => by dsimp only [impl_DropAxis.E] at h; cases h) (fun xs hp => by
    dsimp only [impl_DropAxis.E] at hp ⊢
    split at hp
    · exact h _ _ _ _ hp
    · cases hp)
theorem impl_DropAxis.ok : CallSpec Try.prog impl_DropAxis.E := impl_DropAxis.ok_of (by simp [impl_DropAxis.X, impl_axisLength.ok, impl_isCount.ok, impl_DropAxis_1.ok, impl_absolute.ok, impl_view_copied.ok]) fun sh da k n h => ⟨0, by
  rw [impl_DropAxis.e, h]
  unfold drS drD drB
  cases hb : axB sh da k with
  | false => rfl
  | true =>
    cases hn : cntB n with
    | false => rfl
    | true =>
      obtain ⟨j, rfl, hj, hv, ax, hd, hl⟩ := axB_inv hb
      have hB := validA_inv hv
      have hn2 := cntB_inv hn
      have hdr := drop_len ax.len_le hn2.1 hn2.2
      rw [hl, domB_q1, hdr]
      simp only [cond_true, Bool.not_true, cond_false, Bool.and_self, Bool.true_and, cpS, cpD, cpB, lenK, Int.toNat_natCast, alS, drL_length]
      rw [valid_less hB.1 hj (show lenN sh j - n.natAbs ≤ lenN sh j by omega), cpL_congr (l := lenN sh j - n.natAbs) (f := fun i => ((n.toNat + i : Nat) : Int)) rfl (fun i hi => by rw [Int.toNat_natCast]; exact cp_drop ax.len_le hn2.1 hn2.2 hi)]
      rfl⟩

namespace laws_FnJoinAxis
noncomputable def E : Entry := ⟨3, true, false, fun | [.d (.ints .u8 bs)] => bytesB bs | _ => false, fun | [.d (.ints .u8 bs)] => ([.one ((.bool true), false)], []) | _ => ([], []), fun _ => [], false, fun _ => none⟩
end laws_FnJoinAxis
namespace laws_FnJoinAxis
noncomputable def X : List Entry := [spec_DrawJoinAxis.E, impl_JoinAxis.E, spec_JoinAxis.E, laws_equalArray.E, impl_TakeAxis.E, impl_DropAxis.E]
noncomputable def I : List Inl := [⟨3, Try.f3, ⟨[17, 25, 32, 64, 81], [], [], [(8, [1, 2, 4, 0, 3, 5, 6, 7, 8, 9, 10, 11, 12, 13]), (9, [0, 1, 2, 3, 4, 5, 6, 8, 9, 11, 7, 10, 12, 13, 15, 14, 16, 17, 18])], [], []⟩⟩]
theorem I_ok : ∀ i ∈ I, Try.prog.funcs[i.f]? = some i.fn ∧ (i.fn.name == "runtime.NumGoroutine") = false := by
  intro i hi
  simp only [I, List.mem_cons, List.not_mem_nil, or_false] at hi
  subst hi
  exact ⟨by kernel_rfl, by kernel_rfl⟩
theorem e (fuel : Nat) (p0 : List Int) : runF Try.prog X I 0 fuel 3 Try.f3 [.d (.ints .u8 p0)] =
  (bif (decide ((((p0.length : Nat) : Int) : Int) > 1048576)) then
  some ([.one ((.bool true), false)], [])
  else
  (bif bytesB p0 then
  (bif decide (((aArS (cutC p0) 0)).length < 9223372036854775808) && decide (((aArD (cutC p0) 0)).length < 9223372036854775808) && decide (((djS (cutC p0))).length < 9223372036854775808) && decide (((djD (cutC p0))).length < 9223372036854775808) then
  (bif decide (((aArS (cutC p0) 0)).length < 9223372036854775808) && decide (((aArD (cutC p0) 0)).length < 9223372036854775808) && decide (((djS (cutC p0))).length < 9223372036854775808) && decide (((djD (cutC p0))).length < 9223372036854775808) then
  (bif decide (((joS ((aArS (cutC p0) 0)) ((aArD (cutC p0) 0)) ((djS (cutC p0))) ((djD (cutC p0))) ((djK (cutC p0))))).length < 9223372036854775808) && decide (((joD ((aArS (cutC p0) 0)) ((aArD (cutC p0) 0)) ((djS (cutC p0))) ((djD (cutC p0))) ((djK (cutC p0))))).length < 9223372036854775808) && decide (((joS ((aArS (cutC p0) 0)) ((aArD (cutC p0) 0)) ((djS (cutC p0))) ((djD (cutC p0))) ((djK (cutC p0))))).length < 9223372036854775808) && decide (((joD ((aArS (cutC p0) 0)) ((aArD (cutC p0) 0)) ((djS (cutC p0))) ((djD (cutC p0))) ((djK (cutC p0))))).length < 9223372036854775808) then
  (bif (!(decide (((joS ((aArS (cutC p0) 0)) ((aArD (cutC p0) 0)) ((djS (cutC p0))) ((djD (cutC p0))) ((djK (cutC p0))))) = ((joS ((aArS (cutC p0) 0)) ((aArD (cutC p0) 0)) ((djS (cutC p0))) ((djD (cutC p0))) ((djK (cutC p0)))))) && decide (((joD ((aArS (cutC p0) 0)) ((aArD (cutC p0) 0)) ((djS (cutC p0))) ((djD (cutC p0))) ((djK (cutC p0))))) = ((joD ((aArS (cutC p0) 0)) ((aArD (cutC p0) 0)) ((djS (cutC p0))) ((djD (cutC p0))) ((djK (cutC p0)))))))) then
  (bif decide (((joS ((aArS (cutC p0) 0)) ((aArD (cutC p0) 0)) ((djS (cutC p0))) ((djD (cutC p0))) ((djK (cutC p0))))).length < 9223372036854775808) && decide (((joD ((aArS (cutC p0) 0)) ((aArD (cutC p0) 0)) ((djS (cutC p0))) ((djD (cutC p0))) ((djK (cutC p0))))).length < 9223372036854775808) && decide (((joS ((aArS (cutC p0) 0)) ((aArD (cutC p0) 0)) ((djS (cutC p0))) ((djD (cutC p0))) ((djK (cutC p0))))).length < 9223372036854775808) && decide (((joD ((aArS (cutC p0) 0)) ((aArD (cutC p0) 0)) ((djS (cutC p0))) ((djD (cutC p0))) ((djK (cutC p0))))).length < 9223372036854775808) then
  (bif (decide (((joS ((aArS (cutC p0) 0)) ((aArD (cutC p0) 0)) ((djS (cutC p0))) ((djD (cutC p0))) ((djK (cutC p0))))) = ((joS ((aArS (cutC p0) 0)) ((aArD (cutC p0) 0)) ((djS (cutC p0))) ((djD (cutC p0))) ((djK (cutC p0)))))) && decide (((joD ((aArS (cutC p0) 0)) ((aArD (cutC p0) 0)) ((djS (cutC p0))) ((djD (cutC p0))) ((djK (cutC p0))))) = ((joD ((aArS (cutC p0) 0)) ((aArD (cutC p0) 0)) ((djS (cutC p0))) ((djD (cutC p0))) ((djK (cutC p0))))))) then
  some ([.one ((.bool ((joB ((aArS (cutC p0) 0)) ((aArD (cutC p0) 0)) ((djS (cutC p0))) ((djD (cutC p0))) ((djK (cutC p0)))) == (joB ((aArS (cutC p0) 0)) ((aArD (cutC p0) 0)) ((djS (cutC p0))) ((djD (cutC p0))) ((djK (cutC p0)))))), false)], [])
  else
  some ([.one ((.bool false), false)], []))
  else
  none)
  else
  (bif (!((joB ((aArS (cutC p0) 0)) ((aArD (cutC p0) 0)) ((djS (cutC p0))) ((djD (cutC p0))) ((djK (cutC p0)))) == (joB ((aArS (cutC p0) 0)) ((aArD (cutC p0) 0)) ((djS (cutC p0))) ((djD (cutC p0))) ((djK (cutC p0)))))) then
  (bif decide (((joS ((aArS (cutC p0) 0)) ((aArD (cutC p0) 0)) ((djS (cutC p0))) ((djD (cutC p0))) ((djK (cutC p0))))).length < 9223372036854775808) && decide (((joD ((aArS (cutC p0) 0)) ((aArD (cutC p0) 0)) ((djS (cutC p0))) ((djD (cutC p0))) ((djK (cutC p0))))).length < 9223372036854775808) && decide (((joS ((aArS (cutC p0) 0)) ((aArD (cutC p0) 0)) ((djS (cutC p0))) ((djD (cutC p0))) ((djK (cutC p0))))).length < 9223372036854775808) && decide (((joD ((aArS (cutC p0) 0)) ((aArD (cutC p0) 0)) ((djS (cutC p0))) ((djD (cutC p0))) ((djK (cutC p0))))).length < 9223372036854775808) then
  (bif (decide (((joS ((aArS (cutC p0) 0)) ((aArD (cutC p0) 0)) ((djS (cutC p0))) ((djD (cutC p0))) ((djK (cutC p0))))) = ((joS ((aArS (cutC p0) 0)) ((aArD (cutC p0) 0)) ((djS (cutC p0))) ((djD (cutC p0))) ((djK (cutC p0)))))) && decide (((joD ((aArS (cutC p0) 0)) ((aArD (cutC p0) 0)) ((djS (cutC p0))) ((djD (cutC p0))) ((djK (cutC p0))))) = ((joD ((aArS (cutC p0) 0)) ((aArD (cutC p0) 0)) ((djS (cutC p0))) ((djD (cutC p0))) ((djK (cutC p0))))))) then
  some ([.one ((.bool ((joB ((aArS (cutC p0) 0)) ((aArD (cutC p0) 0)) ((djS (cutC p0))) ((djD (cutC p0))) ((djK (cutC p0)))) == (joB ((aArS (cutC p0) 0)) ((aArD (cutC p0) 0)) ((djS (cutC p0))) ((djD (cutC p0))) ((djK (cutC p0)))))), false)], [])
  else
  some ([.one ((.bool false), false)], []))
  else
  none)
  else
  (bif (!(joB ((aArS (cutC p0) 0)) ((aArD (cutC p0) 0)) ((djS (cutC p0))) ((djD (cutC p0))) ((djK (cutC p0))))) then
  (bif decide (((joS ((aArS (cutC p0) 0)) ((aArD (cutC p0) 0)) ((djS (cutC p0))) ((djD (cutC p0))) ((djK (cutC p0))))).length < 9223372036854775808) && decide (((joD ((aArS (cutC p0) 0)) ((aArD (cutC p0) 0)) ((djS (cutC p0))) ((djD (cutC p0))) ((djK (cutC p0))))).length < 9223372036854775808) && decide (((joS ((aArS (cutC p0) 0)) ((aArD (cutC p0) 0)) ((djS (cutC p0))) ((djD (cutC p0))) ((djK (cutC p0))))).length < 9223372036854775808) && decide (((joD ((aArS (cutC p0) 0)) ((aArD (cutC p0) 0)) ((djS (cutC p0))) ((djD (cutC p0))) ((djK (cutC p0))))).length < 9223372036854775808) then
  (bif (decide (((joS ((aArS (cutC p0) 0)) ((aArD (cutC p0) 0)) ((djS (cutC p0))) ((djD (cutC p0))) ((djK (cutC p0))))) = ((joS ((aArS (cutC p0) 0)) ((aArD (cutC p0) 0)) ((djS (cutC p0))) ((djD (cutC p0))) ((djK (cutC p0)))))) && decide (((joD ((aArS (cutC p0) 0)) ((aArD (cutC p0) 0)) ((djS (cutC p0))) ((djD (cutC p0))) ((djK (cutC p0))))) = ((joD ((aArS (cutC p0) 0)) ((aArD (cutC p0) 0)) ((djS (cutC p0))) ((djD (cutC p0))) ((djK (cutC p0))))))) then
  some ([.one ((.bool ((joB ((aArS (cutC p0) 0)) ((aArD (cutC p0) 0)) ((djS (cutC p0))) ((djD (cutC p0))) ((djK (cutC p0)))) == (joB ((aArS (cutC p0) 0)) ((aArD (cutC p0) 0)) ((djS (cutC p0))) ((djD (cutC p0))) ((djK (cutC p0)))))), false)], [])
  else
  some ([.one ((.bool false), false)], []))
  else
  none)
  else
  (idx (djK (cutC p0)) (aArS (cutC p0) 0).length).bind fun j1 =>
  ((aArS (cutC p0) 0)[j1]?).bind fun v2 =>
  (bif decide (((joS ((aArS (cutC p0) 0)) ((aArD (cutC p0) 0)) ((djS (cutC p0))) ((djD (cutC p0))) ((djK (cutC p0))))).length < 9223372036854775808) && decide (((joD ((aArS (cutC p0) 0)) ((aArD (cutC p0) 0)) ((djS (cutC p0))) ((djD (cutC p0))) ((djK (cutC p0))))).length < 9223372036854775808) then
  (bif (tkB ((joS ((aArS (cutC p0) 0)) ((aArD (cutC p0) 0)) ((djS (cutC p0))) ((djD (cutC p0))) ((djK (cutC p0))))) ((joD ((aArS (cutC p0) 0)) ((aArD (cutC p0) 0)) ((djS (cutC p0))) ((djD (cutC p0))) ((djK (cutC p0))))) ((djK (cutC p0))) v2) then
  (bif decide (((tkS ((joS ((aArS (cutC p0) 0)) ((aArD (cutC p0) 0)) ((djS (cutC p0))) ((djD (cutC p0))) ((djK (cutC p0))))) ((joD ((aArS (cutC p0) 0)) ((aArD (cutC p0) 0)) ((djS (cutC p0))) ((djD (cutC p0))) ((djK (cutC p0))))) ((djK (cutC p0))) v2)).length < 9223372036854775808) && decide (((tkD ((joS ((aArS (cutC p0) 0)) ((aArD (cutC p0) 0)) ((djS (cutC p0))) ((djD (cutC p0))) ((djK (cutC p0))))) ((joD ((aArS (cutC p0) 0)) ((aArD (cutC p0) 0)) ((djS (cutC p0))) ((djD (cutC p0))) ((djK (cutC p0))))) ((djK (cutC p0))) v2)).length < 9223372036854775808) && decide (((aArS (cutC p0) 0)).length < 9223372036854775808) && decide (((aArD (cutC p0) 0)).length < 9223372036854775808) then
  (bif (decide (((tkS ((joS ((aArS (cutC p0) 0)) ((aArD (cutC p0) 0)) ((djS (cutC p0))) ((djD (cutC p0))) ((djK (cutC p0))))) ((joD ((aArS (cutC p0) 0)) ((aArD (cutC p0) 0)) ((djS (cutC p0))) ((djD (cutC p0))) ((djK (cutC p0))))) ((djK (cutC p0))) v2)) = ((aArS (cutC p0) 0))) && decide (((tkD ((joS ((aArS (cutC p0) 0)) ((aArD (cutC p0) 0)) ((djS (cutC p0))) ((djD (cutC p0))) ((djK (cutC p0))))) ((joD ((aArS (cutC p0) 0)) ((aArD (cutC p0) 0)) ((djS (cutC p0))) ((djD (cutC p0))) ((djK (cutC p0))))) ((djK (cutC p0))) v2)) = ((aArD (cutC p0) 0)))) then
  (idx (djK (cutC p0)) (aArS (cutC p0) 0).length).bind fun j3 =>
  ((aArS (cutC p0) 0)[j3]?).bind fun v4 =>
  (bif decide (((joS ((aArS (cutC p0) 0)) ((aArD (cutC p0) 0)) ((djS (cutC p0))) ((djD (cutC p0))) ((djK (cutC p0))))).length < 9223372036854775808) && decide (((joD ((aArS (cutC p0) 0)) ((aArD (cutC p0) 0)) ((djS (cutC p0))) ((djD (cutC p0))) ((djK (cutC p0))))).length < 9223372036854775808) then
  (bif decide (((drS ((joS ((aArS (cutC p0) 0)) ((aArD (cutC p0) 0)) ((djS (cutC p0))) ((djD (cutC p0))) ((djK (cutC p0))))) ((joD ((aArS (cutC p0) 0)) ((aArD (cutC p0) 0)) ((djS (cutC p0))) ((djD (cutC p0))) ((djK (cutC p0))))) ((djK (cutC p0))) v4)).length < 9223372036854775808) && decide (((drD ((joS ((aArS (cutC p0) 0)) ((aArD (cutC p0) 0)) ((djS (cutC p0))) ((djD (cutC p0))) ((djK (cutC p0))))) ((joD ((aArS (cutC p0) 0)) ((aArD (cutC p0) 0)) ((djS (cutC p0))) ((djD (cutC p0))) ((djK (cutC p0))))) ((djK (cutC p0))) v4)).length < 9223372036854775808) && decide (((djS (cutC p0))).length < 9223372036854775808) && decide (((djD (cutC p0))).length < 9223372036854775808) then
  some ([.one ((.bool (decide (((drS ((joS ((aArS (cutC p0) 0)) ((aArD (cutC p0) 0)) ((djS (cutC p0))) ((djD (cutC p0))) ((djK (cutC p0))))) ((joD ((aArS (cutC p0) 0)) ((aArD (cutC p0) 0)) ((djS (cutC p0))) ((djD (cutC p0))) ((djK (cutC p0))))) ((djK (cutC p0))) v4)) = ((djS (cutC p0)))) && decide (((drD ((joS ((aArS (cutC p0) 0)) ((aArD (cutC p0) 0)) ((djS (cutC p0))) ((djD (cutC p0))) ((djK (cutC p0))))) ((joD ((aArS (cutC p0) 0)) ((aArD (cutC p0) 0)) ((djS (cutC p0))) ((djD (cutC p0))) ((djK (cutC p0))))) ((djK (cutC p0))) v4)) = ((djD (cutC p0)))))), false)], [])
  else
  none)
  else
  none)
  else
  some ([.one ((.bool false), false)], []))
  else
  none)
  else
  some ([.one ((.bool false), false)], []))
  else
  none))))
  else
  none)
  else
  none)
  else
  none)
  else
  none)) := by kernel_rfl
end laws_FnJoinAxis
theorem laws_FnJoinAxis.ok_of (hX : ∀ E ∈ laws_FnJoinAxis.X, CallSpec Try.prog E) (h : ∀ (bs : List Int), (bytesB bs) = true → ∃ fuel, runF Try.prog laws_FnJoinAxis.X laws_FnJoinAxis.I 0 fuel 3 Try.f3 [.d (.ints .u8 bs)] = some ([.one ((.bool true), false)], [])) : CallSpec Try.prog laws_FnJoinAxis.E :=
  callSpec_of (d := 0) hX (by kernel_rfl) laws_FnJoinAxis.I_ok (by kernel_rfl) (by kernel_rfl) (by kernel_rfl) (fun _ _ _ _ h => by dsimp only [laws_FnJoinAxis.E] at h; cases h) (fun xs hp => by
    dsimp only [laws_FnJoinAxis.E] at hp ⊢
    split at hp
    · exact h _ hp
    · cases hp)
theorem laws_FnJoinAxis.ok : CallSpec Try.prog laws_FnJoinAxis.E := laws_FnJoinAxis.ok_of (by simp [laws_FnJoinAxis.X, spec_DrawJoinAxis.ok, impl_JoinAxis.ok, spec_JoinAxis.ok, laws_equalArray.ok, impl_TakeAxis.ok, impl_DropAxis.ok]) fun bs h => by
  obtain ⟨F, hF⟩ : ∃ F : Nat, 4000 < F := ⟨4001, by omega⟩
  refine ⟨F, ?_⟩
  rw [laws_FnJoinAxis.e]
  by_cases hl : ((bs.length : Nat) : Int) > 1048576
  · rw [decide_eq_true hl]; rfl
  rw [decide_eq_false hl, cond_false, h, cond_true]
  have r0 := cut_ok h (p := 0) (by omega) (by omega)
  obtain ⟨b1, b2, a1, a2, _, _⟩ := dj_bd r0
  obtain ⟨sa, hsa⟩ : ∃ x, aArS (cutC bs) 0 = x := ⟨_, rfl⟩
  obtain ⟨da, hda⟩ : ∃ x, aArD (cutC bs) 0 = x := ⟨_, rfl⟩
  obtain ⟨sb, hsb⟩ : ∃ x, djS (cutC bs) = x := ⟨_, rfl⟩
  obtain ⟨db, hdb⟩ : ∃ x, djD (cutC bs) = x := ⟨_, rfl⟩
  obtain ⟨k, hk⟩ : ∃ x, djK (cutC bs) = x := ⟨_, rfl⟩
  rw [hsa] at a1
  rw [hda] at a2
  rw [hsb] at b1
  rw [hdb] at b2
  have g1 := lt_of (xs := sa) (by omega)
  have g2 := lt_of (xs := da) (by omega)
  have g3 := lt_of (xs := sb) (by omega)
  have g4 := lt_of (xs := db) (by omega)
  simp only [hsa, hda, hsb, hdb, hk]
  cases hb : joB sa da sb db k with
  | false =>
    have e0 : joS sa da sb db k = [] := by simp only [joS, hb, cond_false]
    have e1 : joD sa da sb db k = [] := by simp only [joD, hb, cond_false]
    have g0 : decide (([] : List Int).length < 9223372036854775808) = true := rfl
    simp only [Bool.and_self, Bool.and_true, Bool.true_and, cond_true, cond_false, Bool.not_true, Bool.not_false, bne_self_eq_false, beq_self_eq_true, decide_true, eq_self, g1, g2, g3, g4, e0, e1, g0]
  | true =>
    obtain ⟨j, rfl, o⟩ := joB_inv hb
    have f := jo_f o
    have e0 : joS sa da sb db (j : Int) = joSh sa sb j := by simp only [joS, hb, cond_true, Int.toNat_natCast]
    have e1 : joD sa da sb db (j : Int) = joN sa da sb db j := by simp only [joD, hb, cond_true, Int.toNat_natCast]
    have jl := validA_len f.val
    have g5 := lt_of (xs := joSh sa sb j) (by omega)
    have g6 := lt_of (xs := joN sa da sb db j) (by omega)
    have hxS : axB (joSh sa sb j) (joN sa da sb db j) (j : Int) = true := axB_of f.val (by rw [f.len]; exact o.la)
    have hLs := (ax_of o.vs (k := j) (by rw [f.len]; exact o.la)).len_le
    rw [f.ln] at hLs
    have hva := (validA_inv o.va).1
    have hvb := (validA_inv o.vb).1
    obtain ⟨t1, t2⟩ := jo_part1 (ls := tkL (lenN sa j + lenN sb j) ((lenN sa j : Nat) : Int)) o (by rw [tkL_length]; rfl) fun i hi => by
      rw [tk_get (by omega)]
      simp only [tkP, decide_eq_false (p := ((lenN sa j : Nat) : Int) < 0) (by omega), cond_false, Int.zero_add]
      rw [decide_eq_true (by omega), decide_eq_true (by omega)]; rfl
    obtain ⟨d1, d2⟩ := jo_part2 (ls := drL (lenN sa j + lenN sb j) ((lenN sa j : Nat) : Int)) o (by rw [drL_length]; omega) fun i hi => by
      rw [dr_get (by omega), Int.toNat_natCast]
    have hcb : cntB ((lenN sa j : Nat) : Int) = true := by simp only [cntB, Bool.and_eq_true, decide_eq_true_eq]; omega
    have k1 : tkB (joSh sa sb j) (joN sa da sb db j) (j : Int) ((lenN sa j : Nat) : Int) = true := by
      simp only [tkB, hxS, hcb, lenK, Int.toNat_natCast, f.ln, t1, hva, Bool.and_self]
    have k2 : tkS (joSh sa sb j) (joN sa da sb db j) (j : Int) ((lenN sa j : Nat) : Int) = sa := by
      simp only [tkS, k1, cond_true, lenK, Int.toNat_natCast, f.ln, t1]
    have k3 : tkD (joSh sa sb j) (joN sa da sb db j) (j : Int) ((lenN sa j : Nat) : Int) = da := by
      simp only [tkD, k1, cond_true, lenK, Int.toNat_natCast, f.ln, t2]
    have q1 : drB (joSh sa sb j) (joN sa da sb db j) (j : Int) ((lenN sa j : Nat) : Int) = true := by
      simp only [drB, hxS, hcb, Bool.and_self]
    have q2 : drS (joSh sa sb j) (joN sa da sb db j) (j : Int) ((lenN sa j : Nat) : Int) = sb := by
      simp only [drS, q1, cond_true, lenK, Int.toNat_natCast, f.ln, d1]
    have q3 : drD (joSh sa sb j) (joN sa da sb db j) (j : Int) ((lenN sa j : Nat) : Int) = db := by
      simp only [drD, q1, cond_true, lenK, Int.toNat_natCast, f.ln, d2]
    rw [idx_nat o.la]
    simp only [Bool.and_self, Bool.and_true, Bool.true_and, cond_true, cond_false, Bool.not_true, Bool.not_false, bne_self_eq_false, beq_self_eq_true, decide_true, eq_self, g1, g2, g3, g4, g5, g6, e0, e1, Option.bind_some, getD_get o.la, o.xa.len, k1, k2, k3, q2, q3]

namespace impl_ReverseAxis_1
noncomputable def E : Entry := ⟨45, true, false, fun | [.d (.int .i64 i), .d (.pbox [(.int .i64 c)])] => true | _ => false, fun | [.d (.int .i64 i), .d (.pbox [(.int .i64 c)])] => ([.one ((.int .i64 (revI c i)), false)], []) | _ => ([], []), fun _ => [], false, fun | [(.pbox [(.int .i64 c)])] => some (false, q1, (q1v (revI c))) | _ => none⟩
end impl_ReverseAxis_1
namespace impl_ReverseAxis_1
noncomputable def X : List Entry := []
noncomputable def I : List Inl := [⟨45, Try.f45, ⟨[], [], [], [], [], []⟩⟩]
theorem I_ok : ∀ i ∈ I, Try.prog.funcs[i.f]? = some i.fn ∧ (i.fn.name == "runtime.NumGoroutine") = false := by
  intro i hi
  simp only [I, List.mem_cons, List.not_mem_nil, or_false] at hi
  subst hi
  exact ⟨by kernel_rfl, by kernel_rfl⟩
theorem e (fuel : Nat) (p0 : Int) (f0q0 : Int) : runF Try.prog X I 0 fuel 45 Try.f45 [.d (.int .i64 p0), .d (.pbox [(.int .i64 f0q0)])] =
  some ([.one ((.int .i64 (IntKind.wrap .i64 ((IntKind.wrap .i64 (f0q0 - 1)) - p0))), false)], []) := by kernel_rfl
end impl_ReverseAxis_1
theorem impl_ReverseAxis_1.ok_of (hX : ∀ E ∈ impl_ReverseAxis_1.X, CallSpec Try.prog E) (hfn : ∀ ds rb dom G, impl_ReverseAxis_1.E.fnOf ds = some (rb, dom, G) → ∀ qs, dom qs = true → impl_ReverseAxis_1.E.m ((qs.map fun q => .d q.d) ++ ds.map .d) = some ([.one (fnD rb (G qs), false)], [])) (h : ∀ (i : Int) (c : Int), (true) = true → ∃ fuel, runF Try.prog impl_ReverseAxis_1.X impl_ReverseAxis_1.I 0 fuel 45 Try.f45 [.d (.int .i64 i), .d (.pbox [(.int .i64 c)])] = some ([.one ((.int .i64 (revI c i)), false)], [])) : CallSpec Try.prog impl_ReverseAxis_1.E :=
  callSpec_of (d := 0) hX (by kernel_rfl) impl_ReverseAxis_1.I_ok (by kernel_rfl) (by kernel_rfl) (by kernel_rfl) hfn (fun xs hp => by
    dsimp only [impl_ReverseAxis_1.E] at hp ⊢
    split at hp
    · exact h _ _ hp
    · cases hp)
theorem impl_ReverseAxis_1.ok : CallSpec Try.prog impl_ReverseAxis_1.E := impl_ReverseAxis_1.ok_of (by simp [impl_ReverseAxis_1.X]) (fun ds rb dom G h qs hq => by
  dsimp only [impl_ReverseAxis_1.E] at h
  split at h
  case h_2 => cases h
  cases h
  match qs, hq with
  | [.i n], _ => rfl) fun i c _ => ⟨0, by rw [impl_ReverseAxis_1.e]; rfl⟩

namespace impl_ReverseAxis
noncomputable def E : Entry := ⟨15, false, false, fun | [.d (.agg [(.ints .i64 sh), (.ints .i64 da)]), .d (.int .i64 k)] => decide (sh.length < 9223372036854775808) && decide (da.length < 9223372036854775808) | _ => false, fun | [.d (.agg [(.ints .i64 sh), (.ints .i64 da)]), .d (.int .i64 k)] => ([.agg [((.ints .i64 (revS sh da k)), true), ((.ints .i64 (revD sh da k)), true)]], []) | _ => ([], []), fun _ => [], true, fun _ => none⟩
end impl_ReverseAxis
namespace impl_ReverseAxis
noncomputable def X : List Entry := [impl_axisLength.E, impl_ReverseAxis_1.E, impl_view_copied.E]
noncomputable def I : List Inl := [⟨15, Try.f15, ⟨[26], [], [(4, [5])], [], [], []⟩⟩]
theorem I_ok : ∀ i ∈ I, Try.prog.funcs[i.f]? = some i.fn ∧ (i.fn.name == "runtime.NumGoroutine") = false := by
  intro i hi
  simp only [I, List.mem_cons, List.not_mem_nil, or_false] at hi
  subst hi
  exact ⟨by kernel_rfl, by kernel_rfl⟩
theorem e (fuel : Nat) (p0q0 : List Int) (p0q1 : List Int) (p1 : Int) : runF Try.prog X I 0 fuel 15 Try.f15 [.d (.agg [(.ints .i64 p0q0), (.ints .i64 p0q1)]), .d (.int .i64 p1)] =
  (bif decide (p0q0.length < 9223372036854775808) && decide (p0q1.length < 9223372036854775808) then
  (bif (!(axB p0q0 p0q1 p1)) then
  some ([.agg [((.ints .i64 []), true), ((.ints .i64 []), true)]], [])
  else
  (bif axB p0q0 p0q1 p1 && domB ((axL p0q0 p0q1 p1)) q1 then
  some ([.agg [((.ints .i64 (cpS p0q0 p1 ((axL p0q0 p0q1 p1)))), true), ((.ints .i64 (cpD p0q0 p0q1 p1 ((axL p0q0 p0q1 p1)) ((q1v (revI ((axL p0q0 p0q1 p1))))))), true)]], [])
  else
  none))
  else
  none) := by kernel_rfl
end impl_ReverseAxis
theorem impl_ReverseAxis.ok_of (hX : ∀ E ∈ impl_ReverseAxis.X, CallSpec Try.prog E) (h : ∀ (sh : List Int) (da : List Int) (k : Int), (decide (sh.length < 9223372036854775808) && decide (da.length < 9223372036854775808)) = true → ∃ fuel, runF Try.prog impl_ReverseAxis.X impl_ReverseAxis.I 0 fuel 15 Try.f15 [.d (.agg [(.ints .i64 sh), (.ints .i64 da)]), .d (.int .i64 k)] = some ([.agg [((.ints .i64 (revS sh da k)), true), ((.ints .i64 (revD sh da k)), true)]], [])) : CallSpec Try.prog impl_ReverseAxis.E :=
  callSpec_of (d := 0) hX (by kernel_rfl) impl_ReverseAxis.I_ok (by kernel_rfl) (by kernel_rfl) (by kernel_rfl) (fun _ _ _ _ h => by dsimp only [impl_ReverseAxis.E] at h; cases h) (fun xs hp => by
    dsimp only [impl_ReverseAxis.E] at hp ⊢
    split at hp
    · exact h _ _ _ hp
    · cases hp)
theorem impl_ReverseAxis.ok : CallSpec Try.prog impl_ReverseAxis.E := impl_ReverseAxis.ok_of (by simp [impl_ReverseAxis.X, impl_axisLength.ok, impl_ReverseAxis_1.ok, impl_view_copied.ok]) fun sh da k h => ⟨0, by
  rw [impl_ReverseAxis.e, h]
  unfold revS revD
  cases hb : axB sh da k with
  | false => rfl
  | true =>
    obtain ⟨j, rfl, hj, hv, ax, hd, hl⟩ := axB_inv hb
    have hB := validA_inv hv
    rw [hl, domB_q1]
    simp only [cond_true, Bool.not_true, cond_false, Bool.and_self, cpS, cpD, cpB, lenK, Int.toNat_natCast]
    rw [set_len ax, hB.1, cpL_congr (l := lenN sh j) (f := fun i => ((lenN sh j - 1 - i : Nat) : Int)) rfl (fun i hi => by rw [Int.toNat_natCast]; exact cp_rev ax.len_le hi)]
    rfl⟩

end Go.Ab
