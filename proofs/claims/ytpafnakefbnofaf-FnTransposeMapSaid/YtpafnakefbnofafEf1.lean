import Derived.Test.YtpafnakefbnofafEfp
import Derived.Test.YtpafnakefbnofafProg
import Derived.Test.YtpafnakefbnofafChecked
open Go Go.Ab Go.Proofs
set_option maxRecDepth 100000
set_option linter.unusedVariables false
set_option linter.unusedSimpArgs false
namespace Go.Ab
namespace spec_newReader
noncomputable def E : Entry := ⟨41, false, false, fun | [.d (.ints .u8 bs)] => true | _ => false, fun | [.d (.ints .u8 bs)] => ([.box [((.ints .u8 (cutC bs)), false), ((.int .i64 0), false)]], []) | _ => ([], []), fun _ => [], true, fun _ => none⟩
end spec_newReader
namespace spec_newReader
noncomputable def X : List Entry := []
noncomputable def I : List Inl := [⟨41, Try.f41, ⟨[], [], [], [], [], []⟩⟩]
theorem I_ok : ∀ i ∈ I, Try.prog.funcs[i.f]? = some i.fn ∧ (i.fn.name == "runtime.NumGoroutine") = false := by
  intro i hi
  simp only [I, List.mem_cons, List.not_mem_nil, or_false] at hi
  subst hi
  exact ⟨by kernel_rfl, by kernel_rfl⟩
theorem e (fuel : Nat) (p0 : List Int) : runF Try.prog X I 0 fuel 41 Try.f41 [.d (.ints .u8 p0)] =
  (bif (decide ((((p0.length : Nat) : Int) : Int) > 2000)) then
  (cutEnds p0.length (none) (some (.imm (.int .i64 2000)))).bind fun cq1 =>
  some ([.box [((.ints .u8 ((p0.drop cq1.1).take (cq1.2 - cq1.1))), false), ((.int .i64 0), false)]], [])
  else
  some ([.box [((.ints .u8 p0), false), ((.int .i64 0), false)]], [])) := by kernel_rfl
end spec_newReader
theorem spec_newReader.ok_of (hX : ∀ E ∈ spec_newReader.X, CallSpec Try.prog E) (h : ∀ (bs : List Int), (true) = true → ∃ fuel, runF Try.prog spec_newReader.X spec_newReader.I 0 fuel 41 Try.f41 [.d (.ints .u8 bs)] = some ([.box [((.ints .u8 (cutC bs)), false), ((.int .i64 0), false)]], [])) : CallSpec Try.prog spec_newReader.E :=
  callSpec_of (d := 0) hX (by kernel_rfl) spec_newReader.I_ok (by kernel_rfl) (by kernel_rfl) (by kernel_rfl) (fun _ _ _ _ h => by dsimp only [spec_newReader.E] at h; cases h) (fun xs hp => by
    dsimp only [spec_newReader.E] at hp ⊢
    split at hp
    · exact h _ hp
    · cases hp)
theorem spec_newReader.ok : CallSpec Try.prog spec_newReader.E := spec_newReader.ok_of (by simp [spec_newReader.X]) fun bs _ => ⟨0, by
  rw [spec_newReader.e]
  unfold cutC
  by_cases h : ((bs.length : Nat) : Int) > 2000
  · rw [decide_eq_true h]
    have : cutEnds bs.length none (some (.imm (.int .i64 2000))) = some (0, 2000) := by
      unfold cutEnds
      simp only
      rw [if_pos ⟨by omega, by omega⟩]
      rfl
    rw [this]
    rfl
  · rw [decide_eq_false h]
    rfl⟩

namespace spec_reader_pick
noncomputable def E : Entry := ⟨59, false, false, fun | [.box [(.ints .u8 bs), (.int .i64 p)], .d (.int .i64 n)] => rdOk bs p && decide ((n : Int) ≤ 1048576) | _ => false, fun | [.box [(.ints .u8 bs), (.int .i64 p)], .d (.int .i64 n)] => ([.one ((.int .i64 (pickV bs p n)), false)], [[(.ints .u8 bs), (.int .i64 (p + 1))]]) | _ => ([], []), fun _ => [], false, fun _ => none⟩
end spec_reader_pick
namespace spec_reader_pick
noncomputable def X : List Entry := []
noncomputable def I : List Inl := [⟨59, Try.f59, ⟨[], [], [], [(7, [0, 1, 2, 4, 5, 6, 7, 15, 16, 17, 19, 20, 21, 22, 23, 24, 33, 34, 36, 37, 38, 39, 3, 8, 9, 10, 11, 12, 13, 14, 18, 25, 26, 27, 28, 29, 30, 31, 32, 35, 40, 41, 42, 43, 44, 45])], [], []⟩⟩]
theorem I_ok : ∀ i ∈ I, Try.prog.funcs[i.f]? = some i.fn ∧ (i.fn.name == "runtime.NumGoroutine") = false := by
  intro i hi
  simp only [I, List.mem_cons, List.not_mem_nil, or_false] at hi
  subst hi
  exact ⟨by kernel_rfl, by kernel_rfl⟩
theorem e (fuel : Nat) (p0q0 : List Int) (p0q1 : Int) (p1 : Int) : runF Try.prog X I 0 fuel 59 Try.f59 [.box [(.ints .u8 p0q0), (.int .i64 p0q1)], .d (.int .i64 p1)] =
  (bif (decide ((p1 : Int) < 1)) then
  some ([.one ((.int .i64 0), false)], [[(.ints .u8 p0q0), (.int .i64 (IntKind.wrap .i64 (p0q1 + 1)))]])
  else
  (bif ((((p0q0.length : Nat) : Int) : Int) == 0) then
  some ([.one ((.int .i64 0), false)], [[(.ints .u8 p0q0), (.int .i64 (IntKind.wrap .i64 (p0q1 + 1)))]])
  else
  (bif (decide (((IntKind.wrap .i64 ((IntKind.wrap .i64 (p0q1 + 1)) - 1)) : Int) < ((p0q0.length : Nat) : Int))) then
  (idx (IntKind.wrap .i64 ((IntKind.wrap .i64 (p0q1 + 1)) - 1)) p0q0.length).bind fun j1 =>
  (p0q0[j1]?).bind fun v2 =>
  (bif decide ((p1 : Int) = 0) then
  none
  else
  some ([.one ((.int .i64 (Int.tmod (IntKind.wrap .i64 v2) p1)), false)], [[(.ints .u8 p0q0), (.int .i64 (IntKind.wrap .i64 (p0q1 + 1)))]]))
  else
  (bif decide ((((p0q0.length : Nat) : Int) : Int) = 0) then
  none
  else
  (idx (Int.tmod (IntKind.wrap .i64 ((IntKind.wrap .i64 (p0q1 + 1)) - 1)) ((p0q0.length : Nat) : Int)) p0q0.length).bind fun j3 =>
  (p0q0[j3]?).bind fun v4 =>
  (bif decide ((((p0q0.length : Nat) : Int) : Int) = 0) then
  none
  else
  (idx (Int.tmod (IntKind.wrap .i64 ((IntKind.wrap .i64 ((IntKind.wrap .i64 ((IntKind.wrap .i64 (p0q1 + 1)) - 1)) * 7)) + 3)) ((p0q0.length : Nat) : Int)) p0q0.length).bind fun j5 =>
  (p0q0[j5]?).bind fun v6 =>
  (bif decide ((((p0q0.length : Nat) : Int) : Int) = 0) then
  none
  else
  (bif decide ((p1 : Int) = 0) then
  none
  else
  some ([.one ((.int .i64 (Int.tmod (IntKind.wrap .i64 ((BitVec.ofInt (IntKind.bits .i64) (IntKind.wrap .i64 ((IntKind.wrap .i64 ((IntKind.wrap .i64 ((IntKind.wrap .i64 ((IntKind.wrap .i64 v4) * 131)) + (IntKind.wrap .i64 ((IntKind.wrap .i64 v6) * 1117)))) + (IntKind.wrap .i64 ((IntKind.wrap .i64 ((IntKind.wrap .i64 (p0q1 + 1)) - 1)) * 29)))) + (IntKind.wrap .i64 ((IntKind.wrap .i64 (Int.tdiv (IntKind.wrap .i64 ((IntKind.wrap .i64 (p0q1 + 1)) - 1)) ((p0q0.length : Nat) : Int))) * 53)))) ^^^ BitVec.ofInt (IntKind.bits .i64) (IntKind.wrap .i64 (Int.tdiv (IntKind.wrap .i64 ((IntKind.wrap .i64 ((IntKind.wrap .i64 ((IntKind.wrap .i64 ((IntKind.wrap .i64 v4) * 131)) + (IntKind.wrap .i64 ((IntKind.wrap .i64 v6) * 1117)))) + (IntKind.wrap .i64 ((IntKind.wrap .i64 ((IntKind.wrap .i64 (p0q1 + 1)) - 1)) * 29)))) + (IntKind.wrap .i64 ((IntKind.wrap .i64 (Int.tdiv (IntKind.wrap .i64 ((IntKind.wrap .i64 (p0q1 + 1)) - 1)) ((p0q0.length : Nat) : Int))) * 53)))) 64))).toNat : Int)) p1)), false)], [[(.ints .u8 p0q0), (.int .i64 (IntKind.wrap .i64 (p0q1 + 1)))]])))))))) := by kernel_rfl
end spec_reader_pick
theorem spec_reader_pick.ok_of (hX : ∀ E ∈ spec_reader_pick.X, CallSpec Try.prog E) (h : ∀ (bs : List Int) (p : Int) (n : Int), (rdOk bs p && decide ((n : Int) ≤ 1048576)) = true → ∃ fuel, runF Try.prog spec_reader_pick.X spec_reader_pick.I 0 fuel 59 Try.f59 [.box [(.ints .u8 bs), (.int .i64 p)], .d (.int .i64 n)] = some ([.one ((.int .i64 (pickV bs p n)), false)], [[(.ints .u8 bs), (.int .i64 (p + 1))]])) : CallSpec Try.prog spec_reader_pick.E :=
  callSpec_of (d := 0) hX (by kernel_rfl) spec_reader_pick.I_ok (by kernel_rfl) (by kernel_rfl) (by kernel_rfl) (fun _ _ _ _ h => by dsimp only [spec_reader_pick.E] at h; cases h) (fun xs hp => by
    dsimp only [spec_reader_pick.E] at hp ⊢
    split at hp
    · exact h _ _ _ hp
    · cases hp)
theorem spec_reader_pick.ok : CallSpec Try.prog spec_reader_pick.E := spec_reader_pick.ok_of (by simp [spec_reader_pick.X]) fun bs p n h => ⟨0, by
  simp only [Bool.and_eq_true, decide_eq_true_eq] at h
  obtain ⟨h0, h1, h2, h3⟩ := rdOk_inv h.1
  have hP := @wS (p + 1) (by omega) (by omega)
  have hK := @wS (p + 1 - 1) (by omega) (by omega)
  rw [show p + 1 - 1 = p by omega] at hK
  rw [spec_reader_pick.e]
  simp only [hP, show p + 1 - 1 = p by omega, hK]
  unfold pickV
  by_cases hn : n < 1
  · rw [decide_eq_true hn]; rfl
  rw [decide_eq_false hn, cond_false, cond_false]
  by_cases hL : bs.length = 0
  · rw [show (((bs.length : Nat) : Int) == 0) = true by simp [hL]]; rfl
  rw [beq0 hL, cond_false, cond_false]
  by_cases hp : p < ((bs.length : Nat) : Int)
  · have hlt : p.toNat < bs.length := by omega
    have hi : idx p bs.length = some p.toNat := by unfold idx; rw [if_pos ⟨h0, hp⟩]
    rw [decide_eq_true hp, hi, decide_eq_false (p := n = 0) (by omega)]
    simp [hlt]
  · have t1 := tmod_bd (x := p) (n := ((bs.length : Nat) : Int)) h0 (by omega)
    have e7 := @wS (p * 7) (by omega) (by omega)
    have e8 := @wS (p * 7 + 3) (by omega) (by omega)
    have t2 := tmod_bd (x := p * 7 + 3) (n := ((bs.length : Nat) : Int)) (by omega) (by omega)
    have i1 : idx (Int.tmod p ((bs.length : Nat) : Int)) bs.length = some (Int.tmod p ((bs.length : Nat) : Int)).toNat := by unfold idx; rw [if_pos t1]
    have i2 : idx (Int.tmod (p * 7 + 3) ((bs.length : Nat) : Int)) bs.length = some (Int.tmod (p * 7 + 3) ((bs.length : Nat) : Int)).toNat := by unfold idx; rw [if_pos t2]
    have g1 : (Int.tmod p ((bs.length : Nat) : Int)).toNat < bs.length := by omega
    have g2 : (Int.tmod (p * 7 + 3) ((bs.length : Nat) : Int)).toNat < bs.length := by omega
    have q1 : bs[(Int.tmod p ((bs.length : Nat) : Int)).toNat]? = some (bs.getD (Int.tmod p ((bs.length : Nat) : Int)).toNat 0) := by simp [g1]
    have q2 : bs[(Int.tmod (p * 7 + 3) ((bs.length : Nat) : Int)).toNat]? = some (bs.getD (Int.tmod (p * 7 + 3) ((bs.length : Nat) : Int)).toNat 0) := by simp [g2]
    rw [decide_eq_false hp, decide_eq_false (p := (((bs.length : Nat) : Int) = 0)) (by omega), decide_eq_false (p := n = 0) (by omega), e7, e8, i1, i2]
    simp only [cond_false, Option.bind_some, q1, q2]
    rfl⟩

namespace spec_someShape
noncomputable def E : Entry := ⟨73, false, false, fun | [.box [(.ints .u8 bs), (.int .i64 p)]] => rdOk bs p && decide ((p : Int) ≤ 2000000) | _ => false, fun | [.box [(.ints .u8 bs), (.int .i64 p)]] => ([.one ((.ints .i64 (sShV bs p)), true)], [[(.ints .u8 bs), (.int .i64 (sShP bs p))]]) | _ => ([], []), fun _ => [], false, fun _ => none⟩
end spec_someShape
namespace spec_someShape
noncomputable def X : List Entry := [spec_reader_pick.E]
noncomputable def I : List Inl := [⟨73, Try.f73, ⟨[], [], [], [], [], []⟩⟩]
theorem I_ok : ∀ i ∈ I, Try.prog.funcs[i.f]? = some i.fn ∧ (i.fn.name == "runtime.NumGoroutine") = false := by
  intro i hi
  simp only [I, List.mem_cons, List.not_mem_nil, or_false] at hi
  subst hi
  exact ⟨by kernel_rfl, by kernel_rfl⟩
theorem e (fuel : Nat) (p0q0 : List Int) (p0q1 : Int) : runF Try.prog X I 0 fuel 73 Try.f73 [.box [(.ints .u8 p0q0), (.int .i64 p0q1)]] =
  (bif rdOk p0q0 p0q1 && decide ((8 : Int) ≤ 1048576) then
  (bif (((pickV p0q0 p0q1 8) : Int) == 0) then
  some ([.one ((.ints .i64 []), true)], [[(.ints .u8 p0q0), (.int .i64 (p0q1 + 1))]])
  else
  (bif (((pickV p0q0 p0q1 8) : Int) == 1) then
  (bif rdOk p0q0 ((p0q1 + 1)) && decide ((7 : Int) ≤ 1048576) then
  some ([.one ((.ints .i64 [(pickV p0q0 ((p0q1 + 1)) 7)]), true)], [[(.ints .u8 p0q0), (.int .i64 (((p0q1 + 1)) + 1))]])
  else
  none)
  else
  (bif (((pickV p0q0 p0q1 8) : Int) == 2) then
  (bif rdOk p0q0 ((p0q1 + 1)) && decide ((7 : Int) ≤ 1048576) then
  some ([.one ((.ints .i64 [(pickV p0q0 ((p0q1 + 1)) 7)]), true)], [[(.ints .u8 p0q0), (.int .i64 (((p0q1 + 1)) + 1))]])
  else
  none)
  else
  (bif (((pickV p0q0 p0q1 8) : Int) == 3) then
  (bif rdOk p0q0 ((p0q1 + 1)) && decide ((7 : Int) ≤ 1048576) then
  some ([.one ((.ints .i64 [(pickV p0q0 ((p0q1 + 1)) 7)]), true)], [[(.ints .u8 p0q0), (.int .i64 (((p0q1 + 1)) + 1))]])
  else
  none)
  else
  (bif (((pickV p0q0 p0q1 8) : Int) == 4) then
  (bif rdOk p0q0 ((p0q1 + 1)) && decide ((5 : Int) ≤ 1048576) then
  (bif rdOk p0q0 ((((p0q1 + 1)) + 1)) && decide ((5 : Int) ≤ 1048576) then
  some ([.one ((.ints .i64 [(pickV p0q0 ((p0q1 + 1)) 5), (pickV p0q0 ((((p0q1 + 1)) + 1)) 5)]), true)], [[(.ints .u8 p0q0), (.int .i64 (((((p0q1 + 1)) + 1)) + 1))]])
  else
  none)
  else
  none)
  else
  (bif (((pickV p0q0 p0q1 8) : Int) == 5) then
  (bif rdOk p0q0 ((p0q1 + 1)) && decide ((5 : Int) ≤ 1048576) then
  (bif rdOk p0q0 ((((p0q1 + 1)) + 1)) && decide ((5 : Int) ≤ 1048576) then
  some ([.one ((.ints .i64 [(pickV p0q0 ((p0q1 + 1)) 5), (pickV p0q0 ((((p0q1 + 1)) + 1)) 5)]), true)], [[(.ints .u8 p0q0), (.int .i64 (((((p0q1 + 1)) + 1)) + 1))]])
  else
  none)
  else
  none)
  else
  (bif (((pickV p0q0 p0q1 8) : Int) == 6) then
  (bif rdOk p0q0 ((p0q1 + 1)) && decide ((5 : Int) ≤ 1048576) then
  (bif rdOk p0q0 ((((p0q1 + 1)) + 1)) && decide ((5 : Int) ≤ 1048576) then
  some ([.one ((.ints .i64 [(pickV p0q0 ((p0q1 + 1)) 5), (pickV p0q0 ((((p0q1 + 1)) + 1)) 5)]), true)], [[(.ints .u8 p0q0), (.int .i64 (((((p0q1 + 1)) + 1)) + 1))]])
  else
  none)
  else
  none)
  else
  (bif rdOk p0q0 ((p0q1 + 1)) && decide ((4 : Int) ≤ 1048576) then
  (bif rdOk p0q0 ((((p0q1 + 1)) + 1)) && decide ((4 : Int) ≤ 1048576) then
  (bif rdOk p0q0 ((((((p0q1 + 1)) + 1)) + 1)) && decide ((4 : Int) ≤ 1048576) then
  some ([.one ((.ints .i64 [(pickV p0q0 ((p0q1 + 1)) 4), (pickV p0q0 ((((p0q1 + 1)) + 1)) 4), (pickV p0q0 ((((((p0q1 + 1)) + 1)) + 1)) 4)]), true)], [[(.ints .u8 p0q0), (.int .i64 (((((((p0q1 + 1)) + 1)) + 1)) + 1))]])
  else
  none)
  else
  none)
  else
  none))))))))
  else
  none) := by kernel_rfl
end spec_someShape
theorem spec_someShape.ok_of (hX : ∀ E ∈ spec_someShape.X, CallSpec Try.prog E) (h : ∀ (bs : List Int) (p : Int), (rdOk bs p && decide ((p : Int) ≤ 2000000)) = true → ∃ fuel, runF Try.prog spec_someShape.X spec_someShape.I 0 fuel 73 Try.f73 [.box [(.ints .u8 bs), (.int .i64 p)]] = some ([.one ((.ints .i64 (sShV bs p)), true)], [[(.ints .u8 bs), (.int .i64 (sShP bs p))]])) : CallSpec Try.prog spec_someShape.E :=
  callSpec_of (d := 0) hX (by kernel_rfl) spec_someShape.I_ok (by kernel_rfl) (by kernel_rfl) (by kernel_rfl) (fun _ _ _ _ h => by dsimp only [spec_someShape.E] at h; cases h) (fun xs hp => by
    dsimp only [spec_someShape.E] at hp ⊢
    split at hp
    · exact h _ _ hp
    · cases hp)
theorem spec_someShape.ok : CallSpec Try.prog spec_someShape.E := spec_someShape.ok_of (by simp [spec_someShape.X, spec_reader_pick.ok]) fun bs p h => ⟨0, by
  simp only [Bool.and_eq_true, decide_eq_true_eq] at h
  have r0 := h.1
  have r1 := rd_le (q := p + 1) h.1 (by omega) (by omega)
  have r2 := rd_le (q := p + 1 + 1) h.1 (by omega) (by omega)
  have r3 := rd_le (q := p + 1 + 1 + 1) h.1 (by omega) (by omega)
  rw [spec_someShape.e, r0, r1, r2, r3]
  unfold sShV sShP
  cases pickV bs p 8 == 0 <;> cases pickV bs p 8 == 1 <;> cases pickV bs p 8 == 2 <;> cases pickV bs p 8 == 3 <;> cases pickV bs p 8 == 4 <;> cases pickV bs p 8 == 5 <;> cases pickV bs p 8 == 6 <;> rfl⟩

namespace spec_volume
noncomputable def E : Entry := ⟨54, true, false, fun | [.d (.ints .i64 xs)] => decide (xs.length < 9223372036854775808) | _ => false, fun | [.d (.ints .i64 xs)] => ([.one ((.int .i64 (volW xs)), false)], []) | _ => ([], []), fun _ => [], false, fun _ => none⟩
end spec_volume
namespace spec_volume
noncomputable def X : List Entry := []
noncomputable def I : List Inl := [⟨54, Try.f54, ⟨[], [(1000003, [1, 2, 5, 6, 7, 8, 9, 10, 11, 12, 13, 14, 15, 16, 17])], [], [], [], []⟩⟩]
theorem I_ok : ∀ i ∈ I, Try.prog.funcs[i.f]? = some i.fn ∧ (i.fn.name == "runtime.NumGoroutine") = false := by
  intro i hi
  simp only [I, List.mem_cons, List.not_mem_nil, or_false] at hi
  subst hi
  exact ⟨by kernel_rfl, by kernel_rfl⟩
noncomputable abbrev L0 (fuel n : Nat) (s : St) (k : Kont) := lAt Try.prog X I fuel true 0 false 54 (bodyOf Try.f54) [1, 1, 0, 1, 0] n s k
noncomputable abbrev k0  (fuel : Nat) : Kont := (kAt Try.prog X I fuel true 0 false 54 (bodyOf Try.f54) [1, 1, 0, 1, 0] [] (endK Try.prog Try.f54))
noncomputable def t0 (p0 : List Int) (x0q1 : Int) (x0q2 : Int) : St := ⟨[(.imm (.ints .i64 p0)), .dead, .dead, (.imm (.int .i64 x0q1)), (.imm (.int .i64 x0q2)), .dead, .dead, .dead, .dead, .dead, .dead, .dead, .dead, .dead, .dead, .dead, .dead, .dead], hOf [], [], []⟩
theorem e (fuel : Nat) (p0 : List Int) : runF Try.prog X I 0 fuel 54 Try.f54 [.d (.ints .i64 p0)] =
  L0 fuel fuel (t0 p0 1 0) (k0  fuel) := by kernel_rfl
theorem s0 (fuel n0 : Nat) (p0 : List Int) (x0q1 : Int) (x0q2 : Int) : L0 fuel (n0 + 1) (t0 p0 x0q1 x0q2) (k0  fuel) =
  (bif (decide ((x0q2 : Int) < ((p0.length : Nat) : Int))) then
  (idx x0q2 p0.length).bind fun j5 =>
  (p0[j5]?).bind fun v6 =>
  L0 fuel n0 (t0 p0 ((IntKind.wrap .i64 (x0q1 * v6))) ((IntKind.wrap .i64 (x0q2 + 1)))) (k0  fuel)
  else
  some ([.one ((.int .i64 x0q1), false)], [])) := by kernel_rfl
end spec_volume
theorem spec_volume.ok_of (hX : ∀ E ∈ spec_volume.X, CallSpec Try.prog E) (h : ∀ (xs : List Int), (decide (xs.length < 9223372036854775808)) = true → ∃ fuel, runF Try.prog spec_volume.X spec_volume.I 0 fuel 54 Try.f54 [.d (.ints .i64 xs)] = some ([.one ((.int .i64 (volW xs)), false)], [])) : CallSpec Try.prog spec_volume.E :=
  callSpec_of (d := 0) hX (by kernel_rfl) spec_volume.I_ok (by kernel_rfl) (by kernel_rfl) (by kernel_rfl) (fun _ _ _ _ h => by dsimp only [spec_volume.E] at h; cases h) (fun xs hp => by
    dsimp only [spec_volume.E] at hp ⊢
    split at hp
    · exact h _ hp
    · cases hp)
theorem spec_volume.loop (fuel : Nat) (xs : List Int) (hx : xs.length < 9223372036854775808) : ∀ (m n j : Nat) (a : Int), xs.length - j = m → m < n → j ≤ xs.length →
    spec_volume.L0 fuel n (spec_volume.t0 xs a (j : Int)) (spec_volume.k0 fuel) = some ([.one (.int .i64 (volFrom (xs.drop j) a), false)], []) := by
  intro m
  induction m with
  | zero =>
    intro n j a h1 h2 h3
    obtain ⟨n, rfl⟩ : ∃ n', n = n' + 1 := ⟨n - 1, by omega⟩
    have hj : ¬ j < xs.length := by omega
    rw [spec_volume.s0, dge hj, dropE hj]
    rfl
  | succ m ih =>
    intro n j a h1 h2 h3
    obtain ⟨n, rfl⟩ : ∃ n', n = n' + 1 := ⟨n - 1, by omega⟩
    have hj : j < xs.length := by omega
    rw [spec_volume.s0, dlt hj, idx_nat hj, w1 (by omega), dropS hj]
    simp only [cond_true, Option.bind_some, getS hj, volFrom]
    exact ih n (j + 1) _ (by omega) (by omega) (by omega)

theorem spec_volume.ok : CallSpec Try.prog spec_volume.E := spec_volume.ok_of (by simp [spec_volume.X]) fun xs h => by
  simp only [decide_eq_true_eq] at h
  refine ⟨xs.length + 1, ?_⟩
  rw [spec_volume.e]
  exact spec_volume.loop (xs.length + 1) xs h xs.length (xs.length + 1) 0 1 (by omega) (by omega) (by omega)

namespace spec_reader_one
noncomputable def E : Entry := ⟨61, false, false, fun | [.box [(.ints .u8 bs), (.int .i64 p)], .d (.ints .i64 xs)] => rdOk bs p && decide (0 < (xs : List Int).length) && decide ((xs : List Int).length ≤ 1048576) | _ => false, fun | [.box [(.ints .u8 bs), (.int .i64 p)], .d (.ints .i64 xs)] => ([.one ((.int .i64 (oneV bs p xs)), false)], [[(.ints .u8 bs), (.int .i64 (p + 1))]]) | _ => ([], []), fun _ => [], false, fun _ => none⟩
end spec_reader_one
namespace spec_reader_one
noncomputable def X : List Entry := [spec_reader_pick.E]
noncomputable def I : List Inl := [⟨61, Try.f61, ⟨[], [], [], [], [], []⟩⟩]
theorem I_ok : ∀ i ∈ I, Try.prog.funcs[i.f]? = some i.fn ∧ (i.fn.name == "runtime.NumGoroutine") = false := by
  intro i hi
  simp only [I, List.mem_cons, List.not_mem_nil, or_false] at hi
  subst hi
  exact ⟨by kernel_rfl, by kernel_rfl⟩
theorem e (fuel : Nat) (p0q0 : List Int) (p0q1 : Int) (p1 : List Int) : runF Try.prog X I 0 fuel 61 Try.f61 [.box [(.ints .u8 p0q0), (.int .i64 p0q1)], .d (.ints .i64 p1)] =
  (bif rdOk p0q0 p0q1 && decide (((((p1.length : Nat) : Int)) : Int) ≤ 1048576) then
  (idx (pickV p0q0 p0q1 (((p1.length : Nat) : Int))) p1.length).bind fun j1 =>
  (p1[j1]?).bind fun v2 =>
  some ([.one ((.int .i64 v2), false)], [[(.ints .u8 p0q0), (.int .i64 (p0q1 + 1))]])
  else
  none) := by kernel_rfl
end spec_reader_one
theorem spec_reader_one.ok_of (hX : ∀ E ∈ spec_reader_one.X, CallSpec Try.prog E) (h : ∀ (bs : List Int) (p : Int) (xs : List Int), (rdOk bs p && decide (0 < (xs : List Int).length) && decide ((xs : List Int).length ≤ 1048576)) = true → ∃ fuel, runF Try.prog spec_reader_one.X spec_reader_one.I 0 fuel 61 Try.f61 [.box [(.ints .u8 bs), (.int .i64 p)], .d (.ints .i64 xs)] = some ([.one ((.int .i64 (oneV bs p xs)), false)], [[(.ints .u8 bs), (.int .i64 (p + 1))]])) : CallSpec Try.prog spec_reader_one.E :=
  callSpec_of (d := 0) hX (by kernel_rfl) spec_reader_one.I_ok (by kernel_rfl) (by kernel_rfl) (by kernel_rfl) (fun _ _ _ _ h => by dsimp only [spec_reader_one.E] at h; cases h) (fun xs hp => by
    dsimp only [spec_reader_one.E] at hp ⊢
    split at hp
    · exact h _ _ _ hp
    · cases hp)
theorem spec_reader_one.ok : CallSpec Try.prog spec_reader_one.E := spec_reader_one.ok_of (by simp [spec_reader_one.X, spec_reader_pick.ok]) fun bs p xs h => ⟨0, by
  simp only [Bool.and_eq_true, decide_eq_true_eq] at h
  have hb := pick_bd (n := ((xs.length : Nat) : Int)) h.1.1 (by omega)
  have hi : idx (pickV bs p ((xs.length : Nat) : Int)) xs.length = some (pickV bs p ((xs.length : Nat) : Int)).toNat := by unfold idx; rw [if_pos hb]
  have g : (pickV bs p ((xs.length : Nat) : Int)).toNat < xs.length := by omega
  rw [spec_reader_one.e, h.1.1, decide_eq_true (p := (((xs.length : Nat) : Int) ≤ 1048576)) (by omega), hi]
  unfold oneV
  simp [g]⟩

namespace spec_someNum
noncomputable def E : Entry := ⟨75, false, false, fun | [.box [(.ints .u8 bs), (.int .i64 p)]] => rdOk bs p | _ => false, fun | [.box [(.ints .u8 bs), (.int .i64 p)]] => ([.one ((.int .i64 (oneV bs p someL)), false)], [[(.ints .u8 bs), (.int .i64 (p + 1))]]) | _ => ([], []), fun _ => [], false, fun _ => none⟩
end spec_someNum
namespace spec_someNum
noncomputable def X : List Entry := [spec_reader_one.E]
noncomputable def I : List Inl := [⟨75, Try.f75, ⟨[], [], [], [], [4], []⟩⟩]
theorem I_ok : ∀ i ∈ I, Try.prog.funcs[i.f]? = some i.fn ∧ (i.fn.name == "runtime.NumGoroutine") = false := by
  intro i hi
  simp only [I, List.mem_cons, List.not_mem_nil, or_false] at hi
  subst hi
  exact ⟨by kernel_rfl, by kernel_rfl⟩
theorem e (fuel : Nat) (p0q0 : List Int) (p0q1 : Int) : runF Try.prog X I 0 fuel 75 Try.f75 [.box [(.ints .u8 p0q0), (.int .i64 p0q1)]] =
  (bif rdOk p0q0 p0q1 && decide (0 < (([0, 1, 2, 3, (-1), 5, 7, (-4), 1000000, (-1000000), 10, 1]) : List Int).length) && decide ((([0, 1, 2, 3, (-1), 5, 7, (-4), 1000000, (-1000000), 10, 1]) : List Int).length ≤ 1048576) then
  some ([.one ((.int .i64 (oneV p0q0 p0q1 ([0, 1, 2, 3, (-1), 5, 7, (-4), 1000000, (-1000000), 10, 1]))), false)], [[(.ints .u8 p0q0), (.int .i64 (p0q1 + 1))]])
  else
  none) := by kernel_rfl
end spec_someNum
theorem spec_someNum.ok_of (hX : ∀ E ∈ spec_someNum.X, CallSpec Try.prog E) (h : ∀ (bs : List Int) (p : Int), (rdOk bs p) = true → ∃ fuel, runF Try.prog spec_someNum.X spec_someNum.I 0 fuel 75 Try.f75 [.box [(.ints .u8 bs), (.int .i64 p)]] = some ([.one ((.int .i64 (oneV bs p someL)), false)], [[(.ints .u8 bs), (.int .i64 (p + 1))]])) : CallSpec Try.prog spec_someNum.E :=
  callSpec_of (d := 0) hX (by kernel_rfl) spec_someNum.I_ok (by kernel_rfl) (by kernel_rfl) (by kernel_rfl) (fun _ _ _ _ h => by dsimp only [spec_someNum.E] at h; cases h) (fun xs hp => by
    dsimp only [spec_someNum.E] at hp ⊢
    split at hp
    · exact h _ _ hp
    · cases hp)
theorem spec_someNum.ok : CallSpec Try.prog spec_someNum.E := spec_someNum.ok_of (by simp [spec_someNum.X, spec_reader_one.ok]) fun bs p h => ⟨0, by
  rw [spec_someNum.e, h]
  rfl⟩

namespace spec_copyInts
noncomputable def E : Entry := ⟨57, false, false, fun | [.d (.ints .i64 xs)] => szB xs | _ => false, fun | [.d (.ints .i64 xs)] => ([.one ((.ints .i64 xs), true)], []) | _ => ([], []), fun _ => [], true, fun _ => none⟩
end spec_copyInts
namespace spec_copyInts
noncomputable def X : List Entry := []
noncomputable def I : List Inl := [⟨57, Try.f57, ⟨[], [], [], [], [], []⟩⟩]
theorem I_ok : ∀ i ∈ I, Try.prog.funcs[i.f]? = some i.fn ∧ (i.fn.name == "runtime.NumGoroutine") = false := by
  intro i hi
  simp only [I, List.mem_cons, List.not_mem_nil, or_false] at hi
  subst hi
  exact ⟨by kernel_rfl, by kernel_rfl⟩
theorem e (fuel : Nat) (p0 : List Int) : runF Try.prog X I 0 fuel 57 Try.f57 [.d (.ints .i64 p0)] =
  (bif fits (([] : List Int).length + p0.length) 8 then
  some ([.one ((.ints .i64 (([] : List Int) ++ p0)), true)], [])
  else
  none) := by kernel_rfl
end spec_copyInts
theorem spec_copyInts.ok_of (hX : ∀ E ∈ spec_copyInts.X, CallSpec Try.prog E) (h : ∀ (xs : List Int), (szB xs) = true → ∃ fuel, runF Try.prog spec_copyInts.X spec_copyInts.I 0 fuel 57 Try.f57 [.d (.ints .i64 xs)] = some ([.one ((.ints .i64 xs), true)], [])) : CallSpec Try.prog spec_copyInts.E :=
  callSpec_of (d := 0) hX (by kernel_rfl) spec_copyInts.I_ok (by kernel_rfl) (by kernel_rfl) (by kernel_rfl) (fun _ _ _ _ h => by dsimp only [spec_copyInts.E] at h; cases h) (fun xs hp => by
    dsimp only [spec_copyInts.E] at hp ⊢
    split at hp
    · exact h _ hp
    · cases hp)
theorem spec_copyInts.ok : CallSpec Try.prog spec_copyInts.E := spec_copyInts.ok_of (by simp [spec_copyInts.X]) fun xs h => ⟨0, by
  have hx := szB_le h
  rw [spec_copyInts.e, fitsOk (by simp; omega)]
  rfl⟩

namespace spec_make1
noncomputable def E : Entry := ⟨34, false, false, fun | [.d (.ints .i64 sh), .d (.ints .i64 da)] => szB sh && szB da | _ => false, fun | [.d (.ints .i64 sh), .d (.ints .i64 da)] => ([.agg [((.ints .i64 sh), true), ((.ints .i64 da), true)]], []) | _ => ([], []), fun _ => [], true, fun _ => none⟩
end spec_make1
namespace spec_make1
noncomputable def X : List Entry := [spec_copyInts.E]
noncomputable def I : List Inl := [⟨34, Try.f34, ⟨[6, 8], [], [], [], [], []⟩⟩]
theorem I_ok : ∀ i ∈ I, Try.prog.funcs[i.f]? = some i.fn ∧ (i.fn.name == "runtime.NumGoroutine") = false := by
  intro i hi
  simp only [I, List.mem_cons, List.not_mem_nil, or_false] at hi
  subst hi
  exact ⟨by kernel_rfl, by kernel_rfl⟩
theorem e (fuel : Nat) (p0 : List Int) (p1 : List Int) : runF Try.prog X I 0 fuel 34 Try.f34 [.d (.ints .i64 p0), .d (.ints .i64 p1)] =
  (bif szB p0 then
  (bif szB p1 then
  some ([.agg [((.ints .i64 p0), true), ((.ints .i64 p1), true)]], [])
  else
  none)
  else
  none) := by kernel_rfl
end spec_make1
theorem spec_make1.ok_of (hX : ∀ E ∈ spec_make1.X, CallSpec Try.prog E) (h : ∀ (sh : List Int) (da : List Int), (szB sh && szB da) = true → ∃ fuel, runF Try.prog spec_make1.X spec_make1.I 0 fuel 34 Try.f34 [.d (.ints .i64 sh), .d (.ints .i64 da)] = some ([.agg [((.ints .i64 sh), true), ((.ints .i64 da), true)]], [])) : CallSpec Try.prog spec_make1.E :=
  callSpec_of (d := 0) hX (by kernel_rfl) spec_make1.I_ok (by kernel_rfl) (by kernel_rfl) (by kernel_rfl) (fun _ _ _ _ h => by dsimp only [spec_make1.E] at h; cases h) (fun xs hp => by
    dsimp only [spec_make1.E] at hp ⊢
    split at hp
    · exact h _ _ hp
    · cases hp)
theorem spec_make1.ok : CallSpec Try.prog spec_make1.E := spec_make1.ok_of (by simp [spec_make1.X, spec_copyInts.ok]) fun sh da h => ⟨0, by
  simp only [Bool.and_eq_true] at h
  rw [spec_make1.e, h.1, h.2]
  rfl⟩

namespace spec_fill
noncomputable def E : Entry := ⟨72, false, false, fun | [.box [(.ints .u8 bs), (.int .i64 p)], .d (.ints .i64 sh)] => rdOk bs p && decide ((p : Int) ≤ 2000000) && validS sh | _ => false, fun | [.box [(.ints .u8 bs), (.int .i64 p)], .d (.ints .i64 sh)] => ([.agg [((.ints .i64 sh), true), ((.ints .i64 (fillV bs p sh)), true)]], [[(.ints .u8 bs), (.int .i64 (p + volW sh))]]) | _ => ([], []), fun _ => [], false, fun _ => none⟩
end spec_fill
namespace spec_fill
noncomputable def X : List Entry := [spec_volume.E, spec_someNum.E, spec_make1.E]
noncomputable def I : List Inl := [⟨72, Try.f72, ⟨[21], [(1000003, [2, 3, 7, 8, 9, 10, 11, 12, 13, 14, 15, 16, 17, 18, 19, 20, 21])], [], [], [], []⟩⟩]
theorem I_ok : ∀ i ∈ I, Try.prog.funcs[i.f]? = some i.fn ∧ (i.fn.name == "runtime.NumGoroutine") = false := by
  intro i hi
  simp only [I, List.mem_cons, List.not_mem_nil, or_false] at hi
  subst hi
  exact ⟨by kernel_rfl, by kernel_rfl⟩
noncomputable abbrev L0 (fuel n : Nat) (s : St) (k : Kont) := lAt Try.prog X I fuel false 0 false 72 (bodyOf Try.f72) [1, 1, 0, 1, 0] n s k
noncomputable abbrev k0  (fuel : Nat) : Kont := (kAt Try.prog X I fuel false 0 false 72 (bodyOf Try.f72) [1, 1, 0, 1, 0] [] (endK Try.prog Try.f72))
noncomputable def t0 (p1 : List Int) (p0q0 : List Int) (x0q1 : Int) (x0q3 : Int) (x0q4 : List Int) : St := ⟨[(.ptr 1000000000 0 0), (.imm (.ints .i64 p1)), .dead, .dead, (.ptr 1000000001 0 0), (.all 1000000002 1), (.imm (.int .i64 x0q1)), .dead, .dead, .dead, .dead, .dead, .dead, .dead, .dead, .dead, .dead, .dead, .dead, .dead, .dead, .dead], hOf [(1000000000, (.box [(.imm (.ints .u8 p0q0)), (.imm (.int .i64 x0q3))])), (1000000001, (.box [(.imm .nils), (.imm .nils)])), (1000000002, (.ints .i64 x0q4))], [(.ptr 1000000000 0 0)], []⟩
theorem e (fuel : Nat) (p0q0 : List Int) (p0q1 : Int) (p1 : List Int) : runF Try.prog X I 0 fuel 72 Try.f72 [.box [(.ints .u8 p0q0), (.int .i64 p0q1)], .d (.ints .i64 p1)] =
  L0 fuel fuel (t0 p1 p0q0 0 p0q1 ([])) (k0  fuel) := by kernel_rfl
theorem s0 (fuel n0 : Nat) (p1 : List Int) (p0q0 : List Int) (x0q1 : Int) (x0q3 : Int) (x0q4 : List Int) : L0 fuel (n0 + 1) (t0 p1 p0q0 x0q1 x0q3 x0q4) (k0  fuel) =
  (bif decide (p1.length < 9223372036854775808) then
  (bif (decide ((x0q1 : Int) < (volW p1))) then
  (bif rdOk p0q0 x0q3 then
  (bif fits (x0q4.length + ([(oneV p0q0 x0q3 someL)] : List Int).length) 8 then
  L0 fuel n0 (t0 p1 p0q0 ((IntKind.wrap .i64 (x0q1 + 1))) ((x0q3 + 1)) ((x0q4 ++ [(oneV p0q0 x0q3 someL)]))) (k0  fuel)
  else
  none)
  else
  none)
  else
  (bif szB p1 && szB x0q4 then
  some ([.agg [((.ints .i64 p1), true), ((.ints .i64 x0q4), true)]], [[(.ints .u8 p0q0), (.int .i64 x0q3)]])
  else
  none))
  else
  none) := by kernel_rfl
end spec_fill
theorem spec_fill.ok_of (hX : ∀ E ∈ spec_fill.X, CallSpec Try.prog E) (h : ∀ (bs : List Int) (p : Int) (sh : List Int), (rdOk bs p && decide ((p : Int) ≤ 2000000) && validS sh) = true → ∃ fuel, runF Try.prog spec_fill.X spec_fill.I 0 fuel 72 Try.f72 [.box [(.ints .u8 bs), (.int .i64 p)], .d (.ints .i64 sh)] = some ([.agg [((.ints .i64 sh), true), ((.ints .i64 (fillV bs p sh)), true)]], [[(.ints .u8 bs), (.int .i64 (p + volW sh))]])) : CallSpec Try.prog spec_fill.E :=
  callSpec_of (d := 0) hX (by kernel_rfl) spec_fill.I_ok (by kernel_rfl) (by kernel_rfl) (by kernel_rfl) (fun _ _ _ _ h => by dsimp only [spec_fill.E] at h; cases h) (fun xs hp => by
    dsimp only [spec_fill.E] at hp ⊢
    split at hp
    · exact h _ _ _ hp
    · cases hp)
theorem spec_fill.loop (fuel : Nat) (bs : List Int) (p : Int) (sh : List Int) (h : rdOk bs p = true) (hp : p ≤ 2000000) (hv : validS sh = true) : ∀ (m n j : Nat) (out : List Int), (volW sh).toNat - j = m → m < n → j ≤ (volW sh).toNat → out = tab j (fun i => oneV bs (p + ((i : Nat) : Int)) someL) →
    spec_fill.L0 fuel n (spec_fill.t0 sh bs (j : Int) (p + (j : Int)) out) (spec_fill.k0 fuel) = some ([.agg [(.ints .i64 sh, true), (.ints .i64 (fillV bs p sh), true)]], [[(.ints .u8 bs), (.int .i64 (p + volW sh))]]) := by
  have hl := (validS_inv hv).1
  have hb := vol_bd hv
  intro m
  induction m with
  | zero =>
    intro n j out h1 h2 h3 h4
    obtain ⟨n, rfl⟩ : ∃ n', n = n' + 1 := ⟨n - 1, by omega⟩
    have ho : out.length = j := by rw [h4, tab_length]
    rw [spec_fill.s0, decide_eq_true (p := sh.length < 9223372036854775808) (by omega), decide_eq_false (p := (j : Int) < volW sh) (by omega), szB_of (xs := sh) (by omega), szB_of (xs := out) (by omega), h4, show p + (j : Int) = p + volW sh by omega, show j = (volW sh).toNat by omega]
    rfl
  | succ m ih =>
    intro n j out h1 h2 h3 h4
    obtain ⟨n, rfl⟩ : ∃ n', n = n' + 1 := ⟨n - 1, by omega⟩
    have ho : out.length = j := by rw [h4, tab_length]
    rw [spec_fill.s0, decide_eq_true (p := sh.length < 9223372036854775808) (by omega), decide_eq_true (p := (j : Int) < volW sh) (by omega), rd_le (q := p + (j : Int)) h (by omega) (by omega), fitsOk (by simp; omega), w1 (by omega), show p + (j : Int) + 1 = p + ((j + 1 : Nat) : Int) by omega]
    exact ih n (j + 1) _ (by omega) (by omega) (by omega) (by rw [tab_succ, h4])
theorem spec_fill.ok : CallSpec Try.prog spec_fill.E := spec_fill.ok_of (by simp [spec_fill.X, spec_volume.ok, spec_someNum.ok, spec_make1.ok]) fun bs p sh h => by
  simp only [Bool.and_eq_true, decide_eq_true_eq] at h
  have hb := vol_bd h.2
  obtain ⟨F, hF⟩ : ∃ F : Nat, 60 < F := ⟨61, by omega⟩
  refine ⟨F, ?_⟩
  have := spec_fill.loop F bs p sh h.1.1 h.1.2 h.2 _ F 0 [] rfl (by omega) (by omega) rfl
  rw [spec_fill.e]
  rw [show p + ((0 : Nat) : Int) = p by omega] at this
  exact this

namespace spec_someArray
noncomputable def E : Entry := ⟨58, false, false, fun | [.box [(.ints .u8 bs), (.int .i64 p)]] => rdOk bs p && decide ((p : Int) ≤ 1000000) | _ => false, fun | [.box [(.ints .u8 bs), (.int .i64 p)]] => ([.agg [((.ints .i64 (sShV bs p)), true), ((.ints .i64 (sDaV bs p)), true)]], [[(.ints .u8 bs), (.int .i64 (sDaP bs p))]]) | _ => ([], []), fun _ => [], false, fun _ => none⟩
end spec_someArray
namespace spec_someArray
noncomputable def X : List Entry := [spec_someShape.E, spec_fill.E]
noncomputable def I : List Inl := [⟨58, Try.f58, ⟨[6], [], [], [], [], []⟩⟩]
theorem I_ok : ∀ i ∈ I, Try.prog.funcs[i.f]? = some i.fn ∧ (i.fn.name == "runtime.NumGoroutine") = false := by
  intro i hi
  simp only [I, List.mem_cons, List.not_mem_nil, or_false] at hi
  subst hi
  exact ⟨by kernel_rfl, by kernel_rfl⟩
theorem e (fuel : Nat) (p0q0 : List Int) (p0q1 : Int) : runF Try.prog X I 0 fuel 58 Try.f58 [.box [(.ints .u8 p0q0), (.int .i64 p0q1)]] =
  (bif rdOk p0q0 p0q1 && decide ((p0q1 : Int) ≤ 2000000) then
  (bif rdOk p0q0 ((sShP p0q0 p0q1)) && decide ((((sShP p0q0 p0q1)) : Int) ≤ 2000000) && validS ((sShV p0q0 p0q1)) then
  some ([.agg [((.ints .i64 ((sShV p0q0 p0q1))), true), ((.ints .i64 (fillV p0q0 ((sShP p0q0 p0q1)) ((sShV p0q0 p0q1)))), true)]], [[(.ints .u8 p0q0), (.int .i64 (((sShP p0q0 p0q1)) + volW ((sShV p0q0 p0q1))))]])
  else
  none)
  else
  none) := by kernel_rfl
end spec_someArray
theorem spec_someArray.ok_of (hX : ∀ E ∈ spec_someArray.X, CallSpec Try.prog E) (h : ∀ (bs : List Int) (p : Int), (rdOk bs p && decide ((p : Int) ≤ 1000000)) = true → ∃ fuel, runF Try.prog spec_someArray.X spec_someArray.I 0 fuel 58 Try.f58 [.box [(.ints .u8 bs), (.int .i64 p)]] = some ([.agg [((.ints .i64 (sShV bs p)), true), ((.ints .i64 (sDaV bs p)), true)]], [[(.ints .u8 bs), (.int .i64 (sDaP bs p))]])) : CallSpec Try.prog spec_someArray.E :=
  callSpec_of (d := 0) hX (by kernel_rfl) spec_someArray.I_ok (by kernel_rfl) (by kernel_rfl) (by kernel_rfl) (fun _ _ _ _ h => by dsimp only [spec_someArray.E] at h; cases h) (fun xs hp => by
    dsimp only [spec_someArray.E] at hp ⊢
    split at hp
    · exact h _ _ hp
    · cases hp)
theorem spec_someArray.ok : CallSpec Try.prog spec_someArray.E := spec_someArray.ok_of (by simp [spec_someArray.X, spec_someShape.ok, spec_fill.ok]) fun bs p h => ⟨0, by
  simp only [Bool.and_eq_true, decide_eq_true_eq] at h
  have b := sShP_bd bs p
  have hs := sShV_ok h.1 (by omega)
  rw [spec_someArray.e, h.1, rd_le (q := sShP bs p) h.1 (by omega) (by omega), decide_eq_true (p := p ≤ 2000000) (by omega), decide_eq_true (p := sShP bs p ≤ 2000000) (by omega), hs]
  rfl⟩

namespace spec_anyShape
noncomputable def E : Entry := ⟨60, false, false, fun | [.box [(.ints .u8 bs), (.int .i64 p)]] => rdOk bs p && decide ((p : Int) ≤ 2000000) | _ => false, fun | [.box [(.ints .u8 bs), (.int .i64 p)]] => ([.one ((.ints .i64 (aShV bs p)), true)], [[(.ints .u8 bs), (.int .i64 (sShP bs p + 1))]]) | _ => ([], []), fun _ => [], false, fun _ => none⟩
end spec_anyShape
namespace spec_anyShape
noncomputable def X : List Entry := [spec_someShape.E, spec_reader_pick.E]
noncomputable def I : List Inl := [⟨60, Try.f60, ⟨[5], [], [], [], [], []⟩⟩]
theorem I_ok : ∀ i ∈ I, Try.prog.funcs[i.f]? = some i.fn ∧ (i.fn.name == "runtime.NumGoroutine") = false := by
  intro i hi
  simp only [I, List.mem_cons, List.not_mem_nil, or_false] at hi
  subst hi
  exact ⟨by kernel_rfl, by kernel_rfl⟩
theorem e (fuel : Nat) (p0q0 : List Int) (p0q1 : Int) : runF Try.prog X I 0 fuel 60 Try.f60 [.box [(.ints .u8 p0q0), (.int .i64 p0q1)]] =
  (bif rdOk p0q0 p0q1 && decide ((p0q1 : Int) ≤ 2000000) then
  (bif rdOk p0q0 ((sShP p0q0 p0q1)) && decide ((24 : Int) ≤ 1048576) then
  (bif (((pickV p0q0 ((sShP p0q0 p0q1)) 24) : Int) == 0) then
  (bif fits ((sShV p0q0 p0q1).length + ([61] : List Int).length) 8 then
  some ([.one ((.ints .i64 ((sShV p0q0 p0q1) ++ [61])), true)], [[(.ints .u8 p0q0), (.int .i64 (((sShP p0q0 p0q1)) + 1))]])
  else
  none)
  else
  (bif (((pickV p0q0 ((sShP p0q0 p0q1)) 24) : Int) == 1) then
  some ([.one ((.ints .i64 [4, 4, 4]), true)], [[(.ints .u8 p0q0), (.int .i64 (((sShP p0q0 p0q1)) + 1))]])
  else
  (bif (((pickV p0q0 ((sShP p0q0 p0q1)) 24) : Int) == 2) then
  some ([.one ((.ints .i64 [1, 1, 1, 1]), true)], [[(.ints .u8 p0q0), (.int .i64 (((sShP p0q0 p0q1)) + 1))]])
  else
  (bif (((pickV p0q0 ((sShP p0q0 p0q1)) 24) : Int) == 3) then
  (bif fits ((sShV p0q0 p0q1).length + ([(-1)] : List Int).length) 8 then
  some ([.one ((.ints .i64 ((sShV p0q0 p0q1) ++ [(-1)])), true)], [[(.ints .u8 p0q0), (.int .i64 (((sShP p0q0 p0q1)) + 1))]])
  else
  none)
  else
  some ([.one ((.ints .i64 (sShV p0q0 p0q1)), true)], [[(.ints .u8 p0q0), (.int .i64 (((sShP p0q0 p0q1)) + 1))]])))))
  else
  none)
  else
  none) := by kernel_rfl
end spec_anyShape
theorem spec_anyShape.ok_of (hX : ∀ E ∈ spec_anyShape.X, CallSpec Try.prog E) (h : ∀ (bs : List Int) (p : Int), (rdOk bs p && decide ((p : Int) ≤ 2000000)) = true → ∃ fuel, runF Try.prog spec_anyShape.X spec_anyShape.I 0 fuel 60 Try.f60 [.box [(.ints .u8 bs), (.int .i64 p)]] = some ([.one ((.ints .i64 (aShV bs p)), true)], [[(.ints .u8 bs), (.int .i64 (sShP bs p + 1))]])) : CallSpec Try.prog spec_anyShape.E :=
  callSpec_of (d := 0) hX (by kernel_rfl) spec_anyShape.I_ok (by kernel_rfl) (by kernel_rfl) (by kernel_rfl) (fun _ _ _ _ h => by dsimp only [spec_anyShape.E] at h; cases h) (fun xs hp => by
    dsimp only [spec_anyShape.E] at hp ⊢
    split at hp
    · exact h _ _ hp
    · cases hp)
theorem spec_anyShape.ok : CallSpec Try.prog spec_anyShape.E := spec_anyShape.ok_of (by simp [spec_anyShape.X, spec_someShape.ok, spec_reader_pick.ok]) fun bs p h => ⟨0, by
  have h' := h
  simp only [Bool.and_eq_true, decide_eq_true_eq] at h'
  have b := sShP_bd bs p
  have r1 := rd_le (q := sShP bs p) h'.1 (by omega) (by omega)
  have l := (validS_inv (sShV_ok h'.1 h'.2)).1
  rw [spec_anyShape.e, h, r1, fitsOk (by simp; omega), fitsOk (by simp; omega)]
  unfold aShV
  cases pickV bs (sShP bs p) 24 == 0 <;> cases pickV bs (sShP bs p) 24 == 1 <;> cases pickV bs (sShP bs p) 24 == 2 <;> cases pickV bs (sShP bs p) 24 == 3 <;> rfl⟩

namespace spec_reader_spoil
noncomputable def E : Entry := ⟨43, false, false, fun | [.box [(.ints .u8 bs), (.int .i64 p)], .d (.ints .i64 xs), .d (.int .i64 n)] => rdOk bs p && decide ((p : Int) ≤ 2000000) && decide ((xs : List Int).length ≤ 1000000) | _ => false, fun | [.box [(.ints .u8 bs), (.int .i64 p)], .d (.ints .i64 xs), .d (.int .i64 n)] => ([.one ((.ints .i64 (spV bs p xs n)), false)], [[(.ints .u8 bs), (.int .i64 (spP bs p xs))]]) | _ => ([], []), fun _ => [], false, fun _ => none⟩
end spec_reader_spoil
namespace spec_reader_spoil
noncomputable def X : List Entry := [spec_copyInts.E, spec_reader_pick.E, spec_reader_one.E]
noncomputable def I : List Inl := [⟨43, Try.f43, ⟨[9], [], [(7, [7]), (11, [7])], [], [37], []⟩⟩]
theorem I_ok : ∀ i ∈ I, Try.prog.funcs[i.f]? = some i.fn ∧ (i.fn.name == "runtime.NumGoroutine") = false := by
  intro i hi
  simp only [I, List.mem_cons, List.not_mem_nil, or_false] at hi
  subst hi
  exact ⟨by kernel_rfl, by kernel_rfl⟩
theorem e (fuel : Nat) (p0q0 : List Int) (p0q1 : Int) (p1 : List Int) (p2 : Int) : runF Try.prog X I 0 fuel 43 Try.f43 [.box [(.ints .u8 p0q0), (.int .i64 p0q1)], .d (.ints .i64 p1), .d (.int .i64 p2)] =
  (bif szB p1 then
  (bif rdOk p0q0 p0q1 && decide ((20 : Int) ≤ 1048576) then
  (bif (((pickV p0q0 p0q1 20) : Int) == 0) then
  (bif fits (p1.length + ([p2] : List Int).length) 8 then
  some ([.one ((.ints .i64 (p1 ++ [p2])), false)], [[(.ints .u8 p0q0), (.int .i64 (p0q1 + 1))]])
  else
  none)
  else
  (bif (((pickV p0q0 p0q1 20) : Int) == 1) then
  (bif (decide ((((p1.length : Nat) : Int) : Int) > 0)) then
  (cutEnds p1.length (some (.imm (.int .i64 1))) (none)).bind fun cq1 =>
  some ([.one ((.ints .i64 ((p1.drop cq1.1).take (cq1.2 - cq1.1))), false)], [[(.ints .u8 p0q0), (.int .i64 (p0q1 + 1))]])
  else
  some ([.one ((.ints .i64 p1), false)], [[(.ints .u8 p0q0), (.int .i64 (p0q1 + 1))]]))
  else
  (bif (((pickV p0q0 p0q1 20) : Int) == 2) then
  (bif (decide ((((p1.length : Nat) : Int) : Int) > 0)) then
  (bif rdOk p0q0 ((p0q1 + 1)) && decide (((((p1.length : Nat) : Int)) : Int) ≤ 1048576) then
  (bif rdOk p0q0 ((((p0q1 + 1)) + 1)) && decide (0 < (([(-1), p2, 0, 1]) : List Int).length) && decide ((([(-1), p2, 0, 1]) : List Int).length ≤ 1048576) then
  (idx (pickV p0q0 ((p0q1 + 1)) (((p1.length : Nat) : Int))) p1.length).bind fun j2 =>
  (bif decide (j2 < p1.length) then
  some ([.one ((.ints .i64 (p1.set j2 (oneV p0q0 ((((p0q1 + 1)) + 1)) ([(-1), p2, 0, 1])))), false)], [[(.ints .u8 p0q0), (.int .i64 (((((p0q1 + 1)) + 1)) + 1))]])
  else
  none)
  else
  none)
  else
  none)
  else
  some ([.one ((.ints .i64 p1), false)], [[(.ints .u8 p0q0), (.int .i64 (p0q1 + 1))]]))
  else
  some ([.one ((.ints .i64 p1), false)], [[(.ints .u8 p0q0), (.int .i64 (p0q1 + 1))]]))))
  else
  none)
  else
  none) := by kernel_rfl
end spec_reader_spoil
theorem spec_reader_spoil.ok_of (hX : ∀ E ∈ spec_reader_spoil.X, CallSpec Try.prog E) (h : ∀ (bs : List Int) (p : Int) (xs : List Int) (n : Int), (rdOk bs p && decide ((p : Int) ≤ 2000000) && decide ((xs : List Int).length ≤ 1000000)) = true → ∃ fuel, runF Try.prog spec_reader_spoil.X spec_reader_spoil.I 0 fuel 43 Try.f43 [.box [(.ints .u8 bs), (.int .i64 p)], .d (.ints .i64 xs), .d (.int .i64 n)] = some ([.one ((.ints .i64 (spV bs p xs n)), false)], [[(.ints .u8 bs), (.int .i64 (spP bs p xs))]])) : CallSpec Try.prog spec_reader_spoil.E :=
  callSpec_of (d := 0) hX (by kernel_rfl) spec_reader_spoil.I_ok (by kernel_rfl) (by kernel_rfl) (by kernel_rfl) (fun _ _ _ _ h => by dsimp only [spec_reader_spoil.E] at h; cases h) (fun xs hp => by
    dsimp only [spec_reader_spoil.E] at hp ⊢
    split at hp
    · exact h _ _ _ _ hp
    · cases hp)
theorem spec_reader_spoil.ok : CallSpec Try.prog spec_reader_spoil.E := spec_reader_spoil.ok_of (by simp [spec_reader_spoil.X, spec_copyInts.ok, spec_reader_pick.ok, spec_reader_one.ok]) fun bs p xs n h => ⟨0, by
  simp only [Bool.and_eq_true, decide_eq_true_eq] at h
  obtain ⟨⟨h1, h2⟩, h3⟩ := h
  have r1 := rd_le (q := p + 1) h1 (by omega) (by omega)
  have r2 := rd_le (q := p + 1 + 1) h1 (by omega) (by omega)
  rw [spec_reader_spoil.e, szB_of (by omega), h1]
  unfold spV spP
  simp only [Bool.true_and, cond_true]
  rw [decide_eq_true (p := (20 : Int) ≤ 1048576) (by omega), cond_true]
  cases pickV bs p 20 == 0 with
  | true => rw [fitsOk (by simp only [List.length_cons, List.length_nil]; omega)]; rfl
  | false =>
    cases pickV bs p 20 == 1 with
    | true =>
      simp only [cond_true, cond_false]
      by_cases h0 : xs.length = 0
      · have e := List.length_eq_zero_iff.mp h0
        subst e
        rfl
      · rw [decide_eq_true (p := ((xs.length : Nat) : Int) > 0) (by omega), cond_true, cut_one (by omega)]
        simp only [Option.bind_some]
        rw [drop_take]
    | false =>
      cases pickV bs p 20 == 2 with
      | false => rfl
      | true =>
        simp only [cond_true, cond_false]
        by_cases h0 : xs.length = 0
        · have e := List.length_eq_zero_iff.mp h0
          subst e
          rfl
        · have pb := pick_bd (n := ((xs.length : Nat) : Int)) r1 (by omega)
          have hi : idx (pickV bs (p + 1) ((xs.length : Nat) : Int)) xs.length = some (pickV bs (p + 1) ((xs.length : Nat) : Int)).toNat := by
            simp only [idx]
            rw [if_pos (by omega)]
          rw [decide_eq_true (p := ((xs.length : Nat) : Int) > 0) (by omega), cond_true, r1, r2, decide_eq_true (p := ((xs.length : Nat) : Int) ≤ 1048576) (by omega), hi, decide_eq_true (p := 0 < xs.length) (by omega)]
          simp only [Bool.true_and, cond_true, Option.bind_some]
          rw [decide_eq_true (p := (pickV bs (p + 1) ((xs.length : Nat) : Int)).toNat < xs.length) (by omega)]
          rfl⟩

namespace spec_anyArray
noncomputable def E : Entry := ⟨42, false, false, fun | [.box [(.ints .u8 bs), (.int .i64 p)]] => rdOk bs p && decide ((p : Int) ≤ 1000000) | _ => false, fun | [.box [(.ints .u8 bs), (.int .i64 p)]] => ([.agg [((.ints .i64 (aArS bs p)), false), ((.ints .i64 (aArD bs p)), false)]], [[(.ints .u8 bs), (.int .i64 (aArP bs p))]]) | _ => ([], []), fun _ => [], false, fun _ => none⟩
end spec_anyArray
namespace spec_anyArray
noncomputable def X : List Entry := [spec_someArray.E, spec_reader_pick.E, spec_anyShape.E, spec_reader_spoil.E]
noncomputable def I : List Inl := [⟨42, Try.f42, ⟨[5, 11, 20], [], [(7, [3, 3]), (3000020, [19])], [], [], [20]⟩⟩]
theorem I_ok : ∀ i ∈ I, Try.prog.funcs[i.f]? = some i.fn ∧ (i.fn.name == "runtime.NumGoroutine") = false := by
  intro i hi
  simp only [I, List.mem_cons, List.not_mem_nil, or_false] at hi
  subst hi
  exact ⟨by kernel_rfl, by kernel_rfl⟩
theorem e (fuel : Nat) (p0q0 : List Int) (p0q1 : Int) : runF Try.prog X I 0 fuel 42 Try.f42 [.box [(.ints .u8 p0q0), (.int .i64 p0q1)]] =
  (bif rdOk p0q0 p0q1 && decide ((p0q1 : Int) ≤ 1000000) then
  (bif rdOk p0q0 ((sDaP p0q0 p0q1)) && decide ((30 : Int) ≤ 1048576) then
  (bif (((pickV p0q0 ((sDaP p0q0 p0q1)) 30) : Int) == 0) then
  (bif rdOk p0q0 ((((sDaP p0q0 p0q1)) + 1)) && decide ((((((sDaP p0q0 p0q1)) + 1)) : Int) ≤ 2000000) then
  some ([.agg [((.ints .i64 (aShV p0q0 ((((sDaP p0q0 p0q1)) + 1)))), false), ((.ints .i64 (sDaV p0q0 p0q1)), false)]], [[(.ints .u8 p0q0), (.int .i64 (sShP p0q0 ((((sDaP p0q0 p0q1)) + 1)) + 1))]])
  else
  none)
  else
  (bif (((pickV p0q0 ((sDaP p0q0 p0q1)) 30) : Int) == 1) then
  (bif fits ((sDaV p0q0 p0q1).length + ([5] : List Int).length) 8 then
  (bif rdOk p0q0 ((((sDaP p0q0 p0q1)) + 1)) && decide ((((((sDaP p0q0 p0q1)) + 1)) : Int) ≤ 2000000) && decide (((((sDaV p0q0 p0q1) ++ [5])) : List Int).length ≤ 1000000) then
  some ([.agg [((.ints .i64 (sShV p0q0 p0q1)), false), ((.ints .i64 (spV p0q0 ((((sDaP p0q0 p0q1)) + 1)) (((sDaV p0q0 p0q1) ++ [5])) 1000001)), false)]], [[(.ints .u8 p0q0), (.int .i64 (spP p0q0 ((((sDaP p0q0 p0q1)) + 1)) (((sDaV p0q0 p0q1) ++ [5]))))]])
  else
  none)
  else
  none)
  else
  some ([.agg [((.ints .i64 (sShV p0q0 p0q1)), false), ((.ints .i64 (sDaV p0q0 p0q1)), false)]], [[(.ints .u8 p0q0), (.int .i64 (((sDaP p0q0 p0q1)) + 1))]])))
  else
  none)
  else
  none) := by kernel_rfl
end spec_anyArray
theorem spec_anyArray.ok_of (hX : ∀ E ∈ spec_anyArray.X, CallSpec Try.prog E) (h : ∀ (bs : List Int) (p : Int), (rdOk bs p && decide ((p : Int) ≤ 1000000)) = true → ∃ fuel, runF Try.prog spec_anyArray.X spec_anyArray.I 0 fuel 42 Try.f42 [.box [(.ints .u8 bs), (.int .i64 p)]] = some ([.agg [((.ints .i64 (aArS bs p)), false), ((.ints .i64 (aArD bs p)), false)]], [[(.ints .u8 bs), (.int .i64 (aArP bs p))]])) : CallSpec Try.prog spec_anyArray.E :=
  callSpec_of (d := 0) hX (by kernel_rfl) spec_anyArray.I_ok (by kernel_rfl) (by kernel_rfl) (by kernel_rfl) (fun _ _ _ _ h => by dsimp only [spec_anyArray.E] at h; cases h) (fun xs hp => by
    dsimp only [spec_anyArray.E] at hp ⊢
    split at hp
    · exact h _ _ hp
    · cases hp)
theorem spec_anyArray.ok : CallSpec Try.prog spec_anyArray.E := spec_anyArray.ok_of (by simp [spec_anyArray.X, spec_someArray.ok, spec_reader_pick.ok, spec_anyShape.ok, spec_reader_spoil.ok]) fun bs p h => ⟨0, by
  simp only [Bool.and_eq_true, decide_eq_true_eq] at h
  obtain ⟨h1, h2, h3⟩ := sDa_bd h.1 (by omega)
  have r1 := rd_le (q := sDaP bs p) h.1 (by omega) (by omega)
  have r2 := rd_le (q := sDaP bs p + 1) h.1 (by omega) (by omega)
  have hz : (sDaV bs p ++ [5]).length ≤ 1000000 := by rw [List.length_append]; simp; omega
  rw [spec_anyArray.e, h.1, r1, r2, decide_eq_true (p := p ≤ 1000000) h.2, decide_eq_true (p := (30 : Int) ≤ 1048576) (by omega), decide_eq_true (p := sDaP bs p + 1 ≤ 2000000) (by omega), fitsOk (by simp only [List.length_cons, List.length_nil]; omega), decide_eq_true hz]
  unfold aArS aArD aArP
  cases pickV bs (sDaP bs p) 30 == 0 with
  | true => rfl
  | false =>
    cases pickV bs (sDaP bs p) 30 == 1 with
    | true => rfl
    | false => rfl⟩

namespace spec_someOrder
noncomputable def E : Entry := ⟨44, false, false, fun | [.box [(.ints .u8 bs), (.int .i64 p)], .d (.int .i64 n)] => rdOk bs p && decide ((p : Int) ≤ 900000) && decide (0 ≤ n) && decide (n ≤ 1000) | _ => false, fun | [.box [(.ints .u8 bs), (.int .i64 p)], .d (.int .i64 n)] => ([.one ((.ints .i64 (soL bs p n.toNat)), true)], [[(.ints .u8 bs), (.int .i64 (p + n))]]) | _ => ([], []), fun _ => [], false, fun _ => none⟩
end spec_someOrder
namespace spec_someOrder
noncomputable def X : List Entry := [spec_reader_pick.E]
noncomputable def I : List Inl := [⟨44, Try.f44, ⟨[], [(1000003, [2, 3, 4, 7, 8, 9, 10, 11, 12, 13, 14, 15, 16, 17, 18, 19, 20, 21, 22, 23, 24, 25, 26, 27, 28, 29, 30, 31, 32, 33])], [], [], [], []⟩⟩]
theorem I_ok : ∀ i ∈ I, Try.prog.funcs[i.f]? = some i.fn ∧ (i.fn.name == "runtime.NumGoroutine") = false := by
  intro i hi
  simp only [I, List.mem_cons, List.not_mem_nil, or_false] at hi
  subst hi
  exact ⟨by kernel_rfl, by kernel_rfl⟩
noncomputable abbrev L0 (fuel n : Nat) (s : St) (k : Kont) := lAt Try.prog X I fuel false 0 false 44 (bodyOf Try.f44) [1, 1, 0, 1, 0] n s k
noncomputable abbrev k0  (fuel : Nat) : Kont := (kAt Try.prog X I fuel false 0 false 44 (bodyOf Try.f44) [1, 1, 0, 1, 0] [] (endK Try.prog Try.f44))
noncomputable def t0 (p1 : Int) (p0q0 : List Int) (x0q1 : Int) (x0q3 : Int) (x0q4 : List Int) : St := ⟨[(.ptr 1000000000 0 0), (.imm (.int .i64 p1)), .dead, .dead, .dead, (.all 1000000001 1), (.imm (.int .i64 x0q1)), .dead, .dead, .dead, .dead, .dead, .dead, .dead, .dead, .dead, .dead, .dead, .dead, .dead, .dead, .dead, .dead, .dead, .dead, .dead, .dead, .dead, .dead, .dead, .dead, .dead, .dead, .dead], hOf [(1000000000, (.box [(.imm (.ints .u8 p0q0)), (.imm (.int .i64 x0q3))])), (1000000001, (.ints .i64 x0q4))], [(.ptr 1000000000 0 0)], []⟩
theorem e (fuel : Nat) (p0q0 : List Int) (p0q1 : Int) (p1 : Int) : runF Try.prog X I 0 fuel 44 Try.f44 [.box [(.ints .u8 p0q0), (.int .i64 p0q1)], .d (.int .i64 p1)] =
  L0 fuel fuel (t0 p1 p0q0 0 p0q1 ([])) (k0  fuel) := by kernel_rfl
theorem s0 (fuel n0 : Nat) (p1 : Int) (p0q0 : List Int) (x0q1 : Int) (x0q3 : Int) (x0q4 : List Int) : L0 fuel (n0 + 1) (t0 p1 p0q0 x0q1 x0q3 x0q4) (k0  fuel) =
  (bif (decide ((x0q1 : Int) < p1)) then
  (bif rdOk p0q0 x0q3 && decide ((((IntKind.wrap .i64 (x0q1 + 1))) : Int) ≤ 1048576) then
  (bif fits (x0q4.length + ([x0q1] : List Int).length) 8 then
  (idx (pickV p0q0 x0q3 ((IntKind.wrap .i64 (x0q1 + 1)))) (x0q4 ++ [x0q1]).length).bind fun j9 =>
  ((x0q4 ++ [x0q1])[j9]?).bind fun v10 =>
  (idx x0q1 (x0q4 ++ [x0q1]).length).bind fun j11 =>
  (bif decide (j11 < (x0q4 ++ [x0q1]).length) then
  (idx (pickV p0q0 x0q3 ((IntKind.wrap .i64 (x0q1 + 1)))) ((x0q4 ++ [x0q1]).set j11 v10).length).bind fun j12 =>
  (bif decide (j12 < ((x0q4 ++ [x0q1]).set j11 v10).length) then
  L0 fuel n0 (t0 p1 p0q0 ((IntKind.wrap .i64 (x0q1 + 1))) ((x0q3 + 1)) ((((x0q4 ++ [x0q1]).set j11 v10).set j12 x0q1))) (k0  fuel)
  else
  none)
  else
  none)
  else
  none)
  else
  none)
  else
  some ([.one ((.ints .i64 x0q4), true)], [[(.ints .u8 p0q0), (.int .i64 x0q3)]])) := by kernel_rfl
end spec_someOrder
theorem spec_someOrder.ok_of (hX : ∀ E ∈ spec_someOrder.X, CallSpec Try.prog E) (h : ∀ (bs : List Int) (p : Int) (n : Int), (rdOk bs p && decide ((p : Int) ≤ 900000) && decide (0 ≤ n) && decide (n ≤ 1000)) = true → ∃ fuel, runF Try.prog spec_someOrder.X spec_someOrder.I 0 fuel 44 Try.f44 [.box [(.ints .u8 bs), (.int .i64 p)], .d (.int .i64 n)] = some ([.one ((.ints .i64 (soL bs p n.toNat)), true)], [[(.ints .u8 bs), (.int .i64 (p + n))]])) : CallSpec Try.prog spec_someOrder.E :=
  callSpec_of (d := 0) hX (by kernel_rfl) spec_someOrder.I_ok (by kernel_rfl) (by kernel_rfl) (by kernel_rfl) (fun _ _ _ _ h => by dsimp only [spec_someOrder.E] at h; cases h) (fun xs hp => by
    dsimp only [spec_someOrder.E] at hp ⊢
    split at hp
    · exact h _ _ _ hp
    · cases hp)
theorem spec_someOrder.ok : CallSpec Try.prog spec_someOrder.E := spec_someOrder.ok_of (by simp [spec_someOrder.X, spec_reader_pick.ok]) fun bs p n h => by
  obtain ⟨F, hF⟩ : ∃ F : Nat, 1000 < F := ⟨1001, by omega⟩
  refine ⟨F, ?_⟩
  simp only [Bool.and_eq_true, decide_eq_true_eq] at h
  obtain ⟨⟨⟨h1, h2⟩, h3⟩, h4⟩ := h
  obtain ⟨n, rfl⟩ : ∃ m : Nat, n = m := ⟨n.toNat, by omega⟩
  rw [spec_someOrder.e, Int.toNat_natCast]
  refine run_loop (N := n) (fun m j (st : Int × List Int) => spec_someOrder.L0 F m (spec_someOrder.t0 (n : Int) bs (j : Int) st.1 st.2) (spec_someOrder.k0 F)) (fun j st => st.1 = p + ((j : Nat) : Int) ∧ st.2 = soL bs p j) ?_ ?_ F 0 (p, []) (by omega) (by omega) ⟨by simp, rfl⟩
  · rintro m ⟨q, out⟩ ⟨e1, e2⟩
    simp only at e1 e2
    subst e1
    subst e2
    dsimp only
    rw [spec_someOrder.s0, dge (by omega), cond_false]
  · rintro m j ⟨q, out⟩ hj ⟨e1, e2⟩
    simp only at e1 e2
    subst e1
    subst e2
    dsimp only
    have hl := soL_length bs p j
    have r1 := rd_le (q := p + ((j : Nat) : Int)) h1 (by omega) (by omega)
    have pb := pick_bd (n := ((j + 1 : Nat) : Int)) r1 (by omega)
    have hl2 : (soL bs p j ++ [((j : Nat) : Int)]).length = j + 1 := by rw [List.length_append, hl]; rfl
    have hk : (pickV bs (p + ((j : Nat) : Int)) ((j + 1 : Nat) : Int)).toNat < j + 1 := by omega
    have hi : idx (pickV bs (p + ((j : Nat) : Int)) ((j + 1 : Nat) : Int)) (j + 1) = some (pickV bs (p + ((j : Nat) : Int)) ((j + 1 : Nat) : Int)).toNat := by
      simp only [idx]
      rw [if_pos (by omega)]
    rw [spec_someOrder.s0, dlt hj, cond_true, w1 (by omega), r1, decide_eq_true (p := ((j + 1 : Nat) : Int) ≤ 1048576) (by omega), fitsOk (by simp only [List.length_cons, List.length_nil]; omega), hl2, hi]
    simp only [Bool.and_self, cond_true, Option.bind_some]
    rw [getD_get (by omega)]
    simp only [Option.bind_some]
    rw [idx_nat (by omega)]
    simp only [Option.bind_some, List.length_set, hl2]
    rw [decide_eq_true (p := j < j + 1) (by omega), cond_true, hi]
    simp only [Option.bind_some]
    rw [decide_eq_true hk, cond_true]
    exact ⟨(p + ((j + 1 : Nat) : Int), soL bs p (j + 1)), ⟨rfl, rfl⟩, by rw [show p + ((j + 1 : Nat) : Int) = p + ((j : Nat) : Int) + 1 by omega]; rfl⟩

namespace spec_DrawMoveAxes
noncomputable def E : Entry := ⟨21, false, false, fun | [.d (.ints .u8 bs)] => bytesB bs | _ => false, fun | [.d (.ints .u8 bs)] => ([.agg [((.ints .i64 (aArS (cutC bs) 0)), false), ((.ints .i64 (aArD (cutC bs) 0)), false)], .one ((.ints .i64 (dMO (cutC bs))), false)], []) | _ => ([], []), fun _ => [], true, fun _ => none⟩
end spec_DrawMoveAxes
namespace spec_DrawMoveAxes
noncomputable def X : List Entry := [spec_newReader.E, spec_anyArray.E, spec_someOrder.E, spec_reader_spoil.E]
noncomputable def I : List Inl := [⟨21, Try.f21, ⟨[], [], [(3, [5])], [], [10], []⟩⟩]
theorem I_ok : ∀ i ∈ I, Try.prog.funcs[i.f]? = some i.fn ∧ (i.fn.name == "runtime.NumGoroutine") = false := by
  intro i hi
  simp only [I, List.mem_cons, List.not_mem_nil, or_false] at hi
  subst hi
  exact ⟨by kernel_rfl, by kernel_rfl⟩
theorem e (fuel : Nat) (p0 : List Int) : runF Try.prog X I 0 fuel 21 Try.f21 [.d (.ints .u8 p0)] =
  (bif rdOk ((cutC p0)) 0 && decide ((0 : Int) ≤ 1000000) then
  (bif rdOk (((cutC p0))) ((aArP ((cutC p0)) 0)) && decide ((((aArP ((cutC p0)) 0)) : Int) ≤ 900000) && decide (0 ≤ ((((aArS ((cutC p0)) 0).length : Nat) : Int))) && decide (((((aArS ((cutC p0)) 0).length : Nat) : Int)) ≤ 1000) then
  (bif rdOk ((((cutC p0)))) ((((aArP ((cutC p0)) 0)) + ((((aArS ((cutC p0)) 0).length : Nat) : Int)))) && decide ((((((aArP ((cutC p0)) 0)) + ((((aArS ((cutC p0)) 0).length : Nat) : Int)))) : Int) ≤ 2000000) && decide ((((soL (((cutC p0))) ((aArP ((cutC p0)) 0)) ((((aArS ((cutC p0)) 0).length : Nat) : Int)).toNat)) : List Int).length ≤ 1000000) then
  some ([.agg [((.ints .i64 (aArS ((cutC p0)) 0)), false), ((.ints .i64 (aArD ((cutC p0)) 0)), false)], .one ((.ints .i64 (spV ((((cutC p0)))) ((((aArP ((cutC p0)) 0)) + ((((aArS ((cutC p0)) 0).length : Nat) : Int)))) ((soL (((cutC p0))) ((aArP ((cutC p0)) 0)) ((((aArS ((cutC p0)) 0).length : Nat) : Int)).toNat)) 3)), false)], [])
  else
  none)
  else
  none)
  else
  none) := by kernel_rfl
end spec_DrawMoveAxes
theorem spec_DrawMoveAxes.ok_of (hX : ∀ E ∈ spec_DrawMoveAxes.X, CallSpec Try.prog E) (h : ∀ (bs : List Int), (bytesB bs) = true → ∃ fuel, runF Try.prog spec_DrawMoveAxes.X spec_DrawMoveAxes.I 0 fuel 21 Try.f21 [.d (.ints .u8 bs)] = some ([.agg [((.ints .i64 (aArS (cutC bs) 0)), false), ((.ints .i64 (aArD (cutC bs) 0)), false)], .one ((.ints .i64 (dMO (cutC bs))), false)], [])) : CallSpec Try.prog spec_DrawMoveAxes.E :=
  callSpec_of (d := 0) hX (by kernel_rfl) spec_DrawMoveAxes.I_ok (by kernel_rfl) (by kernel_rfl) (by kernel_rfl) (fun _ _ _ _ h => by dsimp only [spec_DrawMoveAxes.E] at h; cases h) (fun xs hp => by
    dsimp only [spec_DrawMoveAxes.E] at hp ⊢
    split at hp
    · exact h _ hp
    · cases hp)
theorem spec_DrawMoveAxes.ok : CallSpec Try.prog spec_DrawMoveAxes.E := spec_DrawMoveAxes.ok_of (by simp [spec_DrawMoveAxes.X, spec_newReader.ok, spec_anyArray.ok, spec_someOrder.ok, spec_reader_spoil.ok]) fun bs h => ⟨0, by
  have r0 := cut_ok h (p := 0) (by omega) (by omega)
  obtain ⟨a1, a2, a3, a4⟩ := aAr_bd r0 (by omega)
  have hl := soL_length (cutC bs) (aArP (cutC bs) 0) (aArS (cutC bs) 0).length
  have hz : (soL (cutC bs) (aArP (cutC bs) 0) (aArS (cutC bs) 0).length).length ≤ 1000000 := by omega
  rw [spec_DrawMoveAxes.e, r0, rd_le (q := aArP (cutC bs) 0) r0 (by omega) (by omega), rd_le (q := aArP (cutC bs) 0 + (((aArS (cutC bs) 0).length : Nat) : Int)) r0 (by omega) (by omega), decide_eq_true (p := aArP (cutC bs) 0 ≤ 900000) (by omega), decide_eq_true (p := (0 : Int) ≤ (((aArS (cutC bs) 0).length : Nat) : Int)) (by omega), decide_eq_true (p := (((aArS (cutC bs) 0).length : Nat) : Int) ≤ 1000) (by omega), decide_eq_true (p := aArP (cutC bs) 0 + (((aArS (cutC bs) 0).length : Nat) : Int) ≤ 2000000) (by omega), Int.toNat_natCast, decide_eq_true hz]
  rfl⟩

namespace slices_Index_int_int
noncomputable def E : Entry := ⟨46, true, false, fun | [.d (.ints .i64 xs), .d (.int .i64 v)] => decide (xs.length < 9223372036854775808) | _ => false, fun | [.d (.ints .i64 xs), .d (.int .i64 v)] => ([.one ((.int .i64 (idxI xs v)), false)], []) | _ => ([], []), fun _ => [], false, fun _ => none⟩
end slices_Index_int_int
namespace slices_Index_int_int
noncomputable def X : List Entry := []
noncomputable def I : List Inl := [⟨46, Try.f46, ⟨[], [(1000002, [2, 3, 4, 5, 6, 9, 10, 11, 12, 13, 14, 15, 16, 17, 18])], [], [], [], []⟩⟩]
theorem I_ok : ∀ i ∈ I, Try.prog.funcs[i.f]? = some i.fn ∧ (i.fn.name == "runtime.NumGoroutine") = false := by
  intro i hi
  simp only [I, List.mem_cons, List.not_mem_nil, or_false] at hi
  subst hi
  exact ⟨by kernel_rfl, by kernel_rfl⟩
noncomputable abbrev L0 (fuel n : Nat) (s : St) (k : Kont) := lAt Try.prog X I fuel true 0 false 46 (bodyOf Try.f46) [1, 0, 1, 0] n s k
noncomputable abbrev k0  (fuel : Nat) : Kont := (kAt Try.prog X I fuel true 0 false 46 (bodyOf Try.f46) [1, 0, 1, 0] [] (endK Try.prog Try.f46))
noncomputable def t0 (p0 : List Int) (p1 : Int) (x0q3 : Int) : St := ⟨[(.imm (.ints .i64 p0)), (.imm (.int .i64 p1)), .dead, .dead, .dead, .dead, .dead, (.imm (.int .i64 ((p0.length : Nat) : Int))), (.imm (.int .i64 x0q3)), .dead, .dead, .dead, .dead, .dead, .dead, .dead, .dead, .dead, .dead], hOf [], [], []⟩
theorem e (fuel : Nat) (p0 : List Int) (p1 : Int) : runF Try.prog X I 0 fuel 46 Try.f46 [.d (.ints .i64 p0), .d (.int .i64 p1)] =
  L0 fuel fuel (t0 p0 p1 0) (k0  fuel) := by kernel_rfl
theorem s0 (fuel n0 : Nat) (p0 : List Int) (p1 : Int) (x0q3 : Int) : L0 fuel (n0 + 1) (t0 p0 p1 x0q3) (k0  fuel) =
  (bif (decide ((x0q3 : Int) < ((p0.length : Nat) : Int))) then
  (idx x0q3 p0.length).bind fun j5 =>
  (p0[j5]?).bind fun v6 =>
  (bif ((p1 : Int) == v6) then
  some ([.one ((.int .i64 x0q3), false)], [])
  else
  L0 fuel n0 (t0 p0 p1 ((IntKind.wrap .i64 (x0q3 + 1)))) (k0  fuel))
  else
  some ([.one ((.int .i64 (-1)), false)], [])) := by kernel_rfl
end slices_Index_int_int
theorem slices_Index_int_int.ok_of (hX : ∀ E ∈ slices_Index_int_int.X, CallSpec Try.prog E) (h : ∀ (xs : List Int) (v : Int), (decide (xs.length < 9223372036854775808)) = true → ∃ fuel, runF Try.prog slices_Index_int_int.X slices_Index_int_int.I 0 fuel 46 Try.f46 [.d (.ints .i64 xs), .d (.int .i64 v)] = some ([.one ((.int .i64 (idxI xs v)), false)], [])) : CallSpec Try.prog slices_Index_int_int.E :=
  callSpec_of (d := 0) hX (by kernel_rfl) slices_Index_int_int.I_ok (by kernel_rfl) (by kernel_rfl) (by kernel_rfl) (fun _ _ _ _ h => by dsimp only [slices_Index_int_int.E] at h; cases h) (fun xs hp => by
    dsimp only [slices_Index_int_int.E] at hp ⊢
    split at hp
    · exact h _ _ hp
    · cases hp)
theorem slices_Index_int_int.ok : CallSpec Try.prog slices_Index_int_int.E := slices_Index_int_int.ok_of (by simp [slices_Index_int_int.X]) fun xs v h => ⟨xs.length + 1, by
  simp only [decide_eq_true_eq] at h
  rw [slices_Index_int_int.e]
  refine cnt_loop (N := xs.length) (fun n j (_ : Unit) => slices_Index_int_int.L0 (xs.length + 1) n (slices_Index_int_int.t0 xs v (j : Int)) (slices_Index_int_int.k0 (xs.length + 1))) (fun j _ => ∀ i, i < j → xs.getD i 0 ≠ v) ?_ ?_ (xs.length + 1) 0 () (by omega) (by omega) (fun i hi => absurd hi (by omega))
  · intro n _ hI
    rw [slices_Index_int_int.s0, dge (by omega), cond_false, idxI_no hI]
  · intro n j _ hj hI
    rw [slices_Index_int_int.s0, dlt hj, cond_true, idx_nat hj, w1 (by omega)]
    simp only [Option.bind_some, getD_get hj]
    by_cases he : v = xs.getD j 0
    · refine .inl ?_
      rw [show (v == xs.getD j 0) = true by simp [he], cond_true, idxI_at hj hI he.symm]
    · refine .inr ⟨(), ?_, by rw [show (v == xs.getD j 0) = false by simpa using he, cond_false]⟩
      intro i hi
      by_cases h1 : i = j
      · subst h1; exact fun e => he e.symm
      · exact hI i (by omega)⟩

namespace impl_OrderBack
noncomputable def E : Entry := ⟨23, false, false, fun | [.d (.ints .i64 order)] => decide (order.length < 9223372036854775808) | _ => false, fun | [.d (.ints .i64 order)] => ([.one ((.ints .i64 (obS order)), true), .one ((.bool (obB order)), false)], []) | _ => ([], []), fun _ => [], true, fun _ => none⟩
end impl_OrderBack
namespace impl_OrderBack
noncomputable def X : List Entry := [slices_Index_int_int.E]
noncomputable def I : List Inl := [⟨23, Try.f23, ⟨[], [(1000005, [1, 2, 3, 5, 6, 7, 8, 9, 10, 11, 12, 15, 16, 17, 18, 19, 20, 21, 22, 23, 24, 25, 26, 27, 28, 29])], [], [], [], []⟩⟩]
theorem I_ok : ∀ i ∈ I, Try.prog.funcs[i.f]? = some i.fn ∧ (i.fn.name == "runtime.NumGoroutine") = false := by
  intro i hi
  simp only [I, List.mem_cons, List.not_mem_nil, or_false] at hi
  subst hi
  exact ⟨by kernel_rfl, by kernel_rfl⟩
noncomputable abbrev L0 (fuel n : Nat) (s : St) (k : Kont) := lAt Try.prog X I fuel true 0 false 23 (bodyOf Try.f23) [1, 1, 1, 0, 1, 0] n s k
noncomputable abbrev k0  (fuel : Nat) : Kont := (kAt Try.prog X I fuel true 0 false 23 (bodyOf Try.f23) [1, 1, 1, 0, 1, 0] [] (endK Try.prog Try.f23))
noncomputable def t0 (p0 : List Int) (x0q2 : Int) (x0q3 : List Int) : St := ⟨[(.imm (.ints .i64 p0)), .dead, .dead, .dead, (.all 1000000000 1), .dead, .dead, .dead, .dead, .dead, .dead, .dead, .dead, (.imm (.int .i64 (((List.replicate (((p0.length : Nat) : Int)).toNat (0 : Int)).length : Nat) : Int))), (.imm (.int .i64 x0q2)), .dead, .dead, .dead, .dead, .dead, .dead, .dead, .dead, .dead, .dead, .dead, .dead, .dead, .dead, .dead], hOf [(1000000000, (.ints .i64 x0q3))], [], []⟩
theorem e (fuel : Nat) (p0 : List Int) : runF Try.prog X I 0 fuel 23 Try.f23 [.d (.ints .i64 p0)] =
  (bif (decide ((((p0.length : Nat) : Int) : Int) > 3)) then
  some ([.one ((.ints .i64 []), true), .one ((.bool false), false)], [])
  else
  (bif decide (0 ≤ (((p0.length : Nat) : Int) : Int)) && decide ((((p0.length : Nat) : Int) : Int) ≤ ((p0.length : Nat) : Int)) && decide ((((p0.length : Nat) : Int) : Int) ≤ 1152921504606846976) && decide (((8 : Nat) : Int) * ((p0.length : Nat) : Int) ≤ 281474976710656) then
  L0 fuel fuel (t0 p0 0 ((List.replicate (((p0.length : Nat) : Int)).toNat (0 : Int)))) (k0  fuel)
  else
  none)) := by kernel_rfl
theorem s0 (fuel n0 : Nat) (p0 : List Int) (x0q2 : Int) (x0q3 : List Int) : L0 fuel (n0 + 1) (t0 p0 x0q2 x0q3) (k0  fuel) =
  (bif (decide ((x0q2 : Int) < (((List.replicate (((p0.length : Nat) : Int)).toNat (0 : Int)).length : Nat) : Int))) then
  (bif decide (p0.length < 9223372036854775808) then
  (idx x0q2 x0q3.length).bind fun j7 =>
  (bif decide (j7 < x0q3.length) then
  (idx x0q2 (x0q3.set j7 (idxI p0 x0q2)).length).bind fun j8 =>
  ((x0q3.set j7 (idxI p0 x0q2))[j8]?).bind fun v9 =>
  (bif (decide ((v9 : Int) < 0)) then
  some ([.one ((.ints .i64 []), true), .one ((.bool false), false)], [])
  else
  L0 fuel n0 (t0 p0 ((IntKind.wrap .i64 (x0q2 + 1))) ((x0q3.set j7 (idxI p0 x0q2)))) (k0  fuel))
  else
  none)
  else
  none)
  else
  some ([.one ((.ints .i64 x0q3), true), .one ((.bool true), false)], [])) := by kernel_rfl
end impl_OrderBack
theorem impl_OrderBack.ok_of (hX : ∀ E ∈ impl_OrderBack.X, CallSpec Try.prog E) (h : ∀ (order : List Int), (decide (order.length < 9223372036854775808)) = true → ∃ fuel, runF Try.prog impl_OrderBack.X impl_OrderBack.I 0 fuel 23 Try.f23 [.d (.ints .i64 order)] = some ([.one ((.ints .i64 (obS order)), true), .one ((.bool (obB order)), false)], [])) : CallSpec Try.prog impl_OrderBack.E :=
  callSpec_of (d := 0) hX (by kernel_rfl) impl_OrderBack.I_ok (by kernel_rfl) (by kernel_rfl) (by kernel_rfl) (fun _ _ _ _ h => by dsimp only [impl_OrderBack.E] at h; cases h) (fun xs hp => by
    dsimp only [impl_OrderBack.E] at hp ⊢
    split at hp
    · exact h _ hp
    · cases hp)
theorem impl_OrderBack.ok : CallSpec Try.prog impl_OrderBack.E := impl_OrderBack.ok_of (by simp [impl_OrderBack.X, slices_Index_int_int.ok]) fun xs h => by
  obtain ⟨F, hF⟩ : ∃ F : Nat, 60 < F := ⟨61, by omega⟩
  refine ⟨F, ?_⟩
  rw [impl_OrderBack.e]
  unfold obS
  by_cases h3 : xs.length ≤ 3
  · have hN : (obN xs).length = xs.length := by simp only [obN, tab_length]
    rw [decide_eq_false (by omega), cond_false, mkOk (by omega) (by omega), Int.toNat_natCast]
    simp only [cond_true]
    refine cnt_loop (N := xs.length) (fun n j out => impl_OrderBack.L0 F n (impl_OrderBack.t0 xs (j : Int) out) (impl_OrderBack.k0 F)) (fun j out => out = part (obN xs) j ∧ ∀ i, i < j → xs.contains (i : Int) = true) ?_ ?_ F 0 _ (by omega) (by omega) ⟨by rw [part_zero, hN], fun i hi => absurd hi (by omega)⟩
    · rintro n out ⟨hI, hc⟩
      have ho : obB xs = true := by rw [obB, isOB_iff.2 hc, decide_eq_true h3]; rfl
      have hall := part_all (obN xs)
      rw [hN] at hall
      rw [hall] at hI
      rw [impl_OrderBack.s0]
      simp only [Int.toNat_natCast, List.length_replicate]
      rw [dge (by omega), cond_false, hI, ho]
      rfl
    · rintro n j out hj ⟨hI, hc⟩
      have hol : out.length = xs.length := by rw [hI, part_length (by omega), hN]
      rw [impl_OrderBack.s0]
      simp only [Int.toNat_natCast, List.length_replicate]
      rw [dlt hj, cond_true, h, cond_true, idx_nat (by omega), w1 (by omega)]
      simp only [Option.bind_some]
      rw [decide_eq_true (by omega), cond_true, idx_nat (by rw [List.length_set]; omega)]
      simp only [Option.bind_some]
      rw [List.getElem?_set_self (by omega)]
      simp only [Option.bind_some]
      rw [idxI_neg]
      cases hx : xs.contains (j : Int) with
      | false =>
        refine .inl ?_
        have ho : obB xs = false := by
          rw [Bool.eq_false_iff]
          intro hb
          simp only [obB, Bool.and_eq_true] at hb
          have := isOB_iff.1 hb.2 j hj
          rw [hx] at this
          cases this
        rw [ho]; rfl
      | true =>
        refine .inr ⟨_, ⟨?_, fun i hi => ?_⟩, rfl⟩
        · rw [hI, part_set (by omega)]
          simp only [obN]
          rw [tab_getD hj, idxI, hx]
          rfl
        · by_cases h1 : i = j
          · subst h1; exact hx
          · exact hc i (by omega)
  · rw [decide_eq_true (by omega), cond_true]
    have ho : obB xs = false := by rw [obB, decide_eq_false h3]; rfl
    rw [ho]; rfl

namespace impl_layoutOf
noncomputable def E : Entry := ⟨35, false, false, fun | [.d (.ints .i64 sh)] => decide (sh.length < 9223372036854775808) | _ => false, fun | [.d (.ints .i64 sh)] => ([.agg [((.ints .i64 nilI), true), ((.int .i64 0), false), ((.int .i64 0), false), ((.int .i64 0), false), ((.int .i64 0), false)], .one ((.bool false), false)], []) | _ => ([], []), fun | [.d (.ints .i64 sh)] => [(validS sh, ([.agg [((.ints .i64 sh), false), ((.int .i64 (strd sh 0)), false), ((.int .i64 (strd sh 1)), false), ((.int .i64 (strd sh 2)), false), ((.int .i64 (volW sh)), false)], .one ((.bool true), false)], []))] | _ => [], true, fun _ => none⟩
end impl_layoutOf
namespace impl_layoutOf
noncomputable def X : List Entry := []
noncomputable def I : List Inl := [⟨35, Try.f35, ⟨[], [(1000005, [1, 3, 6, 7, 8, 9, 10, 11, 12, 13, 14, 15, 16, 17, 18, 19, 20, 21, 22, 23, 24, 25, 26, 27, 28, 29, 30, 31, 32, 33, 34, 35, 36, 37, 38, 39, 40, 41, 42, 43, 44, 45, 46, 47, 48, 49])], [], [(10, [0, 2, 3, 1, 4, 5, 6, 7, 8])], [], []⟩⟩]
theorem I_ok : ∀ i ∈ I, Try.prog.funcs[i.f]? = some i.fn ∧ (i.fn.name == "runtime.NumGoroutine") = false := by
  intro i hi
  simp only [I, List.mem_cons, List.not_mem_nil, or_false] at hi
  subst hi
  exact ⟨by kernel_rfl, by kernel_rfl⟩
noncomputable abbrev L0 (fuel n : Nat) (s : St) (k : Kont) := lAt Try.prog X I fuel true 0 false 35 (bodyOf Try.f35) [1, 1, 1, 0, 1, 0] n s k
noncomputable abbrev k0  (fuel : Nat) : Kont := (kAt Try.prog X I fuel true 0 false 35 (bodyOf Try.f35) [1, 1, 1, 0, 1, 0] [] (endK Try.prog Try.f35))
noncomputable def t0 (p0 : List Int) (x0q1 : Int) (x0q7 : Int) (x0q8 : Int) (x0q9 : Int) (x0q10 : Int) : St := ⟨[(.imm (.ints .i64 p0)), .dead, (.ptr 1000000000 0 0), .dead, (.ptr 1000000001 0 0), (.imm (.int .i64 x0q1)), .dead, .dead, .dead, .dead, .dead, .dead, .dead, .dead, .dead, .dead, .dead, .dead, .dead, .dead, .dead, .dead, .dead, .dead, .dead, .dead, .dead, .dead, .dead, .dead, .dead, .dead, .dead, .dead, .dead, .dead, .dead, .dead, .dead, .dead, .dead, .dead, .dead, .dead, .dead, .dead, .dead, .dead, .dead, .dead], hOf [(1000000000, (.box [(.imm .nils), (.imm (.int .i64 0)), (.imm (.int .i64 0)), (.imm (.int .i64 0)), (.imm (.int .i64 0))])), (1000000001, (.box [(.imm (.ints .i64 p0)), (.imm (.int .i64 x0q7)), (.imm (.int .i64 x0q8)), (.imm (.int .i64 x0q9)), (.imm (.int .i64 x0q10))]))], [], []⟩
theorem e (fuel : Nat) (p0 : List Int) : runF Try.prog X I 0 fuel 35 Try.f35 [.d (.ints .i64 p0)] =
  (bif (decide ((((p0.length : Nat) : Int) : Int) > 3)) then
  some ([.agg [((.ints .i64 []), true), ((.int .i64 0), false), ((.int .i64 0), false), ((.int .i64 0), false), ((.int .i64 0), false)], .one ((.bool false), false)], [])
  else
  L0 fuel fuel (t0 p0 ((IntKind.wrap .i64 (((p0.length : Nat) : Int) - 1))) 0 0 0 1) (k0  fuel)) := by kernel_rfl
theorem s0 (fuel n0 : Nat) (p0 : List Int) (x0q1 : Int) (x0q7 : Int) (x0q8 : Int) (x0q9 : Int) (x0q10 : Int) : L0 fuel (n0 + 1) (t0 p0 x0q1 x0q7 x0q8 x0q9 x0q10) (k0  fuel) =
  (bif (decide ((x0q1 : Int) ≥ 0)) then
  (idx x0q1 p0.length).bind fun j21 =>
  (p0[j21]?).bind fun v22 =>
  (bif (decide ((v22 : Int) < 0)) then
  some ([.agg [((.ints .i64 []), true), ((.int .i64 0), false), ((.int .i64 0), false), ((.int .i64 0), false), ((.int .i64 0), false)], .one ((.bool false), false)], [])
  else
  (idx x0q1 p0.length).bind fun j23 =>
  (p0[j23]?).bind fun v24 =>
  (bif (decide ((v24 : Int) > 60)) then
  some ([.agg [((.ints .i64 []), true), ((.int .i64 0), false), ((.int .i64 0), false), ((.int .i64 0), false), ((.int .i64 0), false)], .one ((.bool false), false)], [])
  else
  (bif decide (x0q1 = ((0 : Nat) : Int)) then
  (idx x0q1 p0.length).bind fun j29 =>
  (p0[j29]?).bind fun v30 =>
  L0 fuel n0 (t0 p0 ((IntKind.wrap .i64 (x0q1 - 1))) x0q10 x0q8 x0q9 ((IntKind.wrap .i64 (x0q10 * v30)))) (k0  fuel)
  else
  (bif decide (x0q1 = ((1 : Nat) : Int)) then
  (idx x0q1 p0.length).bind fun j27 =>
  (p0[j27]?).bind fun v28 =>
  L0 fuel n0 (t0 p0 ((IntKind.wrap .i64 (x0q1 - 1))) x0q7 x0q10 x0q9 ((IntKind.wrap .i64 (x0q10 * v28)))) (k0  fuel)
  else
  (bif decide (x0q1 = ((2 : Nat) : Int)) then
  (idx x0q1 p0.length).bind fun j25 =>
  (p0[j25]?).bind fun v26 =>
  L0 fuel n0 (t0 p0 ((IntKind.wrap .i64 (x0q1 - 1))) x0q7 x0q8 x0q10 ((IntKind.wrap .i64 (x0q10 * v26)))) (k0  fuel)
  else
  none)))))
  else
  (bif (decide ((x0q10 : Int) > 60)) then
  some ([.agg [((.ints .i64 []), true), ((.int .i64 0), false), ((.int .i64 0), false), ((.int .i64 0), false), ((.int .i64 0), false)], .one ((.bool false), false)], [])
  else
  some ([.agg [((.ints .i64 p0), false), ((.int .i64 x0q7), false), ((.int .i64 x0q8), false), ((.int .i64 x0q9), false), ((.int .i64 x0q10), false)], .one ((.bool true), false)], []))) := by kernel_rfl
end impl_layoutOf
theorem impl_layoutOf.ok_of (hX : ∀ E ∈ impl_layoutOf.X, CallSpec Try.prog E) (h : ∀ (sh : List Int), (decide (sh.length < 9223372036854775808)) = true → ∃ fuel, runF Try.prog impl_layoutOf.X impl_layoutOf.I 0 fuel 35 Try.f35 [.d (.ints .i64 sh)] = some (bif validS sh then ([.agg [((.ints .i64 sh), false), ((.int .i64 (strd sh 0)), false), ((.int .i64 (strd sh 1)), false), ((.int .i64 (strd sh 2)), false), ((.int .i64 (volW sh)), false)], .one ((.bool true), false)], []) else ([.agg [((.ints .i64 nilI), true), ((.int .i64 0), false), ((.int .i64 0), false), ((.int .i64 0), false), ((.int .i64 0), false)], .one ((.bool false), false)], []))) : CallSpec Try.prog impl_layoutOf.E :=
  callSpec_of (d := 0) hX (by kernel_rfl) impl_layoutOf.I_ok (by kernel_rfl) (by kernel_rfl) (by kernel_rfl) (fun _ _ _ _ h => by dsimp only [impl_layoutOf.E] at h; cases h) (fun xs hp => by
    dsimp only [impl_layoutOf.E] at hp ⊢
    split at hp
    · exact h _ hp
    · cases hp)
theorem impl_layoutOf.bad (fuel n : Nat) (sh : List Int) (k : Nat) (v : Int) (s0 s1 s2 z : Int) (hk : k < sh.length) (hv : sh[k]? = some v) (h : ¬ (0 ≤ v ∧ v ≤ 60)) :
    impl_layoutOf.L0 fuel (n + 1) (impl_layoutOf.t0 sh (k : Int) s0 s1 s2 z) (impl_layoutOf.k0 fuel) = some ([.agg [(.ints .i64 [], true), (.int .i64 0, false), (.int .i64 0, false), (.int .i64 0, false), (.int .i64 0, false)], .one (.bool false, false)], []) := by
  rw [impl_layoutOf.s0, decide_eq_true (by omega), idx_nat hk]
  simp only [cond_true, Option.bind_some, hv]
  by_cases h0 : v < 0
  · rw [decide_eq_true h0]; rfl
  · rw [decide_eq_false h0, decide_eq_true (by omega)]; rfl
theorem impl_layoutOf.good (fuel n : Nat) (sh : List Int) (k : Nat) (v : Int) (s0 s1 s2 z : Int) (hk : k < sh.length) (hv : sh[k]? = some v) (h : 0 ≤ v ∧ v ≤ 60) (hk3 : k < 3) :
    impl_layoutOf.L0 fuel (n + 1) (impl_layoutOf.t0 sh (k : Int) s0 s1 s2 z) (impl_layoutOf.k0 fuel) =
      impl_layoutOf.L0 fuel n (impl_layoutOf.t0 sh ((k : Int) - 1) (bif k == 0 then z else s0) (bif k == 1 then z else s1) (bif k == 2 then z else s2) (IntKind.wrap .i64 (z * v))) (impl_layoutOf.k0 fuel) := by
  rw [impl_layoutOf.s0, decide_eq_true (by omega), idx_nat hk]
  simp only [cond_true, Option.bind_some, hv]
  rw [decide_eq_false (p := v < 0) (by omega), decide_eq_false (p := v > 60) (by omega), wS (x := (k : Int) - 1) (by omega) (by omega)]
  simp only [cond_false]
  match k, hk3 with
  | 0, _ => rfl
  | 1, _ => rfl
  | 2, _ => rfl
theorem impl_layoutOf.last (fuel n : Nat) (sh : List Int) (i : Int) (s0 s1 s2 z : Int) (hi : i < 0) :
    impl_layoutOf.L0 fuel (n + 1) (impl_layoutOf.t0 sh i s0 s1 s2 z) (impl_layoutOf.k0 fuel) = 
      bif decide (z ≤ 60) then some ([.agg [(.ints .i64 sh, false), (.int .i64 s0, false), (.int .i64 s1, false), (.int .i64 s2, false), (.int .i64 z, false)], .one (.bool true, false)], [])
      else some ([.agg [(.ints .i64 [], true), (.int .i64 0, false), (.int .i64 0, false), (.int .i64 0, false), (.int .i64 0, false)], .one (.bool false, false)], []) := by
  rw [impl_layoutOf.s0, decide_eq_false (by omega)]
  simp only [cond_false]
  by_cases hz : z ≤ 60
  · rw [decide_eq_true hz, decide_eq_false (by omega)]; rfl
  · rw [decide_eq_false hz, decide_eq_true (by omega)]; rfl
theorem rng_dec {v : Int} (h : 0 ≤ v ∧ v ≤ 60) : (decide (0 ≤ v) && decide (v ≤ 60)) = true := by simp [h.1, h.2]
theorem rng_bad {v : Int} (h : ¬ (0 ≤ v ∧ v ≤ 60)) : (decide (0 ≤ v) && decide (v ≤ 60)) = false := by
  cases hb : (decide (0 ≤ v) && decide (v ≤ 60)) with
  | false => rfl
  | true => simp at hb; exact absurd hb h
theorem validS1 (a : Int) : validS [a] = ((decide (0 ≤ a) && decide (a ≤ 60)) && decide (IntKind.wrap .i64 (1 * a) ≤ 60)) := by
  simp only [validS, allB_cons, allB_nil, Bool.and_true, volW, volFrom]; rfl
theorem validS2 (a b : Int) : validS [a, b] = ((decide (0 ≤ a) && decide (a ≤ 60)) && (decide (0 ≤ b) && decide (b ≤ 60)) && decide (IntKind.wrap .i64 (IntKind.wrap .i64 (1 * a) * b) ≤ 60)) := by
  simp only [validS, allB_cons, allB_nil, Bool.and_true, volW, volFrom]; rfl
theorem validS3 (a b c : Int) : validS [a, b, c] = ((decide (0 ≤ a) && decide (a ≤ 60)) && ((decide (0 ≤ b) && decide (b ≤ 60)) && (decide (0 ≤ c) && decide (c ≤ 60))) && decide (IntKind.wrap .i64 (IntKind.wrap .i64 (IntKind.wrap .i64 (1 * a) * b) * c) ≤ 60)) := by
  simp only [validS, allB_cons, allB_nil, Bool.and_true, volW, volFrom]; rfl
theorem impl_layoutOf.ok : CallSpec Try.prog impl_layoutOf.E := impl_layoutOf.ok_of (by simp [impl_layoutOf.X]) fun sh h => by
  refine ⟨5, ?_⟩
  rw [impl_layoutOf.e]
  match sh with
  | [] => rw [show decide (((([] : List Int).length : Nat) : Int) > 3) = false from rfl, cond_false, impl_layoutOf.last _ _ _ _ _ _ _ _ (by decide)]; rfl
  | [a] =>
    rw [show decide (((([a] : List Int).length : Nat) : Int) > 3) = false from rfl, cond_false, show IntKind.wrap .i64 ((([a] : List Int).length : Nat) - 1) = ((0 : Nat) : Int) from rfl, validS1]
    by_cases h1 : 0 ≤ a ∧ a ≤ 60
    · rw [impl_layoutOf.good _ _ _ _ a _ _ _ _ (by simp) rfl h1 (by omega), impl_layoutOf.last _ _ _ _ _ _ _ _ (by decide), rng_dec h1, Int.one_mul, wS (x := a) (by omega) (by omega)]
      simp only [strd, volW, volFrom, Int.one_mul, wS (x := a) (by omega) (by omega)]
      cases decide (a ≤ 60) <;> rfl
    · rw [impl_layoutOf.bad _ _ _ _ a _ _ _ _ (by simp) rfl h1, rng_bad h1]; rfl
  | [a, b] =>
    rw [show decide (((([a, b] : List Int).length : Nat) : Int) > 3) = false from rfl, cond_false, show IntKind.wrap .i64 ((([a, b] : List Int).length : Nat) - 1) = ((1 : Nat) : Int) from rfl, validS2]
    by_cases h1 : 0 ≤ b ∧ b ≤ 60
    case neg => rw [impl_layoutOf.bad _ _ _ _ b _ _ _ _ (by simp) rfl h1, rng_bad h1, Bool.and_false]; rfl
    rw [impl_layoutOf.good _ _ _ _ b _ _ _ _ (by simp) rfl h1 (by omega), show (((1 : Nat) : Int) - 1) = ((0 : Nat) : Int) from rfl]
    by_cases h2 : 0 ≤ a ∧ a ≤ 60
    case neg => rw [impl_layoutOf.bad _ _ _ _ a _ _ _ _ (by simp) rfl h2, rng_bad h2]; rfl
    have hm := mul60 h2.1 h2.2 h1.1 h1.2
    rw [impl_layoutOf.good _ _ _ _ a _ _ _ _ (by simp) rfl h2 (by omega), impl_layoutOf.last _ _ _ _ _ _ _ _ (by decide), rng_dec h1, rng_dec h2, Int.one_mul, Int.one_mul, wS (x := a) (by omega) (by omega), wS (x := b) (by omega) (by omega), Int.mul_comm b a, wS (x := a * b) (by omega) (by omega)]
    simp only [strd, volW, volFrom, Int.one_mul, wS (x := a) (by omega) (by omega), wS (x := b) (by omega) (by omega), wS (x := a * b) (by omega) (by omega), List.drop_succ_cons, List.drop_zero]
    cases decide (a * b ≤ 60) <;> rfl
  | [a, b, c] =>
    rw [show decide (((([a, b, c] : List Int).length : Nat) : Int) > 3) = false from rfl, cond_false, show IntKind.wrap .i64 ((([a, b, c] : List Int).length : Nat) - 1) = ((2 : Nat) : Int) from rfl, validS3]
    by_cases h0 : 0 ≤ c ∧ c ≤ 60
    case neg => rw [impl_layoutOf.bad _ _ _ _ c _ _ _ _ (by simp) rfl h0, rng_bad h0, Bool.and_false, Bool.and_false]; rfl
    rw [impl_layoutOf.good _ _ _ _ c _ _ _ _ (by simp) rfl h0 (by omega), show (((2 : Nat) : Int) - 1) = ((1 : Nat) : Int) from rfl]
    by_cases h1 : 0 ≤ b ∧ b ≤ 60
    case neg => rw [impl_layoutOf.bad _ _ _ _ b _ _ _ _ (by simp) rfl h1, rng_bad h1, Bool.false_and, Bool.and_false]; rfl
    rw [impl_layoutOf.good _ _ _ _ b _ _ _ _ (by simp) rfl h1 (by omega), show (((1 : Nat) : Int) - 1) = ((0 : Nat) : Int) from rfl]
    by_cases h2 : 0 ≤ a ∧ a ≤ 60
    case neg => rw [impl_layoutOf.bad _ _ _ _ a _ _ _ _ (by simp) rfl h2, rng_bad h2]; rfl
    have hm := mul60 h2.1 h2.2 h1.1 h1.2
    have hm1 := mul60 h1.1 h1.2 h0.1 h0.2
    have hm3 := mul3600 hm.1 hm.2 h0.1 h0.2
    have hc : b * c * a = a * b * c := by rw [Int.mul_comm (b * c) a, Int.mul_assoc]
    rw [impl_layoutOf.good _ _ _ _ a _ _ _ _ (by simp) rfl h2 (by omega), impl_layoutOf.last _ _ _ _ _ _ _ _ (by decide), rng_dec h0, rng_dec h1, rng_dec h2, Int.one_mul, Int.one_mul, wS (x := a) (by omega) (by omega), wS (x := c) (by omega) (by omega), Int.mul_comm c b, wS (x := a * b) (by omega) (by omega), wS (x := b * c) (by omega) (by omega), hc, wS (x := a * b * c) (by omega) (by omega)]
    simp only [strd, volW, volFrom, Int.one_mul, wS (x := a) (by omega) (by omega), wS (x := b) (by omega) (by omega), wS (x := c) (by omega) (by omega), wS (x := a * b) (by omega) (by omega), wS (x := b * c) (by omega) (by omega), wS (x := a * b * c) (by omega) (by omega), List.drop_succ_cons, List.drop_zero]
    cases decide (a * b * c ≤ 60) <;> rfl
  | a :: b :: c :: d :: t =>
    have h1 : ((((a :: b :: c :: d :: t).length : Nat) : Int) > 3) := by simp; omega
    have h2 : ¬ ((((a :: b :: c :: d :: t).length : Nat) : Int) ≤ 3) := by omega
    have h3 : validS (a :: b :: c :: d :: t) = false := by unfold validS; rw [decide_eq_false h2]; rfl
    rw [decide_eq_true h1, h3]
    rfl

namespace impl_isNumber
noncomputable def E : Entry := ⟨50, true, false, fun | [.d (.int .i64 v)] => true | _ => false, fun | [.d (.int .i64 v)] => ([.one ((.bool (numB v)), false)], []) | _ => ([], []), fun _ => [], false, fun _ => none⟩
end impl_isNumber
namespace impl_isNumber
noncomputable def X : List Entry := []
noncomputable def I : List Inl := [⟨50, Try.f50, ⟨[], [], [], [], [], []⟩⟩]
theorem I_ok : ∀ i ∈ I, Try.prog.funcs[i.f]? = some i.fn ∧ (i.fn.name == "runtime.NumGoroutine") = false := by
  intro i hi
  simp only [I, List.mem_cons, List.not_mem_nil, or_false] at hi
  subst hi
  exact ⟨by kernel_rfl, by kernel_rfl⟩
theorem e (fuel : Nat) (p0 : Int) : runF Try.prog X I 0 fuel 50 Try.f50 [.d (.int .i64 p0)] =
  (bif (decide (((-1000000) : Int) ≤ p0)) then
  some ([.one ((.bool (decide ((p0 : Int) ≤ 1000000))), false)], [])
  else
  some ([.one ((.bool false), false)], [])) := by kernel_rfl
end impl_isNumber
theorem impl_isNumber.ok_of (hX : ∀ E ∈ impl_isNumber.X, CallSpec Try.prog E) (h : ∀ (v : Int), (true) = true → ∃ fuel, runF Try.prog impl_isNumber.X impl_isNumber.I 0 fuel 50 Try.f50 [.d (.int .i64 v)] = some ([.one ((.bool (numB v)), false)], [])) : CallSpec Try.prog impl_isNumber.E :=
  callSpec_of (d := 0) hX (by kernel_rfl) impl_isNumber.I_ok (by kernel_rfl) (by kernel_rfl) (by kernel_rfl) (fun _ _ _ _ h => by dsimp only [impl_isNumber.E] at h; cases h) (fun xs hp => by
    dsimp only [impl_isNumber.E] at hp ⊢
    split at hp
    · exact h _ hp
    · cases hp)
theorem impl_isNumber.ok : CallSpec Try.prog impl_isNumber.E := impl_isNumber.ok_of (by simp [impl_isNumber.X]) fun v _ => ⟨0, by
  rw [impl_isNumber.e]
  unfold numB
  cases decide (-1000000 ≤ v) <;> rfl⟩

namespace impl_ValidArray
noncomputable def E : Entry := ⟨27, true, false, fun | [.d (.agg [(.ints .i64 sh), (.ints .i64 da)])] => decide (sh.length < 9223372036854775808) && decide (da.length < 9223372036854775808) | _ => false, fun | [.d (.agg [(.ints .i64 sh), (.ints .i64 da)])] => ([.one ((.bool (validA sh da)), false)], []) | _ => ([], []), fun _ => [], false, fun _ => none⟩
end impl_ValidArray
namespace impl_ValidArray
noncomputable def X : List Entry := [impl_layoutOf.E, impl_isNumber.E]
noncomputable def I : List Inl := [⟨27, Try.f27, ⟨[10], [(1000005, [0, 1, 2, 3, 4, 5, 6, 7, 8, 9, 10, 11, 12, 13, 14, 15, 16, 17, 18, 19, 20, 21, 22, 23, 27, 28, 29, 30, 31, 32, 33])], [], [], [], []⟩⟩]
theorem I_ok : ∀ i ∈ I, Try.prog.funcs[i.f]? = some i.fn ∧ (i.fn.name == "runtime.NumGoroutine") = false := by
  intro i hi
  simp only [I, List.mem_cons, List.not_mem_nil, or_false] at hi
  subst hi
  exact ⟨by kernel_rfl, by kernel_rfl⟩
noncomputable abbrev L0 (fuel n : Nat) (s : St) (k : Kont) := lAt Try.prog X I fuel true 0 false 27 (bodyOf Try.f27) [1, 1, 1, 0, 1, 0] n s k
noncomputable abbrev k0  (fuel : Nat) : Kont := (kAt Try.prog X I fuel true 0 false 27 (bodyOf Try.f27) [1, 1, 1, 0, 1, 0] [] (endK Try.prog Try.f27))
noncomputable def t0 (p0q1 : List Int) (x0q2 : Int) : St := ⟨[.dead, .dead, .dead, .dead, .dead, .dead, .dead, .dead, .dead, .dead, .dead, .dead, .dead, .dead, .dead, .dead, .dead, .dead, .dead, .dead, .dead, .dead, .dead, .dead, (.imm (.ints .i64 p0q1)), (.imm (.int .i64 ((p0q1.length : Nat) : Int))), (.imm (.int .i64 x0q2)), .dead, .dead, .dead, .dead, .dead, .dead, .dead], hOf [], [], []⟩
theorem e (fuel : Nat) (p0q0 : List Int) (p0q1 : List Int) : runF Try.prog X I 0 fuel 27 Try.f27 [.d (.agg [(.ints .i64 p0q0), (.ints .i64 p0q1)])] =
  (bif decide (p0q0.length < 9223372036854775808) then
  (bif validS p0q0 then
  (bif ((((p0q1.length : Nat) : Int) : Int) != (volW p0q0)) then
  some ([.one ((.bool false), false)], [])
  else
  L0 fuel fuel (t0 p0q1 0) (k0  fuel))
  else
  some ([.one ((.bool false), false)], []))
  else
  none) := by kernel_rfl
theorem s0 (fuel n0 : Nat) (p0q1 : List Int) (x0q2 : Int) : L0 fuel (n0 + 1) (t0 p0q1 x0q2) (k0  fuel) =
  (bif (decide ((x0q2 : Int) < ((p0q1.length : Nat) : Int))) then
  (idx x0q2 p0q1.length).bind fun j5 =>
  (p0q1[j5]?).bind fun v6 =>
  (bif (!(numB v6)) then
  some ([.one ((.bool false), false)], [])
  else
  L0 fuel n0 (t0 p0q1 ((IntKind.wrap .i64 (x0q2 + 1)))) (k0  fuel))
  else
  some ([.one ((.bool true), false)], [])) := by kernel_rfl
end impl_ValidArray
theorem impl_ValidArray.ok_of (hX : ∀ E ∈ impl_ValidArray.X, CallSpec Try.prog E) (h : ∀ (sh : List Int) (da : List Int), (decide (sh.length < 9223372036854775808) && decide (da.length < 9223372036854775808)) = true → ∃ fuel, runF Try.prog impl_ValidArray.X impl_ValidArray.I 0 fuel 27 Try.f27 [.d (.agg [(.ints .i64 sh), (.ints .i64 da)])] = some ([.one ((.bool (validA sh da)), false)], [])) : CallSpec Try.prog impl_ValidArray.E :=
  callSpec_of (d := 0) hX (by kernel_rfl) impl_ValidArray.I_ok (by kernel_rfl) (by kernel_rfl) (by kernel_rfl) (fun _ _ _ _ h => by dsimp only [impl_ValidArray.E] at h; cases h) (fun xs hp => by
    dsimp only [impl_ValidArray.E] at hp ⊢
    split at hp
    · exact h _ _ hp
    · cases hp)
theorem impl_ValidArray.loop (fuel : Nat) (xs : List Int) (hx : xs.length < 9223372036854775808) : ∀ (m n j : Nat), xs.length - j = m → m < n → j ≤ xs.length →
    impl_ValidArray.L0 fuel n (impl_ValidArray.t0 xs (j : Int)) (impl_ValidArray.k0 fuel) = some ([.one (.bool (allB (xs.drop j) (-1000000) 1000000), false)], []) := by
  intro m
  induction m with
  | zero =>
    intro n j h1 h2 h3
    obtain ⟨n, rfl⟩ : ∃ n', n = n' + 1 := ⟨n - 1, by omega⟩
    have hj : ¬ j < xs.length := by omega
    rw [impl_ValidArray.s0, dge hj, dropE hj]
    rfl
  | succ m ih =>
    intro n j h1 h2 h3
    obtain ⟨n, rfl⟩ : ∃ n', n = n' + 1 := ⟨n - 1, by omega⟩
    have hj : j < xs.length := by omega
    rw [impl_ValidArray.s0, dlt hj, idx_nat hj, w1 (by omega), dropS hj]
    simp only [cond_true, Option.bind_some, getS hj, allB_cons, numB_eq]
    rw [ih n (j + 1) (by omega) (by omega) (by omega)]
    cases decide (-1000000 ≤ xs[j]) && decide (xs[j] ≤ 1000000) <;> rfl

theorem impl_ValidArray.ok : CallSpec Try.prog impl_ValidArray.E := impl_ValidArray.ok_of (by simp [impl_ValidArray.X, impl_layoutOf.ok, impl_isNumber.ok]) fun sh da h => by
  simp only [Bool.and_eq_true, decide_eq_true_eq] at h
  refine ⟨da.length + 1, ?_⟩
  rw [impl_ValidArray.e, lt_of h.1]
  have := impl_ValidArray.loop (da.length + 1) da h.2 da.length (da.length + 1) 0 (by omega) (by omega) (by omega)
  simp only [cond_true, List.drop_zero] at this ⊢
  rw [show ((0 : Nat) : Int) = 0 from rfl] at this
  rw [this]
  unfold validA
  cases validS sh
  · rfl
  · cases hb : (((da.length : Nat) : Int) == volW sh) with
    | true => simp [bne, hb]
    | false => simp [bne, hb]

namespace impl_layoutOf_j
noncomputable def E : Entry := ⟨35, false, false, fun | [.d (.ints .i64 sh)] => decide (sh.length < 9223372036854775808) | _ => false, fun | [.d (.ints .i64 sh)] => ([.agg [(.junk, false), ((.int .i64 0), false), ((.int .i64 0), false), ((.int .i64 0), false), ((.int .i64 0), false)], .one ((.bool false), false)], []) | _ => ([], []), fun | [.d (.ints .i64 sh)] => [(validS sh, ([.agg [(.junk, false), ((.int .i64 (strd sh 0)), false), ((.int .i64 (strd sh 1)), false), ((.int .i64 (strd sh 2)), false), ((.int .i64 (volW sh)), false)], .one ((.bool true), false)], []))] | _ => [], true, fun _ => none⟩
end impl_layoutOf_j
theorem impl_layoutOf_j.ok : CallSpec Try.prog impl_layoutOf_j.E := CallSpec.le impl_layoutOf.ok rfl (fun _ _ _ _ h => by dsimp only [impl_layoutOf_j.E] at h; cases h) fun xs h => by
  dsimp only [impl_layoutOf_j.E] at h
  split at h
  case h_2 => simp at h
  rename_i sh
  refine ⟨h, ?_⟩
  simp only [Entry.r, impl_layoutOf_j.E, impl_layoutOf.E, pickR]
  cases hv : validS sh
  · refine ⟨.agg rfl (fun i h1 h2 => ?_) (.same .nil), rfl⟩
    match i, h1 with
    | 0, _ => exact .inr (.inr (.inl ⟨rfl, _, _, rfl⟩))
    | 1, _ | 2, _ | 3, _ | 4, _ => exact .inl rfl
  · refine ⟨.agg rfl (fun i h1 h2 => ?_) (.same .nil), rfl⟩
    match i, h1 with
    | 0, _ => exact .inr (.inl ⟨rfl, rfl, rfl, rfl⟩)
    | 1, _ | 2, _ | 3, _ | 4, _ => exact .inl rfl

namespace impl_PlaceOf
noncomputable def E : Entry := ⟨24, false, false, fun | [.d (.ints .i64 sh), .d (.int .i64 n)] => decide (sh.length < 9223372036854775808) | _ => false, fun | [.d (.ints .i64 sh), .d (.int .i64 n)] => ([.one ((.ints .i64 (plD sh n)), true), .one ((.bool (plB sh n)), false)], []) | _ => ([], []), fun _ => [], true, fun _ => none⟩
end impl_PlaceOf
namespace impl_PlaceOf
noncomputable def X : List Entry := [impl_layoutOf.E]
noncomputable def I : List Inl := [⟨24, Try.f24, ⟨[10, 28], [(4, [0, 2, 3, 4, 5, 7, 8, 9, 10, 11, 12, 13, 14, 15, 16, 17, 18, 19, 20, 21, 22, 23, 24, 25, 26, 27, 28])], [], [], [], []⟩⟩, ⟨48, Try.f48, ⟨[], [], [(1, [2, 3])], [], [], []⟩⟩, ⟨47, Try.f47, ⟨[4], [(1, [1, 2, 3, 4])], [], [], [], []⟩⟩, ⟨62, Try.f62, ⟨[2], [], [], [], [], []⟩⟩, ⟨63, Try.f63, ⟨[], [(1000001, [3, 4, 5, 6, 10, 11, 12, 13, 14, 15, 16, 17, 18, 19, 20, 21, 22, 23, 24, 25])], [], [(3, [0, 2, 3, 7, 1, 4, 5, 6, 8, 9, 10])], [], [23]⟩⟩]
theorem I_ok : ∀ i ∈ I, Try.prog.funcs[i.f]? = some i.fn ∧ (i.fn.name == "runtime.NumGoroutine") = false := by
  intro i hi
  simp only [I, List.mem_cons, List.not_mem_nil, or_false] at hi
  rcases hi with rfl | rfl | rfl | rfl | rfl
  all_goals exact ⟨by kernel_rfl, by kernel_rfl⟩
noncomputable abbrev L0 (fuel n : Nat) (s : St) (k : Kont) := lAt Try.prog X I fuel true 1 false 63 (bodyOf Try.f63) [1, 0] n s k
noncomputable abbrev k0  (fuel : Nat) : Kont := (kAt Try.prog X I fuel true 1 false 63 (bodyOf Try.f63) [1, 0] [] (endFn Try.prog Try.f63 13 (kRange (kAt Try.prog X I fuel true 2 false 62 (bodyOf Try.f62) [1, 0, 1, 0] [] (endFn Try.prog Try.f62 5 (kOp Try.prog X I fuel true 3 47 (cAt (bodyOf Try.f47) [1, 0]) 1 (kAt Try.prog X I fuel true 3 false 47 (bodyOf Try.f47) [1, 0] [] (endFn Try.prog Try.f47 29 (kOp Try.prog X I fuel true 4 24 (cAt (bodyOf Try.f24) [1, 1, 1, 0]) 3 (kAt Try.prog X I fuel true 4 false 24 (bodyOf Try.f24) [1, 1, 1, 0] [] (endK Try.prog Try.f24)))))))))))
noncomputable def t0 (p0 : List Int) (p1 : Int) (x0q8 : Int) (x0q26 : List Int) : St := ⟨[(.yld 1000000002), (.imm (.pbox [(.ints .i64 p0), (.int .i64 (strd p0 0)), (.int .i64 (strd p0 1)), (.int .i64 (strd p0 2)), (.int .i64 (volW p0))])), (.imm (.pbox [(.int .i64 p1)])), .dead, .dead, .dead, .dead, (.imm (.ints .i64 p0)), (.imm (.int .i64 ((p0.length : Nat) : Int))), (.imm (.int .i64 x0q8)), .dead, .dead, .dead, .dead, .dead, .dead, .dead, .dead, .dead, .dead, .dead, .dead, .dead, .dead, .dead, .dead], hOf [(1000000000, .dfr), (1000000001, (.box [(.imm (.ints .i64 p0)), (.imm (.int .i64 (strd p0 0))), (.imm (.int .i64 (strd p0 1))), (.imm (.int .i64 (strd p0 2))), (.imm (.int .i64 (volW p0)))])), (1000000002, (.loop 62 [(.imm .nils), (.imm (.clo 63 [(.pbox [(.ints .i64 p0), (.int .i64 (strd p0 0)), (.int .i64 (strd p0 1)), (.int .i64 (strd p0 2)), (.int .i64 (volW p0))]), (.pbox [(.int .i64 p1)])])), (.ptr 1000000003 0 0), .undef, (.imm .nils), .undef, (.imm (.clo 63 [(.pbox [(.ints .i64 p0), (.int .i64 (strd p0 0)), (.int .i64 (strd p0 1)), (.int .i64 (strd p0 2)), (.int .i64 (volW p0))]), (.pbox [(.int .i64 p1)])])), .undef, .undef, .undef, .undef, .undef, .undef] [7] (cAt (bodyOf Try.f62) [1, 0, 1, 0, 0]) (cAt (bodyOf Try.f62) [1, 0, 1, 0, 1]) .ready)), (1000000003, (.box [(.all 1000000004 1)])), (1000000004, (.ints .i64 x0q26))], [(.imm .nils), (.imm (.clo 63 [(.pbox [(.ints .i64 p0), (.int .i64 (strd p0 0)), (.int .i64 (strd p0 1)), (.int .i64 (strd p0 2)), (.int .i64 (volW p0))]), (.pbox [(.int .i64 p1)])])), (.ptr 1000000003 0 0), .undef, (.imm .nils), .undef, (.imm (.clo 63 [(.pbox [(.ints .i64 p0), (.int .i64 (strd p0 0)), (.int .i64 (strd p0 1)), (.int .i64 (strd p0 2)), (.int .i64 (volW p0))]), (.pbox [(.int .i64 p1)])])), .undef, .undef, .undef, .undef, .undef, .undef, (.tup [(.dfr 1000000000)]), (.yld 1000000002), (.imm (.clo 63 [(.pbox [(.ints .i64 p0), (.int .i64 (strd p0 0)), (.int .i64 (strd p0 1)), (.int .i64 (strd p0 2)), (.int .i64 (volW p0))]), (.pbox [(.int .i64 p1)])])), .dead, .dead, (.imm (.clo 63 [(.pbox [(.ints .i64 p0), (.int .i64 (strd p0 0)), (.int .i64 (strd p0 1)), (.int .i64 (strd p0 2)), (.int .i64 (volW p0))]), (.pbox [(.int .i64 p1)])])), .dead, (.tup []), .dead, (.imm (.int .i64 p1)), .dead, .dead, .dead, .dead, (.ptr 1000000001 0 0), .dead, .dead, .dead, .dead, .dead, .dead, .dead, .dead, .dead, .dead, .dead, .dead, .dead, .dead, .dead, .dead, .dead, .dead, (.agg [(.imm (.ints .i64 p0)), (.imm (.int .i64 (strd p0 0))), (.imm (.int .i64 (strd p0 1))), (.imm (.int .i64 (strd p0 2))), (.imm (.int .i64 (volW p0)))]), (.imm (.int .i64 p1)), (.imm (.clo 63 [(.pbox [(.ints .i64 p0), (.int .i64 (strd p0 0)), (.int .i64 (strd p0 1)), (.int .i64 (strd p0 2)), (.int .i64 (volW p0))]), (.pbox [(.int .i64 p1)])])), .dead, (.tup [])], []⟩
theorem e (fuel : Nat) (p0 : List Int) (p1 : Int) : runF Try.prog X I 4 fuel 24 Try.f24 [.d (.ints .i64 p0), .d (.int .i64 p1)] =
  (bif decide (p0.length < 9223372036854775808) then
  (bif validS p0 then
  (bif (decide ((p1 : Int) < 0)) then
  some ([.one ((.ints .i64 []), true), .one ((.bool false), false)], [])
  else
  (bif (decide ((p1 : Int) ≥ (volW p0))) then
  some ([.one ((.ints .i64 []), true), .one ((.bool false), false)], [])
  else
  L0 fuel fuel (t0 p0 p1 0 ([])) (k0  fuel)))
  else
  some ([.one ((.ints .i64 []), true), .one ((.bool false), false)], []))
  else
  none) := by kernel_rfl
theorem s0 (fuel n0 : Nat) (p0 : List Int) (p1 : Int) (x0q8 : Int) (x0q26 : List Int) : L0 fuel (n0 + 1) (t0 p0 p1 x0q8 x0q26) (k0  fuel) =
  (bif (decide ((x0q8 : Int) < ((p0.length : Nat) : Int))) then
  (idx x0q8 p0.length).bind fun j5 =>
  (p0[j5]?).bind fun v6 =>
  (bif decide (x0q8 = ((0 : Nat) : Int)) then
  (bif decide (((strd p0 0) : Int) = 0) then
  none
  else
  (bif decide ((v6 : Int) = 0) then
  none
  else
  (bif fits (x0q26.length + ([(Int.tmod (IntKind.wrap .i64 (Int.tdiv p1 (strd p0 0))) v6)] : List Int).length) 8 then
  L0 fuel n0 (t0 p0 p1 ((IntKind.wrap .i64 (x0q8 + 1))) ((x0q26 ++ [(Int.tmod (IntKind.wrap .i64 (Int.tdiv p1 (strd p0 0))) v6)]))) (k0  fuel)
  else
  none)))
  else
  (bif decide (x0q8 = ((1 : Nat) : Int)) then
  (bif decide (((strd p0 1) : Int) = 0) then
  none
  else
  (bif decide ((v6 : Int) = 0) then
  none
  else
  (bif fits (x0q26.length + ([(Int.tmod (IntKind.wrap .i64 (Int.tdiv p1 (strd p0 1))) v6)] : List Int).length) 8 then
  L0 fuel n0 (t0 p0 p1 ((IntKind.wrap .i64 (x0q8 + 1))) ((x0q26 ++ [(Int.tmod (IntKind.wrap .i64 (Int.tdiv p1 (strd p0 1))) v6)]))) (k0  fuel)
  else
  none)))
  else
  (bif decide (x0q8 = ((2 : Nat) : Int)) then
  (bif decide (((strd p0 2) : Int) = 0) then
  none
  else
  (bif decide ((v6 : Int) = 0) then
  none
  else
  (bif fits (x0q26.length + ([(Int.tmod (IntKind.wrap .i64 (Int.tdiv p1 (strd p0 2))) v6)] : List Int).length) 8 then
  L0 fuel n0 (t0 p0 p1 ((IntKind.wrap .i64 (x0q8 + 1))) ((x0q26 ++ [(Int.tmod (IntKind.wrap .i64 (Int.tdiv p1 (strd p0 2))) v6)]))) (k0  fuel)
  else
  none)))
  else
  none)))
  else
  some ([.one ((.ints .i64 x0q26), true), .one ((.bool true), false)], [])) := by kernel_rfl
end impl_PlaceOf
theorem impl_PlaceOf.ok_of (hX : ∀ E ∈ impl_PlaceOf.X, CallSpec Try.prog E) (h : ∀ (sh : List Int) (n : Int), (decide (sh.length < 9223372036854775808)) = true → ∃ fuel, runF Try.prog impl_PlaceOf.X impl_PlaceOf.I 4 fuel 24 Try.f24 [.d (.ints .i64 sh), .d (.int .i64 n)] = some ([.one ((.ints .i64 (plD sh n)), true), .one ((.bool (plB sh n)), false)], [])) : CallSpec Try.prog impl_PlaceOf.E :=
  callSpec_of (d := 4) hX (by kernel_rfl) impl_PlaceOf.I_ok (by kernel_rfl) (by kernel_rfl) (by kernel_rfl) (fun _ _ _ _ h => by dsimp only [impl_PlaceOf.E] at h; cases h) (fun xs hp => by
    dsimp only [impl_PlaceOf.E] at hp ⊢
    split at hp
    · exact h _ _ hp
    · cases hp)
theorem impl_PlaceOf.loop (fuel : Nat) (sh : List Int) (n : Nat) (hv : validS sh = true) (hn : n < prodN sh) (h60 : prodN sh ≤ 60) (hf : 3 < fuel) :
    impl_PlaceOf.L0 fuel fuel (impl_PlaceOf.t0 sh (n : Int) 0 []) (impl_PlaceOf.k0 fuel) = some ([.one ((.ints .i64 (plN sh n)), true), .one ((.bool true), false)], []) := by
  have hr := (validS_inv hv).1
  refine run_loop (N := sh.length) (fun f j out => impl_PlaceOf.L0 fuel f (impl_PlaceOf.t0 sh (n : Int) (j : Int) out) (impl_PlaceOf.k0 fuel)) (fun j out => out = tab j fun k => ((n / behN sh k % lenN sh k : Nat) : Int)) ?_ ?_ fuel 0 [] (by omega) (by omega) rfl
  · intro f out ho
    change out = plN sh n at ho
    rw [impl_PlaceOf.s0, dge (by omega), ho]
    rfl
  · intro f k out hk ho
    have ax := ax_of hv hk
    have hl : out.length = k := by rw [ho, tab_length]
    obtain ⟨p1, p2, _⟩ := pl_pos hn hk
    have hst := strd_beh ax
    have hdl : n / behN sh k ≤ n := Nat.div_le_self _ _
    have hfit : fits (out.length + [((n / behN sh k % lenN sh k : Nat) : Int)].length) 8 = true := fitsOk (by simp only [List.length_cons, List.length_nil]; omega)
    rw [impl_PlaceOf.s0, dlt hk, cond_true, idx_nat hk]
    simp only [Option.bind_some, getD_get hk, ax.len]
    have key : ∀ m, m = strd sh k → (bif decide ((m : Int) = 0) then none else (bif decide (((lenN sh k : Nat) : Int) = 0) then none else (bif fits (out.length + ([(Int.tmod (IntKind.wrap .i64 (Int.tdiv (n : Int) m)) ((lenN sh k : Nat) : Int))] : List Int).length) 8 then impl_PlaceOf.L0 fuel f (impl_PlaceOf.t0 sh (n : Int) ((IntKind.wrap .i64 ((k : Int) + 1))) ((out ++ [(Int.tmod (IntKind.wrap .i64 (Int.tdiv (n : Int) m)) ((lenN sh k : Nat) : Int))]))) (impl_PlaceOf.k0 fuel) else none))) =
        impl_PlaceOf.L0 fuel f (impl_PlaceOf.t0 sh (n : Int) ((k + 1 : Nat) : Int) (tab (k + 1) fun k => ((n / behN sh k % lenN sh k : Nat) : Int))) (impl_PlaceOf.k0 fuel) := by
      rintro m rfl
      rw [hst, decide_eq_false (by omega), decide_eq_false (by omega), tdivN, wN (by omega), tmodN, hfit, w1 (by omega), tab_succ, ho]
      rfl
    refine ⟨_, rfl, ?_⟩
    match k, key with
    | 0, key => rw [decide_eq_true (p := ((0 : Nat) : Int) = ((0 : Nat) : Int)) rfl, cond_true]; exact key _ rfl
    | 1, key => rw [decide_eq_false (p := ((1 : Nat) : Int) = ((0 : Nat) : Int)) (by omega), cond_false, decide_eq_true (p := ((1 : Nat) : Int) = ((1 : Nat) : Int)) rfl, cond_true]; exact key _ rfl
    | 2, key => rw [decide_eq_false (p := ((2 : Nat) : Int) = ((0 : Nat) : Int)) (by omega), cond_false, decide_eq_false (p := ((2 : Nat) : Int) = ((1 : Nat) : Int)) (by omega), cond_false, decide_eq_true (p := ((2 : Nat) : Int) = ((2 : Nat) : Int)) rfl, cond_true]; exact key _ rfl
    | k + 3, _ => omega
theorem impl_PlaceOf.ok : CallSpec Try.prog impl_PlaceOf.E := impl_PlaceOf.ok_of (by simp [impl_PlaceOf.X, impl_layoutOf.ok]) fun sh n h => ⟨4, by
  rw [impl_PlaceOf.e, h]
  unfold plD
  cases hv : validS sh with
  | false => simp only [plB, hv]; rfl
  | true =>
    by_cases h0 : n < 0
    · rw [decide_eq_true h0, show plB sh n = false by simp only [plB, decide_eq_false (show ¬ 0 ≤ n by omega), Bool.and_false, Bool.false_and]]; rfl
    by_cases h1 : n ≥ volW sh
    · rw [decide_eq_false h0, decide_eq_true h1, show plB sh n = false by simp only [plB, decide_eq_false (show ¬ n < volW sh by omega), Bool.and_false]]; rfl
    have hb : plB sh n = true := by simp only [plB, hv, decide_eq_true (show 0 ≤ n by omega), decide_eq_true (show n < volW sh by omega), Bool.and_self]
    rw [decide_eq_false h0, decide_eq_false h1, hb]
    obtain ⟨j, rfl, _, hj, _, h60⟩ := plB_inv hb
    exact impl_PlaceOf.loop 4 sh j hv hj h60 (by omega)⟩

namespace impl_MoveAxes
noncomputable def E : Entry := ⟨13, false, false, fun | [.d (.agg [(.ints .i64 sh), (.ints .i64 da)]), .d (.ints .i64 order)] => decide (sh.length < 9223372036854775808) && decide (da.length < 9223372036854775808) && decide (order.length < 9223372036854775808) | _ => false, fun | [.d (.agg [(.ints .i64 sh), (.ints .i64 da)]), .d (.ints .i64 order)] => ([.agg [((.ints .i64 (mvS sh da order)), true), ((.ints .i64 (mvD sh da order)), true)], .one ((.bool (mvB sh da order)), false)], []) | _ => ([], []), fun _ => [], true, fun _ => none⟩
end impl_MoveAxes
namespace impl_MoveAxes
noncomputable def X : List Entry := [impl_OrderBack.E, impl_ValidArray.E, impl_layoutOf_j.E, impl_PlaceOf.E]
noncomputable def I : List Inl := [⟨13, Try.f13, ⟨[16, 38, 72], [(11, [0, 1, 3, 5, 6, 7, 8, 9, 12, 13, 14, 15, 16, 17, 18, 19, 20, 21, 22, 23, 24, 25, 26, 27, 28, 29, 30, 31, 32, 33, 34, 35, 36, 37, 38, 39, 40, 41, 42, 43, 44, 45, 46, 47, 48, 49, 50, 51, 52, 53, 54, 55, 56, 57, 58, 59, 60, 61, 62, 63, 64, 65, 66, 67, 68, 69, 70, 71, 72, 73, 74]), (1000007, [0, 1, 3, 5, 6, 7, 9, 12, 13, 14, 15, 16, 17, 18, 19, 20, 21, 22, 23, 24, 25, 26, 27, 28, 29, 30, 31, 32, 33, 34, 35, 36, 37, 38, 39, 40, 41, 42, 43, 44, 45, 46, 50, 51, 52, 53, 54, 55, 56, 57, 58, 59, 60, 61, 62, 63, 64, 65, 66, 67, 68, 69, 70, 71, 72, 73, 74])], [(6, [8]), (5000056, [67])], [(5, [0, 1, 2, 6, 7, 8, 3, 4, 5, 9]), (9, [0, 1, 4, 5, 6, 7, 8, 13, 2, 3, 9, 10, 11, 12, 14, 15, 16])], [45, 65, 66], []⟩⟩, ⟨36, Try.f36, ⟨[12], [(1000006, [2, 3, 5, 6, 7, 9, 10, 11, 12, 13, 14, 15, 16, 17, 18, 19, 20, 21, 24, 25, 26, 27, 28, 29, 30, 31, 32, 33, 34, 35])], [], [], [], []⟩⟩, ⟨37, Try.f37, ⟨[14], [(1000004, [0, 1, 4, 5, 6, 7, 9, 10, 11, 12, 13, 14, 15, 16, 20, 21, 22, 23, 24, 25, 26, 27, 28, 29, 30, 31, 32, 33, 34, 35, 36, 37])], [], [], [], []⟩⟩]
theorem I_ok : ∀ i ∈ I, Try.prog.funcs[i.f]? = some i.fn ∧ (i.fn.name == "runtime.NumGoroutine") = false := by
  intro i hi
  simp only [I, List.mem_cons, List.not_mem_nil, or_false] at hi
  rcases hi with rfl | rfl | rfl
  all_goals exact ⟨by kernel_rfl, by kernel_rfl⟩
noncomputable abbrev L0 (fuel n : Nat) (s : St) (k : Kont) := lAt Try.prog X I fuel true 4 false 13 (bodyOf Try.f13) [1, 1, 1, 1, 1, 0, 1, 0] n s k
noncomputable abbrev k0  (fuel : Nat) : Kont := (kAt Try.prog X I fuel true 4 false 13 (bodyOf Try.f13) [1, 1, 1, 1, 1, 0, 1, 0] [] (endK Try.prog Try.f13))
noncomputable def t0 (p1 : List Int) (p0q0 : List Int) (p0q1 : List Int) (x0q0 : Int) (x0q1 : Int) (x0q2 : Int) (x0q3 : Int) (x0q6 : Int) (x0q9 : List Int) (x0q10 : List Int) : St := ⟨[.dead, .dead, (.ptr 1000000000 0 0), .dead, (.ptr 1000000001 0 0), .dead, .dead, .dead, (.dptr [.junk, (.int .i64 x0q0), (.int .i64 x0q1), (.int .i64 x0q2), (.int .i64 x0q3)] 0), .dead, (.ptr 1000000002 0 0), (.ptr 1000000003 0 0), .dead, .dead, .dead, .dead, .dead, .dead, .dead, .dead, .dead, .dead, .dead, .dead, .dead, .dead, .dead, .dead, .dead, .dead, .dead, .dead, .dead, .dead, .dead, .dead, .dead, .dead, .dead, .dead, .dead, .dead, .dead, .dead, .dead, .dead, .dead, (.imm (.ints .i64 p1)), (.imm (.int .i64 ((p1.length : Nat) : Int))), (.imm (.int .i64 x0q6)), .dead, .dead, .dead, .dead, .dead, .dead, .dead, .dead, .dead, .dead, .dead, .dead, .dead, .dead, .dead, .dead, .dead, .dead, .dead, .dead, .dead, .dead, .dead, .dead, .dead], hOf [(1000000000, (.box [(.imm (.ints .i64 p0q0)), (.imm (.ints .i64 p0q1))])), (1000000001, (.box [(.imm .nils), (.imm .nils)])), (1000000002, (.box [(.all 1000000004 1)])), (1000000003, (.box [(.all 1000000005 1)])), (1000000004, (.ints .i64 x0q9)), (1000000005, (.ints .i64 x0q10))], [], []⟩
noncomputable abbrev L1 (fuel n : Nat) (s : St) (k : Kont) := lAt Try.prog X I fuel true 3 false 36 (bodyOf Try.f36) [1, 1, 1, 1, 0, 1, 0] n s k
noncomputable abbrev k1  (fuel : Nat) : Kont := (kAt Try.prog X I fuel true 3 false 36 (bodyOf Try.f36) [1, 1, 1, 1, 0, 1, 0] [] (endFn Try.prog Try.f36 75 (kOp Try.prog X I fuel true 4 13 (cAt (bodyOf Try.f13) [1, 1, 1, 1, 1, 1, 0]) 2 (kAt Try.prog X I fuel true 4 false 13 (bodyOf Try.f13) [1, 1, 1, 1, 1, 1, 0] [] (endK Try.prog Try.f13)))))
noncomputable def t1 (x0q9 : List Int) (p0q0 : List Int) (p0q1 : List Int) (x0q10 : List Int) (x1q1 : Int) (x1q4 : List Int) : St := ⟨[(.all 1000000006 1), (.clo 37 [(.ptr 1000000001 0 0), (.ptr 1000000002 0 0), (.ptr 1000000003 0 0)]), .dead, .dead, (.ptr 1000000004 0 0), .dead, .dead, .dead, (.all 1000000005 1), .dead, .dead, .dead, .dead, .dead, .dead, .dead, .dead, .dead, .dead, .dead, .dead, .dead, (.imm (.int .i64 (((List.replicate ((volW x0q9)).toNat (0 : Int)).length : Nat) : Int))), (.imm (.int .i64 x1q1)), .dead, .dead, .dead, .dead, .dead, .dead, .dead, .dead, .dead, .dead, .dead, .dead], hOf [(1000000000, (.box [(.imm .nils), (.imm .nils)])), (1000000001, (.box [(.all 1000000006 1)])), (1000000002, (.box [(.all 1000000007 1)])), (1000000003, (.box [(.imm (.ints .i64 p0q0)), (.imm (.ints .i64 p0q1))])), (1000000004, (.box [(.imm .nils), (.imm .nils)])), (1000000005, (.ints .i64 x1q4)), (1000000006, (.ints .i64 x0q9)), (1000000007, (.ints .i64 x0q10))], [.dead, .dead, (.ptr 1000000003 0 0), .dead, (.ptr 1000000000 0 0), .dead, .dead, .dead, .dead, .dead, (.ptr 1000000001 0 0), (.ptr 1000000002 0 0), .dead, .dead, .dead, .dead, .dead, .dead, .dead, .dead, .dead, .dead, .dead, .dead, .dead, .dead, .dead, .dead, .dead, .dead, .dead, .dead, .dead, .dead, .dead, .dead, .dead, .dead, .dead, .dead, .dead, .dead, .dead, .dead, .dead, .dead, .dead, .dead, .dead, .dead, .dead, .dead, .dead, .dead, .dead, .dead, .dead, .dead, .dead, .dead, .dead, .dead, .dead, .dead, .dead, .dead, .dead, .dead, .dead, .dead, (.all 1000000006 1), (.clo 37 [(.ptr 1000000001 0 0), (.ptr 1000000002 0 0), (.ptr 1000000003 0 0)]), .dead, .dead, .dead, (.tup [])], []⟩
noncomputable abbrev L2 (fuel n : Nat) (s : St) (k : Kont) := lAt Try.prog X I fuel true 2 false 37 (bodyOf Try.f37) [1, 1, 1, 0, 1, 0] n s k
noncomputable abbrev k2 (n1 : Nat) (fuel : Nat) : Kont := (kAt Try.prog X I fuel true 2 false 37 (bodyOf Try.f37) [1, 1, 1, 0, 1, 0] [] (endFn Try.prog Try.f37 36 (kOp Try.prog X I fuel true 3 36 (cAt (bodyOf Try.f36) [1, 1, 1, 1, 0, 1, 0, 0, 1, 1, 0, 0, 1]) 4 (kAt Try.prog X I fuel true 3 false 36 (bodyOf Try.f36) [1, 1, 1, 1, 0, 1, 0, 0, 1, 1, 0, 0, 1] [n1] (endFn Try.prog Try.f36 75 (kOp Try.prog X I fuel true 4 13 (cAt (bodyOf Try.f13) [1, 1, 1, 1, 1, 1, 0]) 2 (kAt Try.prog X I fuel true 4 false 13 (bodyOf Try.f13) [1, 1, 1, 1, 1, 1, 0] [] (endK Try.prog Try.f13))))))))
noncomputable def t2 (x0q9 : List Int) (x1q1 : Int) (x1q4 : List Int) (p0q0 : List Int) (p0q1 : List Int) (x0q10 : List Int) (x2q0 : Int) (x2q2 : Int) : St := ⟨[.dead, .dead, (.ptr 1000000004 0 0), (.ptr 1000000005 0 0), .dead, .dead, .dead, .dead, (.imm (.int .i64 x2q0)), .dead, .dead, .dead, .dead, .dead, .dead, .dead, .dead, (.all 1000000006 1), (.imm (.int .i64 (((plD x0q9 x1q1).length : Nat) : Int))), (.imm (.int .i64 x2q2)), .dead, .dead, .dead, .dead, .dead, .dead, .dead, .dead, .dead, .dead, .dead, .dead, .dead, .dead, .dead, .dead, .dead, .dead], hOf [(1000000000, (.box [(.imm .nils), (.imm .nils)])), (1000000001, (.ints .i64 x1q4)), (1000000002, (.box [(.imm .nils), (.imm .nils)])), (1000000003, (.box [(.all 1000000007 1)])), (1000000004, (.box [(.all 1000000008 1)])), (1000000005, (.box [(.imm (.ints .i64 p0q0)), (.imm (.ints .i64 p0q1))])), (1000000006, (.ints .i64 (plD x0q9 x1q1))), (1000000007, (.ints .i64 x0q9)), (1000000008, (.ints .i64 x0q10))], [(.all 1000000007 1), (.clo 37 [(.ptr 1000000003 0 0), (.ptr 1000000004 0 0), (.ptr 1000000005 0 0)]), .dead, .dead, (.ptr 1000000000 0 0), .dead, .dead, .dead, (.all 1000000001 1), (.imm (.int .i64 x1q1)), .dead, .dead, .dead, .dead, .dead, .dead, .dead, .dead, .dead, .dead, .dead, .dead, (.imm (.int .i64 (((List.replicate ((volW x0q9)).toNat (0 : Int)).length : Nat) : Int))), (.imm (.int .i64 x1q1)), (.imm (.bool true)), (.imm (.int .i64 x1q1)), (.all 1000000001 1), (.imm (.int .i64 x1q1)), (.clo 37 [(.ptr 1000000003 0 0), (.ptr 1000000004 0 0), (.ptr 1000000005 0 0)]), (.imm (.int .i64 x1q1)), .dead, .dead, .dead, .dead, .dead, .dead, (.tup []), .dead, .dead, (.ptr 1000000005 0 0), .dead, (.ptr 1000000002 0 0), .dead, .dead, .dead, .dead, .dead, (.ptr 1000000003 0 0), (.ptr 1000000004 0 0), .dead, .dead, .dead, .dead, .dead, .dead, .dead, .dead, .dead, .dead, .dead, .dead, .dead, .dead, .dead, .dead, .dead, .dead, .dead, .dead, .dead, .dead, .dead, .dead, .dead, .dead, .dead, .dead, .dead, .dead, .dead, .dead, .dead, .dead, .dead, .dead, .dead, .dead, .dead, .dead, .dead, .dead, .dead, .dead, .dead, .dead, .dead, .dead, .dead, .dead, .dead, .dead, .dead, .dead, .dead, .dead, .dead, .dead, (.all 1000000007 1), (.clo 37 [(.ptr 1000000003 0 0), (.ptr 1000000004 0 0), (.ptr 1000000005 0 0)]), .dead, .dead, .dead, (.tup [])], []⟩
theorem e (fuel : Nat) (p0q0 : List Int) (p0q1 : List Int) (p1 : List Int) : runF Try.prog X I 4 fuel 13 Try.f13 [.d (.agg [(.ints .i64 p0q0), (.ints .i64 p0q1)]), .d (.ints .i64 p1)] =
  (bif decide (p1.length < 9223372036854775808) then
  (bif (!(obB p1)) then
  some ([.agg [((.ints .i64 []), true), ((.ints .i64 []), true)], .one ((.bool false), false)], [])
  else
  (bif decide (p0q0.length < 9223372036854775808) && decide (p0q1.length < 9223372036854775808) then
  (bif (!(validA p0q0 p0q1)) then
  some ([.agg [((.ints .i64 []), true), ((.ints .i64 []), true)], .one ((.bool false), false)], [])
  else
  (bif ((((p1.length : Nat) : Int) : Int) != ((p0q0.length : Nat) : Int)) then
  some ([.agg [((.ints .i64 []), true), ((.ints .i64 []), true)], .one ((.bool false), false)], [])
  else
  (bif decide (p0q0.length < 9223372036854775808) then
  (bif validS p0q0 then
  (bif decide (0 ≤ (((p1.length : Nat) : Int) : Int)) && decide ((((p1.length : Nat) : Int) : Int) ≤ ((p1.length : Nat) : Int)) && decide ((((p1.length : Nat) : Int) : Int) ≤ 1152921504606846976) && decide (((8 : Nat) : Int) * ((p1.length : Nat) : Int) ≤ 281474976710656) then
  (bif decide (0 ≤ (((p1.length : Nat) : Int) : Int)) && decide ((((p1.length : Nat) : Int) : Int) ≤ ((p1.length : Nat) : Int)) && decide ((((p1.length : Nat) : Int) : Int) ≤ 1152921504606846976) && decide (((8 : Nat) : Int) * ((p1.length : Nat) : Int) ≤ 281474976710656) then
  L0 fuel fuel (t0 p1 p0q0 p0q1 ((strd p0q0 0)) ((strd p0q0 1)) ((strd p0q0 2)) ((volW p0q0)) 0 ((List.replicate (((p1.length : Nat) : Int)).toNat (0 : Int))) ((List.replicate (((p1.length : Nat) : Int)).toNat (0 : Int)))) (k0  fuel)
  else
  none)
  else
  none)
  else
  (bif decide (0 ≤ (((p1.length : Nat) : Int) : Int)) && decide ((((p1.length : Nat) : Int) : Int) ≤ ((p1.length : Nat) : Int)) && decide ((((p1.length : Nat) : Int) : Int) ≤ 1152921504606846976) && decide (((8 : Nat) : Int) * ((p1.length : Nat) : Int) ≤ 281474976710656) then
  (bif decide (0 ≤ (((p1.length : Nat) : Int) : Int)) && decide ((((p1.length : Nat) : Int) : Int) ≤ ((p1.length : Nat) : Int)) && decide ((((p1.length : Nat) : Int) : Int) ≤ 1152921504606846976) && decide (((8 : Nat) : Int) * ((p1.length : Nat) : Int) ≤ 281474976710656) then
  L0 fuel fuel (t0 p1 p0q0 p0q1 0 0 0 0 0 ((List.replicate (((p1.length : Nat) : Int)).toNat (0 : Int))) ((List.replicate (((p1.length : Nat) : Int)).toNat (0 : Int)))) (k0  fuel)
  else
  none)
  else
  none))
  else
  none)))
  else
  none))
  else
  none) := by kernel_rfl
theorem s0 (fuel n0 : Nat) (p1 : List Int) (p0q0 : List Int) (p0q1 : List Int) (x0q0 : Int) (x0q1 : Int) (x0q2 : Int) (x0q3 : Int) (x0q6 : Int) (x0q9 : List Int) (x0q10 : List Int) : L0 fuel (n0 + 1) (t0 p1 p0q0 p0q1 x0q0 x0q1 x0q2 x0q3 x0q6 x0q9 x0q10) (k0  fuel) =
  (bif (decide ((x0q6 : Int) < ((p1.length : Nat) : Int))) then
  (idx x0q6 p1.length).bind fun j37 =>
  (p1[j37]?).bind fun v38 =>
  (idx v38 p0q0.length).bind fun j39 =>
  (p0q0[j39]?).bind fun v40 =>
  (idx x0q6 x0q9.length).bind fun j41 =>
  (bif decide (v38 = ((0 : Nat) : Int)) then
  (bif decide (j41 < x0q9.length) then
  (idx x0q6 x0q10.length).bind fun j44 =>
  (bif decide (j44 < x0q10.length) then
  L0 fuel n0 (t0 p1 p0q0 p0q1 x0q0 x0q1 x0q2 x0q3 ((IntKind.wrap .i64 (x0q6 + 1))) ((x0q9.set j41 v40)) ((x0q10.set j44 x0q0))) (k0  fuel)
  else
  none)
  else
  none)
  else
  (bif decide (v38 = ((1 : Nat) : Int)) then
  (bif decide (j41 < x0q9.length) then
  (idx x0q6 x0q10.length).bind fun j43 =>
  (bif decide (j43 < x0q10.length) then
  L0 fuel n0 (t0 p1 p0q0 p0q1 x0q0 x0q1 x0q2 x0q3 ((IntKind.wrap .i64 (x0q6 + 1))) ((x0q9.set j41 v40)) ((x0q10.set j43 x0q1))) (k0  fuel)
  else
  none)
  else
  none)
  else
  (bif decide (v38 = ((2 : Nat) : Int)) then
  (bif decide (j41 < x0q9.length) then
  (idx x0q6 x0q10.length).bind fun j42 =>
  (bif decide (j42 < x0q10.length) then
  L0 fuel n0 (t0 p1 p0q0 p0q1 x0q0 x0q1 x0q2 x0q3 ((IntKind.wrap .i64 (x0q6 + 1))) ((x0q9.set j41 v40)) ((x0q10.set j42 x0q2))) (k0  fuel)
  else
  none)
  else
  none)
  else
  none)))
  else
  (bif decide (x0q9.length < 9223372036854775808) then
  (bif validS x0q9 then
  (bif decide (0 ≤ ((volW x0q9) : Int)) && decide (((volW x0q9) : Int) ≤ (volW x0q9)) && decide (((volW x0q9) : Int) ≤ 1152921504606846976) && decide (((8 : Nat) : Int) * (volW x0q9) ≤ 281474976710656) then
  L1 fuel fuel (t1 x0q9 p0q0 p0q1 x0q10 0 ((List.replicate ((volW x0q9)).toNat (0 : Int)))) (k1  fuel)
  else
  none)
  else
  some ([.agg [((.ints .i64 []), true), ((.ints .i64 []), true)], .one ((.bool false), false)], []))
  else
  none)) := by kernel_rfl
theorem s1 (fuel n1 : Nat) (x0q9 : List Int) (p0q0 : List Int) (p0q1 : List Int) (x0q10 : List Int) (x1q1 : Int) (x1q4 : List Int) : L1 fuel (n1 + 1) (t1 x0q9 p0q0 p0q1 x0q10 x1q1 x1q4) (k1  fuel) =
  (bif (decide ((x1q1 : Int) < (((List.replicate ((volW x0q9)).toNat (0 : Int)).length : Nat) : Int))) then
  (bif decide (x0q9.length < 9223372036854775808) then
  L2 fuel fuel (t2 x0q9 x1q1 x1q4 p0q0 p0q1 x0q10 0 0) (k2 n1 fuel)
  else
  none)
  else
  some ([.agg [((.ints .i64 x0q9), true), ((.ints .i64 x1q4), true)], .one ((.bool true), false)], [])) := by kernel_rfl
theorem s2 (fuel n1 n2 : Nat) (x0q9 : List Int) (x1q1 : Int) (x1q4 : List Int) (p0q0 : List Int) (p0q1 : List Int) (x0q10 : List Int) (x2q0 : Int) (x2q2 : Int) : L2 fuel (n2 + 1) (t2 x0q9 x1q1 x1q4 p0q0 p0q1 x0q10 x2q0 x2q2) (k2 n1 fuel) =
  (bif (decide ((x2q2 : Int) < (((plD x0q9 x1q1).length : Nat) : Int))) then
  (idx x2q2 (plD x0q9 x1q1).length).bind fun j66 =>
  ((plD x0q9 x1q1)[j66]?).bind fun v67 =>
  (idx x2q2 x0q10.length).bind fun j68 =>
  (x0q10[j68]?).bind fun v69 =>
  L2 fuel n2 (t2 x0q9 x1q1 x1q4 p0q0 p0q1 x0q10 ((IntKind.wrap .i64 (x2q0 + (IntKind.wrap .i64 (v67 * v69))))) ((IntKind.wrap .i64 (x2q2 + 1)))) (k2 n1 fuel)
  else
  (idx x2q0 p0q1.length).bind fun j70 =>
  (p0q1[j70]?).bind fun v71 =>
  (idx x1q1 x1q4.length).bind fun j72 =>
  (bif decide (j72 < x1q4.length) then
  L1 fuel n1 (t1 x0q9 p0q0 p0q1 x0q10 ((IntKind.wrap .i64 (x1q1 + 1))) ((x1q4.set j72 v71))) (k1  fuel)
  else
  none)) := by kernel_rfl
end impl_MoveAxes
theorem impl_MoveAxes.ok_of (hX : ∀ E ∈ impl_MoveAxes.X, CallSpec Try.prog E) (h : ∀ (sh : List Int) (da : List Int) (order : List Int), (decide (sh.length < 9223372036854775808) && decide (da.length < 9223372036854775808) && decide (order.length < 9223372036854775808)) = true → ∃ fuel, runF Try.prog impl_MoveAxes.X impl_MoveAxes.I 4 fuel 13 Try.f13 [.d (.agg [(.ints .i64 sh), (.ints .i64 da)]), .d (.ints .i64 order)] = some ([.agg [((.ints .i64 (mvS sh da order)), true), ((.ints .i64 (mvD sh da order)), true)], .one ((.bool (mvB sh da order)), false)], [])) : CallSpec Try.prog impl_MoveAxes.E :=
  callSpec_of (d := 4) hX (by kernel_rfl) impl_MoveAxes.I_ok (by kernel_rfl) (by kernel_rfl) (by kernel_rfl) (fun _ _ _ _ h => by dsimp only [impl_MoveAxes.E] at h; cases h) (fun xs hp => by
    dsimp only [impl_MoveAxes.E] at hp ⊢
    split at hp
    · exact h _ _ _ hp
    · cases hp)
theorem impl_MoveAxes.inner (fuel n : Nat) (sh da order : List Int) (hm : mvB sh da order = true) (j : Nat) (hj : j < da.length) (out : List Int) (hol : out.length = da.length) (hf : 60 < fuel) :
    impl_MoveAxes.L2 fuel fuel (impl_MoveAxes.t2 (mvSh sh order) (j : Int) out sh da (mvSt sh order) 0 0) (impl_MoveAxes.k2 n fuel) =
    impl_MoveAxes.L1 fuel n (impl_MoveAxes.t1 (mvSh sh order) sh da (mvSt sh order) ((IntKind.wrap .i64 ((j : Int) + 1))) (out.set j ((mvN sh da order).getD j 0))) (impl_MoveAxes.k1 fuel) := by
  obtain ⟨h1, h2, h3, h4⟩ := mvB_inv hm
  obtain ⟨m1, m2, m3, m4, m5⟩ := mv_from hm hj
  have hr := (validA_len h2).1
  have hvs := (validA_inv h2).1
  have hd := data_prod h2
  have hvol := volS h4.vs
  have hpb : plB (mvSh sh order) (j : Int) = true := by
    simp only [plB, h4.vs, hvol.1, Bool.true_and, Bool.and_eq_true, decide_eq_true_eq]
    rw [h4.pr]; omega
  have hpd : plD (mvSh sh order) (j : Int) = plN (mvSh sh order) j := by simp only [plD, hpb, cond_true, Int.toNat_natCast]
  have hpl : (plN (mvSh sh order) j).length = order.length := by rw [plN_length, mvSh_length]
  have hst := mvSt_length sh order
  have hx : ∀ k, k < order.length → 0 ≤ (plN (mvSh sh order) j).getD k 0 * (mvSt sh order).getD k 0 ∧ (plN (mvSh sh order) j).getD k 0 * (mvSt sh order).getD k 0 ≤ 216000 := fun k hk => by
    obtain ⟨g1, g2, g3⟩ := ob_get h1 k hk
    rw [h3] at g2
    have hsk : (mvSt sh order).getD k 0 = ((behN sh (order.getD k 0).toNat : Nat) : Int) := by rw [mvSt_get hk, strd_beh (ax_of hvs g2)]
    have hb := (ax_of hvs g2).beh_le
    have hk2 : k < (mvSh sh order).length := by rw [mvSh_length]; exact hk
    have hlen := (ax_of h4.vs hk2).len_le
    have hmod : j / behN (mvSh sh order) k % lenN (mvSh sh order) k ≤ 60 := by
      by_cases h0 : lenN (mvSh sh order) k = 0
      · have hpp := pl_pos (sh := mvSh sh order) (n := j) (by rw [h4.pr]; omega) hk2
        omega
      · have := Nat.mod_lt (j / behN (mvSh sh order) k) (show lenN (mvSh sh order) k > 0 by omega)
        omega
    rw [plN_get hk2, hsk, ← Int.natCast_mul]
    have : (j / behN (mvSh sh order) k % lenN (mvSh sh order) k) * behN sh (order.getD k 0).toNat ≤ 60 * 3600 := Nat.mul_le_mul hmod hb
    omega
  have hsum : ∀ k, k ≤ order.length → 0 ≤ sumT k (fun k => (plN (mvSh sh order) j).getD k 0 * (mvSt sh order).getD k 0) ∧ sumT k (fun k => (plN (mvSh sh order) j).getD k 0 * (mvSt sh order).getD k 0) ≤ (k : Int) * 216000 := by
    intro k
    induction k with
    | zero => intro _; simp [sumT]
    | succ k ih =>
      intro hk
      have := ih (by omega)
      have := hx k (by omega)
      simp only [sumT]
      omega
  refine run_loop (N := order.length) (fun m k (a : Int) => impl_MoveAxes.L2 fuel m (impl_MoveAxes.t2 (mvSh sh order) (j : Int) out sh da (mvSt sh order) a (k : Int)) (impl_MoveAxes.k2 n fuel)) (fun k a => a = sumT k fun k => (plN (mvSh sh order) j).getD k 0 * (mvSt sh order).getD k 0) ?_ ?_ fuel 0 0 (by omega) (by omega) rfl
  · intro m a ha
    have hdot : a = dotW (plN (mvSh sh order) j) (mvSt sh order) := by rw [ha, dotW, hpl]
    have hi : idx a da.length = some (dotW (plN (mvSh sh order) j) (mvSt sh order)).toNat := by
      simp only [idx]
      rw [hdot, if_pos (by omega)]
    rw [impl_MoveAxes.s2, hpd, hpl, dge (by omega), cond_false, hi]
    simp only [Option.bind_some, getD_get m5]
    rw [idx_nat (by omega)]
    simp only [Option.bind_some]
    rw [decide_eq_true (by omega), cond_true]
    have e : (mvN sh da order).getD j 0 = da.getD (dotW (plN (mvSh sh order) j) (mvSt sh order)).toNat 0 := by simp only [mvN]; rw [tab_getD hj]
    rw [e]
  · intro m k a hk ha
    have k1 : k < (plN (mvSh sh order) j).length := by omega
    have k2 : k < (mvSt sh order).length := by omega
    have b1 := hx k hk
    have b2 := hsum (k + 1) (by omega)
    rw [impl_MoveAxes.s2, hpd, hpl, dlt hk, cond_true, idx_nat (by omega), idx_nat k2, w1 (by omega)]
    simp only [Option.bind_some, getD_get k1, getD_get k2]
    refine ⟨_, rfl, ?_⟩
    rw [wS (x := (plN (mvSh sh order) j).getD k 0 * (mvSt sh order).getD k 0) (by omega) (by omega), ha]
    have e : sumT k (fun k => (plN (mvSh sh order) j).getD k 0 * (mvSt sh order).getD k 0) + (plN (mvSh sh order) j).getD k 0 * (mvSt sh order).getD k 0 = sumT (k + 1) (fun k => (plN (mvSh sh order) j).getD k 0 * (mvSt sh order).getD k 0) := rfl
    rw [e, wS (by omega) (by omega)]
theorem impl_MoveAxes.fill (fuel : Nat) (sh da order : List Int) (hm : mvB sh da order = true) (hf : 60 < fuel) :
    impl_MoveAxes.L1 fuel fuel (impl_MoveAxes.t1 (mvSh sh order) sh da (mvSt sh order) 0 (List.replicate (volW (mvSh sh order)).toNat 0)) (impl_MoveAxes.k1 fuel) = some ([.agg [((.ints .i64 (mvSh sh order)), true), ((.ints .i64 (mvN sh da order)), true)], .one ((.bool true), false)], []) := by
  obtain ⟨h1, h2, h3, h4⟩ := mvB_inv hm
  have hd := data_prod h2
  have hvol := volS h4.vs
  have hv : (volW (mvSh sh order)).toNat = da.length := by rw [hvol.1, h4.pr]; omega
  have hN : (mvN sh da order).length = da.length := by simp only [mvN, tab_length]
  have hl := mvSh_length sh order
  have hr := validA_len h2
  rw [hv]
  refine run_loop (N := da.length) (fun n j out => impl_MoveAxes.L1 fuel n (impl_MoveAxes.t1 (mvSh sh order) sh da (mvSt sh order) (j : Int) out) (impl_MoveAxes.k1 fuel)) (fun j out => out = part (mvN sh da order) j) ?_ ?_ fuel 0 _ (by omega) (by omega) (by rw [part_zero, hN])
  · intro n out ho
    have hall := part_all (mvN sh da order)
    rw [hN] at hall
    rw [hall] at ho
    rw [impl_MoveAxes.s1]
    simp only [hv, List.length_replicate]
    rw [dge (by omega), cond_false, ho]
  · intro n j out hj ho
    have hol : out.length = da.length := by rw [ho, part_length (by omega), hN]
    rw [impl_MoveAxes.s1]
    simp only [hv, List.length_replicate]
    rw [dlt hj, cond_true, lt_of (by omega), cond_true, impl_MoveAxes.inner fuel n sh da order hm j hj out hol hf, w1 (by omega)]
    exact ⟨_, by rw [ho, part_set (by omega) rfl], rfl⟩
theorem impl_MoveAxes.ok : CallSpec Try.prog impl_MoveAxes.E := impl_MoveAxes.ok_of (by simp [impl_MoveAxes.X, impl_OrderBack.ok, impl_ValidArray.ok, impl_layoutOf_j.ok, impl_PlaceOf.ok]) fun sh da order h => by
  obtain ⟨F, hF⟩ : ∃ F : Nat, 60 < F := ⟨61, by omega⟩
  refine ⟨F, ?_⟩
  simp only [Bool.and_eq_true] at h
  rw [impl_MoveAxes.e, h.1.1, h.1.2, h.2]
  unfold mvS mvD
  cases ho : obB order with
  | false => simp only [mvB, ho]; rfl
  | true =>
    cases hv : validA sh da with
    | false => simp only [mvB, ho, hv]; rfl
    | true =>
      by_cases hl : order.length = sh.length
      · have hm : mvB sh da order = true := by simp only [mvB, ho, hv, hl, decide_true, Bool.and_self]
        obtain ⟨h1, h2, h3, h4⟩ := mvB_inv hm
        have hvs := (validA_inv hv).1
        have hr := (validA_len hv).1
        have hne : (((order.length : Nat) : Int) != ((sh.length : Nat) : Int)) = false := by rw [hl]; simp
        have hN1 := mvSh_length sh order
        have hN2 := mvSt_length sh order
        have hvb := vol_bd h4.vs
        rw [hne, hvs, mkOk (by omega) (by omega), Int.toNat_natCast, hm]
        simp only [Bool.not_true, Bool.and_self, cond_true, cond_false]
        refine run_loop (N := order.length) (fun n j (st : List Int × List Int) => impl_MoveAxes.L0 F n (impl_MoveAxes.t0 order sh da (strd sh 0) (strd sh 1) (strd sh 2) (volW sh) (j : Int) st.1 st.2) (impl_MoveAxes.k0 F)) (fun j st => st.1 = part (mvSh sh order) j ∧ st.2 = part (mvSt sh order) j) ?_ ?_ F 0 (List.replicate order.length 0, List.replicate order.length 0) (by omega) (by omega) ⟨by rw [part_zero, hN1], by rw [part_zero, hN2]⟩
        · rintro n ⟨x, y⟩ ⟨e1, e2⟩
          have a1 := part_all (mvSh sh order)
          have a2 := part_all (mvSt sh order)
          rw [hN1] at a1
          rw [hN2] at a2
          simp only at e1 e2
          rw [a1] at e1
          rw [a2] at e2
          subst e1
          subst e2
          dsimp only
          rw [impl_MoveAxes.s0, dge (by omega), cond_false, lt_of (by omega), h4.vs, mkOk hvb.1 (by omega)]
          simp only [cond_true]
          exact impl_MoveAxes.fill F sh da order hm hF
        · rintro n j ⟨x, y⟩ hj ⟨e1, e2⟩
          simp only at e1 e2
          have hx : x.length = order.length := by rw [e1, part_length (by omega), hN1]
          have hy : y.length = order.length := by rw [e2, part_length (by omega), hN2]
          obtain ⟨g1, g2, g3⟩ := ob_get h1 j hj
          have g2' : (order.getD j 0).toNat < sh.length := by omega
          have hi : idx (order.getD j 0) sh.length = some (order.getD j 0).toNat := by
            simp only [idx]
            rw [if_pos (by omega)]
          have f1 : x.set j (sh.getD (order.getD j 0).toNat 0) = part (mvSh sh order) (j + 1) := by
            rw [e1, part_set (by omega) (by rw [mvSh_get hj])]
          have f2 : y.set j (strd sh (order.getD j 0).toNat) = part (mvSt sh order) (j + 1) := by
            rw [e2, part_set (by omega) (by rw [mvSt_get hj])]
          refine ⟨(part (mvSh sh order) (j + 1), part (mvSt sh order) (j + 1)), ⟨rfl, rfl⟩, ?_⟩
          dsimp only
          rw [impl_MoveAxes.s0, dlt hj, cond_true, idx_nat hj, w1 (by omega)]
          simp only [Option.bind_some, getD_get hj, hi, getD_get g2']
          rw [idx_nat (by omega)]
          simp only [Option.bind_some]
          rw [f1]
          have hc : order.getD j 0 = ((0 : Nat) : Int) ∨ order.getD j 0 = ((1 : Nat) : Int) ∨ order.getD j 0 = ((2 : Nat) : Int) := by omega
          rcases hc with hc | hc | hc
          · rw [hc] at f2 ⊢
            rw [decide_eq_true (p := ((0 : Nat) : Int) = ((0 : Nat) : Int)) rfl, cond_true, decide_eq_true (by omega), cond_true, idx_nat (by omega)]
            simp only [Option.bind_some]
            rw [decide_eq_true (by omega), cond_true, ← f2]
            rfl
          · rw [hc] at f2 ⊢
            rw [decide_eq_false (p := ((1 : Nat) : Int) = ((0 : Nat) : Int)) (by omega), cond_false, decide_eq_true (p := ((1 : Nat) : Int) = ((1 : Nat) : Int)) rfl, cond_true, decide_eq_true (by omega), cond_true, idx_nat (by omega)]
            simp only [Option.bind_some]
            rw [decide_eq_true (by omega), cond_true, ← f2]
            rfl
          · rw [hc] at f2 ⊢
            rw [decide_eq_false (p := ((2 : Nat) : Int) = ((0 : Nat) : Int)) (by omega), cond_false, decide_eq_false (p := ((2 : Nat) : Int) = ((1 : Nat) : Int)) (by omega), cond_false, decide_eq_true (p := ((2 : Nat) : Int) = ((2 : Nat) : Int)) rfl, cond_true, decide_eq_true (by omega), cond_true, idx_nat (by omega)]
            simp only [Option.bind_some]
            rw [decide_eq_true (by omega), cond_true, ← f2]
            rfl
      · have hne : (((order.length : Nat) : Int) != ((sh.length : Nat) : Int)) = true := by simp; omega
        have hm : mvB sh da order = false := by simp only [mvB, decide_eq_false hl, Bool.and_false]
        rw [hne, hm]; rfl

namespace spec_inRange
noncomputable def E : Entry := ⟨71, true, false, fun | [.d (.int .i64 v), .d (.int .i64 lo), .d (.int .i64 hi)] => true | _ => false, fun | [.d (.int .i64 v), .d (.int .i64 lo), .d (.int .i64 hi)] => ([.one ((.bool (decide (lo ≤ v) && decide (v ≤ hi))), false)], []) | _ => ([], []), fun _ => [], false, fun _ => none⟩
end spec_inRange
namespace spec_inRange
noncomputable def X : List Entry := []
noncomputable def I : List Inl := [⟨71, Try.f71, ⟨[], [], [], [], [], []⟩⟩]
theorem I_ok : ∀ i ∈ I, Try.prog.funcs[i.f]? = some i.fn ∧ (i.fn.name == "runtime.NumGoroutine") = false := by
  intro i hi
  simp only [I, List.mem_cons, List.not_mem_nil, or_false] at hi
  subst hi
  exact ⟨by kernel_rfl, by kernel_rfl⟩
theorem e (fuel : Nat) (p0 : Int) (p1 : Int) (p2 : Int) : runF Try.prog X I 0 fuel 71 Try.f71 [.d (.int .i64 p0), .d (.int .i64 p1), .d (.int .i64 p2)] =
  (bif (decide ((p1 : Int) ≤ p0)) then
  some ([.one ((.bool (decide ((p0 : Int) ≤ p2))), false)], [])
  else
  some ([.one ((.bool false), false)], [])) := by kernel_rfl
end spec_inRange
theorem spec_inRange.ok_of (hX : ∀ E ∈ spec_inRange.X, CallSpec Try.prog E) (h : ∀ (v : Int) (lo : Int) (hi : Int), (true) = true → ∃ fuel, runF Try.prog spec_inRange.X spec_inRange.I 0 fuel 71 Try.f71 [.d (.int .i64 v), .d (.int .i64 lo), .d (.int .i64 hi)] = some ([.one ((.bool (decide (lo ≤ v) && decide (v ≤ hi))), false)], [])) : CallSpec Try.prog spec_inRange.E :=
  callSpec_of (d := 0) hX (by kernel_rfl) spec_inRange.I_ok (by kernel_rfl) (by kernel_rfl) (by kernel_rfl) (fun _ _ _ _ h => by dsimp only [spec_inRange.E] at h; cases h) (fun xs hp => by
    dsimp only [spec_inRange.E] at hp ⊢
    split at hp
    · exact h _ _ _ hp
    · cases hp)
theorem spec_inRange.ok : CallSpec Try.prog spec_inRange.E := spec_inRange.ok_of (by simp [spec_inRange.X]) fun v lo hi _ => ⟨0, by
  rw [spec_inRange.e]
  cases decide (lo ≤ v) <;> rfl⟩

namespace spec_allIn
noncomputable def E : Entry := ⟨55, true, false, fun | [.d (.ints .i64 xs), .d (.int .i64 lo), .d (.int .i64 hi)] => decide (xs.length < 9223372036854775808) | _ => false, fun | [.d (.ints .i64 xs), .d (.int .i64 lo), .d (.int .i64 hi)] => ([.one ((.bool (allB xs lo hi)), false)], []) | _ => ([], []), fun _ => [], false, fun _ => none⟩
end spec_allIn
namespace spec_allIn
noncomputable def X : List Entry := [spec_inRange.E]
noncomputable def I : List Inl := [⟨55, Try.f55, ⟨[], [(1000002, [3, 4, 5, 6, 8, 9, 10, 11, 12, 13, 14, 15, 16, 17, 18, 19, 20, 21])], [], [], [], []⟩⟩]
theorem I_ok : ∀ i ∈ I, Try.prog.funcs[i.f]? = some i.fn ∧ (i.fn.name == "runtime.NumGoroutine") = false := by
  intro i hi
  simp only [I, List.mem_cons, List.not_mem_nil, or_false] at hi
  subst hi
  exact ⟨by kernel_rfl, by kernel_rfl⟩
noncomputable abbrev L0 (fuel n : Nat) (s : St) (k : Kont) := lAt Try.prog X I fuel true 0 false 55 (bodyOf Try.f55) [1, 0, 1, 0] n s k
noncomputable abbrev k0  (fuel : Nat) : Kont := (kAt Try.prog X I fuel true 0 false 55 (bodyOf Try.f55) [1, 0, 1, 0] [] (endK Try.prog Try.f55))
noncomputable def t0 (p0 : List Int) (p1 : Int) (p2 : Int) (x0q3 : Int) : St := ⟨[(.imm (.ints .i64 p0)), (.imm (.int .i64 p1)), (.imm (.int .i64 p2)), .dead, .dead, .dead, .dead, (.imm (.int .i64 x0q3)), .dead, .dead, .dead, .dead, .dead, .dead, .dead, .dead, .dead, .dead, .dead, .dead, .dead, .dead], hOf [], [], []⟩
theorem e (fuel : Nat) (p0 : List Int) (p1 : Int) (p2 : Int) : runF Try.prog X I 0 fuel 55 Try.f55 [.d (.ints .i64 p0), .d (.int .i64 p1), .d (.int .i64 p2)] =
  L0 fuel fuel (t0 p0 p1 p2 0) (k0  fuel) := by kernel_rfl
theorem s0 (fuel n0 : Nat) (p0 : List Int) (p1 : Int) (p2 : Int) (x0q3 : Int) : L0 fuel (n0 + 1) (t0 p0 p1 p2 x0q3) (k0  fuel) =
  (bif (decide ((x0q3 : Int) < ((p0.length : Nat) : Int))) then
  (idx x0q3 p0.length).bind fun j5 =>
  (p0[j5]?).bind fun v6 =>
  (bif (!(decide (p1 ≤ v6) && decide (v6 ≤ p2))) then
  some ([.one ((.bool false), false)], [])
  else
  L0 fuel n0 (t0 p0 p1 p2 ((IntKind.wrap .i64 (x0q3 + 1)))) (k0  fuel))
  else
  some ([.one ((.bool true), false)], [])) := by kernel_rfl
end spec_allIn
theorem spec_allIn.ok_of (hX : ∀ E ∈ spec_allIn.X, CallSpec Try.prog E) (h : ∀ (xs : List Int) (lo : Int) (hi : Int), (decide (xs.length < 9223372036854775808)) = true → ∃ fuel, runF Try.prog spec_allIn.X spec_allIn.I 0 fuel 55 Try.f55 [.d (.ints .i64 xs), .d (.int .i64 lo), .d (.int .i64 hi)] = some ([.one ((.bool (allB xs lo hi)), false)], [])) : CallSpec Try.prog spec_allIn.E :=
  callSpec_of (d := 0) hX (by kernel_rfl) spec_allIn.I_ok (by kernel_rfl) (by kernel_rfl) (by kernel_rfl) (fun _ _ _ _ h => by dsimp only [spec_allIn.E] at h; cases h) (fun xs hp => by
    dsimp only [spec_allIn.E] at hp ⊢
    split at hp
    · exact h _ _ _ hp
    · cases hp)
theorem spec_allIn.loop (fuel : Nat) (xs : List Int) (lo hi : Int) (hx : xs.length < 9223372036854775808) : ∀ (m n j : Nat), xs.length - j = m → m < n → j ≤ xs.length →
    spec_allIn.L0 fuel n (spec_allIn.t0 xs lo hi (j : Int)) (spec_allIn.k0 fuel) = some ([.one (.bool (allB (xs.drop j) lo hi), false)], []) := by
  intro m
  induction m with
  | zero =>
    intro n j h1 h2 h3
    obtain ⟨n, rfl⟩ : ∃ n', n = n' + 1 := ⟨n - 1, by omega⟩
    have hj : ¬ j < xs.length := by omega
    rw [spec_allIn.s0, dge hj, dropE hj]
    rfl
  | succ m ih =>
    intro n j h1 h2 h3
    obtain ⟨n, rfl⟩ : ∃ n', n = n' + 1 := ⟨n - 1, by omega⟩
    have hj : j < xs.length := by omega
    rw [spec_allIn.s0, dlt hj, idx_nat hj, w1 (by omega), dropS hj]
    simp only [cond_true, Option.bind_some, getS hj, allB_cons]
    rw [ih n (j + 1) (by omega) (by omega) (by omega)]
    cases decide (lo ≤ xs[j]) && decide (xs[j] ≤ hi) <;> rfl

theorem spec_allIn.ok : CallSpec Try.prog spec_allIn.E := spec_allIn.ok_of (by simp [spec_allIn.X, spec_inRange.ok]) fun xs lo hi h => by
  simp only [decide_eq_true_eq] at h
  refine ⟨xs.length + 1, ?_⟩
  rw [spec_allIn.e]
  exact spec_allIn.loop (xs.length + 1) xs lo hi h xs.length (xs.length + 1) 0 (by omega) (by omega) (by omega)

namespace spec_validShape
noncomputable def E : Entry := ⟨53, true, false, fun | [.d (.ints .i64 sh)] => decide (sh.length < 9223372036854775808) | _ => false, fun | [.d (.ints .i64 sh)] => ([.one ((.bool (validS sh)), false)], []) | _ => ([], []), fun _ => [], false, fun _ => none⟩
end spec_validShape
namespace spec_validShape
noncomputable def X : List Entry := [spec_allIn.E, spec_volume.E]
noncomputable def I : List Inl := [⟨53, Try.f53, ⟨[], [], [], [], [], []⟩⟩]
theorem I_ok : ∀ i ∈ I, Try.prog.funcs[i.f]? = some i.fn ∧ (i.fn.name == "runtime.NumGoroutine") = false := by
  intro i hi
  simp only [I, List.mem_cons, List.not_mem_nil, or_false] at hi
  subst hi
  exact ⟨by kernel_rfl, by kernel_rfl⟩
theorem e (fuel : Nat) (p0 : List Int) : runF Try.prog X I 0 fuel 53 Try.f53 [.d (.ints .i64 p0)] =
  (bif (decide ((((p0.length : Nat) : Int) : Int) ≤ 3)) then
  (bif decide (p0.length < 9223372036854775808) then
  (bif (allB p0 0 60) then
  (bif decide (p0.length < 9223372036854775808) then
  some ([.one ((.bool (decide (((volW p0) : Int) ≤ 60))), false)], [])
  else
  none)
  else
  some ([.one ((.bool false), false)], []))
  else
  none)
  else
  some ([.one ((.bool false), false)], [])) := by kernel_rfl
end spec_validShape
theorem spec_validShape.ok_of (hX : ∀ E ∈ spec_validShape.X, CallSpec Try.prog E) (h : ∀ (sh : List Int), (decide (sh.length < 9223372036854775808)) = true → ∃ fuel, runF Try.prog spec_validShape.X spec_validShape.I 0 fuel 53 Try.f53 [.d (.ints .i64 sh)] = some ([.one ((.bool (validS sh)), false)], [])) : CallSpec Try.prog spec_validShape.E :=
  callSpec_of (d := 0) hX (by kernel_rfl) spec_validShape.I_ok (by kernel_rfl) (by kernel_rfl) (by kernel_rfl) (fun _ _ _ _ h => by dsimp only [spec_validShape.E] at h; cases h) (fun xs hp => by
    dsimp only [spec_validShape.E] at hp ⊢
    split at hp
    · exact h _ hp
    · cases hp)
theorem spec_validShape.ok : CallSpec Try.prog spec_validShape.E := spec_validShape.ok_of (by simp [spec_validShape.X, spec_allIn.ok, spec_volume.ok]) fun sh h => ⟨0, by
  rw [spec_validShape.e, h]
  unfold validS
  cases decide (((sh.length : Nat) : Int) ≤ 3) <;> cases allB sh 0 60 <;> rfl⟩

namespace spec_valid
noncomputable def E : Entry := ⟨30, true, false, fun | [.d (.agg [(.ints .i64 sh), (.ints .i64 da)])] => decide (sh.length < 9223372036854775808) && decide (da.length < 9223372036854775808) | _ => false, fun | [.d (.agg [(.ints .i64 sh), (.ints .i64 da)])] => ([.one ((.bool (validA sh da)), false)], []) | _ => ([], []), fun _ => [], false, fun _ => none⟩
end spec_valid
namespace spec_valid
noncomputable def X : List Entry := [spec_validShape.E, spec_volume.E, spec_allIn.E]
noncomputable def I : List Inl := [⟨30, Try.f30, ⟨[], [], [], [(1, [0, 1, 2, 3, 4, 7, 5, 6, 8, 9, 10, 11, 12, 13, 14, 15, 16, 17])], [], []⟩⟩]
theorem I_ok : ∀ i ∈ I, Try.prog.funcs[i.f]? = some i.fn ∧ (i.fn.name == "runtime.NumGoroutine") = false := by
  intro i hi
  simp only [I, List.mem_cons, List.not_mem_nil, or_false] at hi
  subst hi
  exact ⟨by kernel_rfl, by kernel_rfl⟩
theorem e (fuel : Nat) (p0q0 : List Int) (p0q1 : List Int) : runF Try.prog X I 0 fuel 30 Try.f30 [.d (.agg [(.ints .i64 p0q0), (.ints .i64 p0q1)])] =
  (bif decide (p0q0.length < 9223372036854775808) then
  (bif (validS p0q0) then
  (bif decide (p0q0.length < 9223372036854775808) then
  (bif ((((p0q1.length : Nat) : Int) : Int) == (volW p0q0)) then
  (bif decide (p0q1.length < 9223372036854775808) then
  some ([.one ((.bool (allB p0q1 ((-1000000)) 1000000)), false)], [])
  else
  none)
  else
  some ([.one ((.bool false), false)], []))
  else
  none)
  else
  some ([.one ((.bool false), false)], []))
  else
  none) := by kernel_rfl
end spec_valid
theorem spec_valid.ok_of (hX : ∀ E ∈ spec_valid.X, CallSpec Try.prog E) (h : ∀ (sh : List Int) (da : List Int), (decide (sh.length < 9223372036854775808) && decide (da.length < 9223372036854775808)) = true → ∃ fuel, runF Try.prog spec_valid.X spec_valid.I 0 fuel 30 Try.f30 [.d (.agg [(.ints .i64 sh), (.ints .i64 da)])] = some ([.one ((.bool (validA sh da)), false)], [])) : CallSpec Try.prog spec_valid.E :=
  callSpec_of (d := 0) hX (by kernel_rfl) spec_valid.I_ok (by kernel_rfl) (by kernel_rfl) (by kernel_rfl) (fun _ _ _ _ h => by dsimp only [spec_valid.E] at h; cases h) (fun xs hp => by
    dsimp only [spec_valid.E] at hp ⊢
    split at hp
    · exact h _ _ hp
    · cases hp)
theorem spec_valid.ok : CallSpec Try.prog spec_valid.E := spec_valid.ok_of (by simp [spec_valid.X, spec_validShape.ok, spec_volume.ok, spec_allIn.ok]) fun sh da h => ⟨0, by
  simp only [Bool.and_eq_true] at h
  rw [spec_valid.e, h.1, h.2]
  unfold validA
  cases validS sh <;> cases (((da.length : Nat) : Int) == volW sh) <;> rfl⟩

namespace spec_isIn
noncomputable def E : Entry := ⟨56, true, false, fun | [.d (.ints .i64 xs), .d (.int .i64 n)] => decide (xs.length < 9223372036854775808) | _ => false, fun | [.d (.ints .i64 xs), .d (.int .i64 n)] => ([.one ((.bool (xs.contains n)), false)], []) | _ => ([], []), fun _ => [], false, fun _ => none⟩
end spec_isIn
namespace spec_isIn
noncomputable def X : List Entry := []
noncomputable def I : List Inl := [⟨56, Try.f56, ⟨[], [(1000002, [2, 3, 4, 6, 7, 8, 9, 10, 11, 12, 13, 14, 15, 16, 17])], [], [], [], []⟩⟩]
theorem I_ok : ∀ i ∈ I, Try.prog.funcs[i.f]? = some i.fn ∧ (i.fn.name == "runtime.NumGoroutine") = false := by
  intro i hi
  simp only [I, List.mem_cons, List.not_mem_nil, or_false] at hi
  subst hi
  exact ⟨by kernel_rfl, by kernel_rfl⟩
noncomputable abbrev L0 (fuel n : Nat) (s : St) (k : Kont) := lAt Try.prog X I fuel true 0 false 56 (bodyOf Try.f56) [1, 0, 1, 0] n s k
noncomputable abbrev k0  (fuel : Nat) : Kont := (kAt Try.prog X I fuel true 0 false 56 (bodyOf Try.f56) [1, 0, 1, 0] [] (endK Try.prog Try.f56))
noncomputable def t0 (p0 : List Int) (p1 : Int) (x0q2 : Int) : St := ⟨[(.imm (.ints .i64 p0)), (.imm (.int .i64 p1)), .dead, .dead, .dead, (.imm (.int .i64 x0q2)), .dead, .dead, .dead, .dead, .dead, .dead, .dead, .dead, .dead, .dead, .dead, .dead], hOf [], [], []⟩
theorem e (fuel : Nat) (p0 : List Int) (p1 : Int) : runF Try.prog X I 0 fuel 56 Try.f56 [.d (.ints .i64 p0), .d (.int .i64 p1)] =
  L0 fuel fuel (t0 p0 p1 0) (k0  fuel) := by kernel_rfl
theorem s0 (fuel n0 : Nat) (p0 : List Int) (p1 : Int) (x0q2 : Int) : L0 fuel (n0 + 1) (t0 p0 p1 x0q2) (k0  fuel) =
  (bif (decide ((x0q2 : Int) < ((p0.length : Nat) : Int))) then
  (idx x0q2 p0.length).bind fun j5 =>
  (p0[j5]?).bind fun v6 =>
  (bif ((v6 : Int) == p1) then
  some ([.one ((.bool true), false)], [])
  else
  L0 fuel n0 (t0 p0 p1 ((IntKind.wrap .i64 (x0q2 + 1)))) (k0  fuel))
  else
  some ([.one ((.bool false), false)], [])) := by kernel_rfl
end spec_isIn
theorem spec_isIn.ok_of (hX : ∀ E ∈ spec_isIn.X, CallSpec Try.prog E) (h : ∀ (xs : List Int) (n : Int), (decide (xs.length < 9223372036854775808)) = true → ∃ fuel, runF Try.prog spec_isIn.X spec_isIn.I 0 fuel 56 Try.f56 [.d (.ints .i64 xs), .d (.int .i64 n)] = some ([.one ((.bool (xs.contains n)), false)], [])) : CallSpec Try.prog spec_isIn.E :=
  callSpec_of (d := 0) hX (by kernel_rfl) spec_isIn.I_ok (by kernel_rfl) (by kernel_rfl) (by kernel_rfl) (fun _ _ _ _ h => by dsimp only [spec_isIn.E] at h; cases h) (fun xs hp => by
    dsimp only [spec_isIn.E] at hp ⊢
    split at hp
    · exact h _ _ hp
    · cases hp)
theorem spec_isIn.ok : CallSpec Try.prog spec_isIn.E := spec_isIn.ok_of (by simp [spec_isIn.X]) fun xs v h => ⟨xs.length + 1, by
  simp only [decide_eq_true_eq] at h
  rw [spec_isIn.e]
  refine cnt_loop (N := xs.length) (fun n j (_ : Unit) => spec_isIn.L0 (xs.length + 1) n (spec_isIn.t0 xs v (j : Int)) (spec_isIn.k0 (xs.length + 1))) (fun j _ => ∀ i, i < j → xs.getD i 0 ≠ v) ?_ ?_ (xs.length + 1) 0 () (by omega) (by omega) (fun i hi => absurd hi (by omega))
  · intro n _ hI
    rw [spec_isIn.s0, dge (by omega), cond_false, contains_no hI]
  · intro n j _ hj hI
    rw [spec_isIn.s0, dlt hj, cond_true, idx_nat hj, w1 (by omega)]
    simp only [Option.bind_some, getD_get hj]
    by_cases he : xs.getD j 0 = v
    · refine .inl ?_
      rw [show (xs.getD j 0 == v) = true from beq_iff_eq.2 he, cond_true, contains_at hj he]
    · refine .inr ⟨(), ?_, by rw [show (xs.getD j 0 == v) = false from beq_eq_false_iff_ne.2 he, cond_false]⟩
      intro i hi
      by_cases h1 : i = j
      · subst h1; exact he
      · exact hI i (by omega)⟩

namespace spec_isOrder
noncomputable def E : Entry := ⟨31, true, false, fun | [.d (.ints .i64 xs)] => decide (xs.length < 9223372036854775808) | _ => false, fun | [.d (.ints .i64 xs)] => ([.one ((.bool (isOB xs)), false)], []) | _ => ([], []), fun _ => [], false, fun _ => none⟩
end spec_isOrder
namespace spec_isOrder
noncomputable def X : List Entry := [spec_isIn.E]
noncomputable def I : List Inl := [⟨31, Try.f31, ⟨[], [(1000002, [1, 2, 4, 5, 6, 7, 8, 9, 10, 11, 12, 13])], [], [], [], []⟩⟩]
theorem I_ok : ∀ i ∈ I, Try.prog.funcs[i.f]? = some i.fn ∧ (i.fn.name == "runtime.NumGoroutine") = false := by
  intro i hi
  simp only [I, List.mem_cons, List.not_mem_nil, or_false] at hi
  subst hi
  exact ⟨by kernel_rfl, by kernel_rfl⟩
noncomputable abbrev L0 (fuel n : Nat) (s : St) (k : Kont) := lAt Try.prog X I fuel true 0 false 31 (bodyOf Try.f31) [1, 0, 1, 0] n s k
noncomputable abbrev k0  (fuel : Nat) : Kont := (kAt Try.prog X I fuel true 0 false 31 (bodyOf Try.f31) [1, 0, 1, 0] [] (endK Try.prog Try.f31))
noncomputable def t0 (p0 : List Int) (x0q1 : Int) : St := ⟨[(.imm (.ints .i64 p0)), .dead, .dead, (.imm (.int .i64 x0q1)), .dead, .dead, .dead, .dead, .dead, .dead, .dead, .dead, .dead, .dead], hOf [], [], []⟩
theorem e (fuel : Nat) (p0 : List Int) : runF Try.prog X I 0 fuel 31 Try.f31 [.d (.ints .i64 p0)] =
  L0 fuel fuel (t0 p0 0) (k0  fuel) := by kernel_rfl
theorem s0 (fuel n0 : Nat) (p0 : List Int) (x0q1 : Int) : L0 fuel (n0 + 1) (t0 p0 x0q1) (k0  fuel) =
  (bif (decide ((x0q1 : Int) < ((p0.length : Nat) : Int))) then
  (bif decide (p0.length < 9223372036854775808) then
  (bif (!(p0.contains x0q1)) then
  some ([.one ((.bool false), false)], [])
  else
  L0 fuel n0 (t0 p0 ((IntKind.wrap .i64 (x0q1 + 1)))) (k0  fuel))
  else
  none)
  else
  some ([.one ((.bool true), false)], [])) := by kernel_rfl
end spec_isOrder
theorem spec_isOrder.ok_of (hX : ∀ E ∈ spec_isOrder.X, CallSpec Try.prog E) (h : ∀ (xs : List Int), (decide (xs.length < 9223372036854775808)) = true → ∃ fuel, runF Try.prog spec_isOrder.X spec_isOrder.I 0 fuel 31 Try.f31 [.d (.ints .i64 xs)] = some ([.one ((.bool (isOB xs)), false)], [])) : CallSpec Try.prog spec_isOrder.E :=
  callSpec_of (d := 0) hX (by kernel_rfl) spec_isOrder.I_ok (by kernel_rfl) (by kernel_rfl) (by kernel_rfl) (fun _ _ _ _ h => by dsimp only [spec_isOrder.E] at h; cases h) (fun xs hp => by
    dsimp only [spec_isOrder.E] at hp ⊢
    split at hp
    · exact h _ hp
    · cases hp)
theorem spec_isOrder.ok : CallSpec Try.prog spec_isOrder.E := spec_isOrder.ok_of (by simp [spec_isOrder.X, spec_isIn.ok]) fun xs h => ⟨xs.length + 1, by
  have h' := of_decide_eq_true h
  rw [spec_isOrder.e]
  refine cnt_loop (N := xs.length) (fun n j (_ : Unit) => spec_isOrder.L0 (xs.length + 1) n (spec_isOrder.t0 xs (j : Int)) (spec_isOrder.k0 (xs.length + 1))) (fun j _ => ∀ i, i < j → xs.contains (i : Int) = true) ?_ ?_ (xs.length + 1) 0 () (by omega) (by omega) (fun i hi => absurd hi (by omega))
  · intro n _ hI
    rw [spec_isOrder.s0, dge (by omega), cond_false, isOB_iff.2 hI]
  · intro n j _ hj hI
    rw [spec_isOrder.s0, dlt hj, cond_true, h, cond_true, w1 (by omega)]
    cases hc : xs.contains (j : Int) with
    | false =>
      refine .inl ?_
      have : isOB xs = false := by
        rw [Bool.eq_false_iff]
        intro hb
        have := isOB_iff.1 hb j hj
        rw [hc] at this
        cases this
      rw [this]; rfl
    | true =>
      refine .inr ⟨(), fun i hi => ?_, rfl⟩
      by_cases h1 : i = j
      · subst h1; exact hc
      · exact hI i (by omega)⟩

namespace spec_placeIn
noncomputable def E : Entry := ⟨32, false, false, fun | [.d (.ints .i64 sh), .d (.int .i64 n)] => validS sh && decide (0 ≤ n) && decide (n < volW sh) | _ => false, fun | [.d (.ints .i64 sh), .d (.int .i64 n)] => ([.one ((.ints .i64 (plN sh n.toNat)), true)], []) | _ => ([], []), fun _ => [], true, fun _ => none⟩
end spec_placeIn
namespace spec_placeIn
noncomputable def X : List Entry := []
noncomputable def I : List Inl := [⟨32, Try.f32, ⟨[], [(1000003, [2, 3, 4, 7, 8, 9, 10, 11, 12, 13, 14, 15, 16, 17, 18, 19, 20, 21, 22, 23, 24, 25, 26, 27, 28, 29, 30, 31, 32])], [], [], [], []⟩⟩]
theorem I_ok : ∀ i ∈ I, Try.prog.funcs[i.f]? = some i.fn ∧ (i.fn.name == "runtime.NumGoroutine") = false := by
  intro i hi
  simp only [I, List.mem_cons, List.not_mem_nil, or_false] at hi
  subst hi
  exact ⟨by kernel_rfl, by kernel_rfl⟩
noncomputable abbrev L0 (fuel n : Nat) (s : St) (k : Kont) := lAt Try.prog X I fuel true 0 false 32 (bodyOf Try.f32) [1, 1, 0, 1, 0] n s k
noncomputable abbrev k0  (fuel : Nat) : Kont := (kAt Try.prog X I fuel true 0 false 32 (bodyOf Try.f32) [1, 1, 0, 1, 0] [] (endK Try.prog Try.f32))
noncomputable def t0 (p0 : List Int) (x0q1 : Int) (x0q2 : Int) (x0q3 : List Int) : St := ⟨[(.imm (.ints .i64 p0)), (.imm (.int .i64 x0q1)), .dead, .dead, .dead, (.all 1000000000 1), (.imm (.int .i64 x0q2)), .dead, .dead, .dead, .dead, .dead, .dead, .dead, .dead, .dead, .dead, .dead, .dead, .dead, .dead, .dead, .dead, .dead, .dead, .dead, .dead, .dead, .dead, .dead, .dead, .dead, .dead], hOf [(1000000000, (.ints .i64 x0q3))], [], []⟩
theorem e (fuel : Nat) (p0 : List Int) (p1 : Int) : runF Try.prog X I 0 fuel 32 Try.f32 [.d (.ints .i64 p0), .d (.int .i64 p1)] =
  (bif decide (0 ≤ (((p0.length : Nat) : Int) : Int)) && decide ((((p0.length : Nat) : Int) : Int) ≤ ((p0.length : Nat) : Int)) && decide ((((p0.length : Nat) : Int) : Int) ≤ 1152921504606846976) && decide (((8 : Nat) : Int) * ((p0.length : Nat) : Int) ≤ 281474976710656) then
  L0 fuel fuel (t0 p0 p1 ((IntKind.wrap .i64 (((p0.length : Nat) : Int) - 1))) ((List.replicate (((p0.length : Nat) : Int)).toNat (0 : Int)))) (k0  fuel)
  else
  none) := by kernel_rfl
theorem s0 (fuel n0 : Nat) (p0 : List Int) (x0q1 : Int) (x0q2 : Int) (x0q3 : List Int) : L0 fuel (n0 + 1) (t0 p0 x0q1 x0q2 x0q3) (k0  fuel) =
  (bif (decide ((x0q2 : Int) ≥ 0)) then
  (idx x0q2 p0.length).bind fun j11 =>
  (p0[j11]?).bind fun v12 =>
  (bif decide ((v12 : Int) = 0) then
  none
  else
  (idx x0q2 x0q3.length).bind fun j13 =>
  (bif decide (j13 < x0q3.length) then
  (idx x0q2 p0.length).bind fun j14 =>
  (p0[j14]?).bind fun v15 =>
  (bif decide ((v15 : Int) = 0) then
  none
  else
  L0 fuel n0 (t0 p0 ((IntKind.wrap .i64 (Int.tdiv x0q1 v15))) ((IntKind.wrap .i64 (x0q2 - 1))) ((x0q3.set j13 (Int.tmod x0q1 v12)))) (k0  fuel))
  else
  none))
  else
  some ([.one ((.ints .i64 x0q3), true)], [])) := by kernel_rfl
end spec_placeIn
theorem spec_placeIn.ok_of (hX : ∀ E ∈ spec_placeIn.X, CallSpec Try.prog E) (h : ∀ (sh : List Int) (n : Int), (validS sh && decide (0 ≤ n) && decide (n < volW sh)) = true → ∃ fuel, runF Try.prog spec_placeIn.X spec_placeIn.I 0 fuel 32 Try.f32 [.d (.ints .i64 sh), .d (.int .i64 n)] = some ([.one ((.ints .i64 (plN sh n.toNat)), true)], [])) : CallSpec Try.prog spec_placeIn.E :=
  callSpec_of (d := 0) hX (by kernel_rfl) spec_placeIn.I_ok (by kernel_rfl) (by kernel_rfl) (by kernel_rfl) (fun _ _ _ _ h => by dsimp only [spec_placeIn.E] at h; cases h) (fun xs hp => by
    dsimp only [spec_placeIn.E] at hp ⊢
    split at hp
    · exact h _ _ hp
    · cases hp)
theorem spec_placeIn.loop (fuel : Nat) (sh : List Int) (n : Nat) (hv : validS sh = true) (hn : n < prodN sh) (h60 : prodN sh ≤ 60) (hf : 3 < fuel) :
    spec_placeIn.L0 fuel fuel (spec_placeIn.t0 sh (n : Int) (((sh.length : Nat) : Int) - 1 - ((0 : Nat) : Int)) (List.replicate sh.length 0)) (spec_placeIn.k0 fuel) = some ([.one ((.ints .i64 (plN sh n)), true)], []) := by
  have hr := (validS_inv hv).1
  refine run_loop (N := sh.length) (fun f j (s : Nat × List Int) => spec_placeIn.L0 fuel f (spec_placeIn.t0 sh (s.1 : Int) (((sh.length : Nat) : Int) - 1 - (j : Int)) s.2) (spec_placeIn.k0 fuel)) (fun j s => s.1 = n / prodN (sh.drop (sh.length - j)) ∧ s.2 = tail0 (plN sh n) (sh.length - j)) ?_ ?_ fuel 0 (n, List.replicate sh.length 0) (by omega) (by omega) ⟨by simp [prodN], ?_⟩
  · intro f s ⟨h1, h2⟩
    rw [Nat.sub_self, tail0_zero] at h2
    rw [spec_placeIn.s0, decide_eq_false (by omega), h2]
    rfl
  · intro f j s hj ⟨h1, h2⟩
    obtain ⟨k, hk⟩ : ∃ k, sh.length - j = k + 1 := ⟨sh.length - j - 1, by omega⟩
    have hkl : k < sh.length := by omega
    have ax := ax_of hv hkl
    obtain ⟨p1, p2, _⟩ := pl_pos hn hkl
    have e1 : ((sh.length : Nat) : Int) - 1 - (j : Int) = (k : Int) := by omega
    have hs2 : s.2.length = sh.length := by rw [h2, tail0_length (by rw [plN_length]; omega), plN_length]
    have hs1 : s.1 ≤ n := by rw [h1]; exact Nat.div_le_self _ _
    have hdl : s.1 / lenN sh k ≤ n := Nat.le_trans (Nat.div_le_self _ _) hs1
    rw [e1, spec_placeIn.s0, decide_eq_true (by omega), idx_nat hkl, idx_nat (by omega)]
    simp only [cond_true, Option.bind_some, getD_get hkl, ax.len]
    rw [decide_eq_false (by omega), decide_eq_true (by omega), tdivN, tmodN, wN (by omega), wS (x := (k : Int) - 1) (by omega) (by omega)]
    refine ⟨(s.1 / lenN sh k, s.2.set k ((s.1 % lenN sh k : Nat) : Int)), ⟨?_, ?_⟩, ?_⟩
    · rw [h1, hk, show sh.length - (j + 1) = k by omega, behN_drop hkl, Nat.div_div_eq_div_mul, Nat.mul_comm (lenN sh k)]
      rfl
    · rw [h2, hk, show sh.length - (j + 1) = k by omega]
      refine tail0_set (by rw [plN_length]; exact hkl) ?_
      rw [plN_get hkl, h1, hk]
      rfl
    · rw [show ((sh.length : Nat) : Int) - 1 - ((j + 1 : Nat) : Int) = (k : Int) - 1 by omega]
      rfl
  · have := tail0_all (plN sh n)
    rw [plN_length] at this
    rw [Nat.sub_zero, this]
theorem spec_placeIn.ok : CallSpec Try.prog spec_placeIn.E := spec_placeIn.ok_of (by simp [spec_placeIn.X]) fun sh n h => ⟨4, by
  obtain ⟨j, rfl, hv, hj, _, h60⟩ := plB_inv h
  have hr := (validS_inv hv).1
  rw [spec_placeIn.e, mkOk (by omega) (by omega), cond_true, wS (by omega) (by omega), Int.toNat_natCast, Int.toNat_natCast, show ((sh.length : Nat) : Int) - 1 = ((sh.length : Nat) : Int) - 1 - ((0 : Nat) : Int) by omega]
  exact spec_placeIn.loop 4 sh j hv hj h60 (by omega)⟩

namespace spec_offset
noncomputable def E : Entry := ⟨33, true, false, fun | [.d (.ints .i64 sh), .d (.ints .i64 pl)] => decide (sh.length < 9223372036854775808) && decide (pl.length < 9223372036854775808) && decide (sh.length ≤ pl.length) | _ => false, fun | [.d (.ints .i64 sh), .d (.ints .i64 pl)] => ([.one ((.int .i64 (offW sh pl 0)), false)], []) | _ => ([], []), fun _ => [], false, fun _ => none⟩
end spec_offset
namespace spec_offset
noncomputable def X : List Entry := []
noncomputable def I : List Inl := [⟨33, Try.f33, ⟨[], [(1000003, [2, 3, 4, 7, 8, 9, 10, 11, 12, 13, 14, 15, 16, 17, 18, 19, 20, 21, 22, 23, 24])], [], [(5, [0, 1, 2, 6, 7, 3, 4, 5, 8, 9, 10, 11])], [], []⟩⟩]
theorem I_ok : ∀ i ∈ I, Try.prog.funcs[i.f]? = some i.fn ∧ (i.fn.name == "runtime.NumGoroutine") = false := by
  intro i hi
  simp only [I, List.mem_cons, List.not_mem_nil, or_false] at hi
  subst hi
  exact ⟨by kernel_rfl, by kernel_rfl⟩
noncomputable abbrev L0 (fuel n : Nat) (s : St) (k : Kont) := lAt Try.prog X I fuel true 0 false 33 (bodyOf Try.f33) [1, 1, 0, 1, 0] n s k
noncomputable abbrev k0  (fuel : Nat) : Kont := (kAt Try.prog X I fuel true 0 false 33 (bodyOf Try.f33) [1, 1, 0, 1, 0] [] (endK Try.prog Try.f33))
noncomputable def t0 (p0 : List Int) (p1 : List Int) (x0q2 : Int) (x0q3 : Int) : St := ⟨[(.imm (.ints .i64 p0)), (.imm (.ints .i64 p1)), .dead, .dead, .dead, (.imm (.int .i64 x0q2)), (.imm (.int .i64 x0q3)), .dead, .dead, .dead, .dead, .dead, .dead, .dead, .dead, .dead, .dead, .dead, .dead, .dead, .dead, .dead, .dead, .dead, .dead], hOf [], [], []⟩
theorem e (fuel : Nat) (p0 : List Int) (p1 : List Int) : runF Try.prog X I 0 fuel 33 Try.f33 [.d (.ints .i64 p0), .d (.ints .i64 p1)] =
  L0 fuel fuel (t0 p0 p1 0 0) (k0  fuel) := by kernel_rfl
theorem s0 (fuel n0 : Nat) (p0 : List Int) (p1 : List Int) (x0q2 : Int) (x0q3 : Int) : L0 fuel (n0 + 1) (t0 p0 p1 x0q2 x0q3) (k0  fuel) =
  (bif (decide ((x0q3 : Int) < ((p0.length : Nat) : Int))) then
  (idx x0q3 p0.length).bind fun j9 =>
  (p0[j9]?).bind fun v10 =>
  (idx x0q3 p1.length).bind fun j11 =>
  (p1[j11]?).bind fun v12 =>
  L0 fuel n0 (t0 p0 p1 ((IntKind.wrap .i64 ((IntKind.wrap .i64 (x0q2 * v10)) + v12))) ((IntKind.wrap .i64 (x0q3 + 1)))) (k0  fuel)
  else
  some ([.one ((.int .i64 x0q2), false)], [])) := by kernel_rfl
end spec_offset
theorem spec_offset.ok_of (hX : ∀ E ∈ spec_offset.X, CallSpec Try.prog E) (h : ∀ (sh : List Int) (pl : List Int), (decide (sh.length < 9223372036854775808) && decide (pl.length < 9223372036854775808) && decide (sh.length ≤ pl.length)) = true → ∃ fuel, runF Try.prog spec_offset.X spec_offset.I 0 fuel 33 Try.f33 [.d (.ints .i64 sh), .d (.ints .i64 pl)] = some ([.one ((.int .i64 (offW sh pl 0)), false)], [])) : CallSpec Try.prog spec_offset.E :=
  callSpec_of (d := 0) hX (by kernel_rfl) spec_offset.I_ok (by kernel_rfl) (by kernel_rfl) (by kernel_rfl) (fun _ _ _ _ h => by dsimp only [spec_offset.E] at h; cases h) (fun xs hp => by
    dsimp only [spec_offset.E] at hp ⊢
    split at hp
    · exact h _ _ hp
    · cases hp)
theorem spec_offset.loop (fuel : Nat) (sh pl : List Int) (hx : sh.length < 9223372036854775808) (hl : sh.length ≤ pl.length) : ∀ (m n j : Nat) (a : Int), sh.length - j = m → m < n → j ≤ sh.length →
    spec_offset.L0 fuel n (spec_offset.t0 sh pl a (j : Int)) (spec_offset.k0 fuel) = some ([.one (.int .i64 (offW (sh.drop j) (pl.drop j) a), false)], []) := by
  intro m
  induction m with
  | zero =>
    intro n j a h1 h2 h3
    obtain ⟨n, rfl⟩ : ∃ n', n = n' + 1 := ⟨n - 1, by omega⟩
    have hj : ¬ j < sh.length := by omega
    rw [spec_offset.s0, dge hj, dropE hj]
    rfl
  | succ m ih =>
    intro n j a h1 h2 h3
    obtain ⟨n, rfl⟩ : ∃ n', n = n' + 1 := ⟨n - 1, by omega⟩
    have hj : j < sh.length := by omega
    have hj2 : j < pl.length := by omega
    rw [spec_offset.s0, dlt hj, idx_nat hj, idx_nat hj2, w1 (by omega), dropS hj, dropS hj2]
    simp only [cond_true, Option.bind_some, getS hj, getS hj2, offW]
    exact ih n (j + 1) _ (by omega) (by omega) (by omega)

theorem spec_offset.ok : CallSpec Try.prog spec_offset.E := spec_offset.ok_of (by simp [spec_offset.X]) fun sh pl h => by
  simp only [Bool.and_eq_true, decide_eq_true_eq] at h
  refine ⟨sh.length + 1, ?_⟩
  rw [spec_offset.e]
  exact spec_offset.loop (sh.length + 1) sh pl h.1.1 h.2 sh.length (sh.length + 1) 0 0 (by omega) (by omega) (by omega)

namespace spec_MoveAxes
noncomputable def E : Entry := ⟨10, false, false, fun | [.d (.agg [(.ints .i64 sh), (.ints .i64 da)]), .d (.ints .i64 order)] => decide (sh.length < 9223372036854775808) && decide (da.length < 9223372036854775808) && decide (order.length < 9223372036854775808) | _ => false, fun | [.d (.agg [(.ints .i64 sh), (.ints .i64 da)]), .d (.ints .i64 order)] => ([.agg [((.ints .i64 (mvS sh da order)), true), ((.ints .i64 (mvD sh da order)), true)], .one ((.bool (mvB sh da order)), false)], []) | _ => ([], []), fun _ => [], true, fun _ => none⟩
end spec_MoveAxes
namespace spec_MoveAxes
noncomputable def X : List Entry := [spec_valid.E, spec_isOrder.E, spec_placeIn.E, spec_offset.E, spec_make1.E]
noncomputable def I : List Inl := [⟨10, Try.f10, ⟨[58, 91], [(1000005, [0, 3, 5, 8, 9, 10, 11, 12, 13, 14, 15, 16, 17, 18, 19, 20, 21, 22, 23, 24, 25, 26, 27, 28, 29, 30, 31, 32, 33, 34, 35, 36, 37, 38, 39, 40, 41, 42, 43, 44, 45, 46, 47, 48, 49, 50, 51, 52, 53, 54, 55, 56, 57, 58, 59, 60, 61, 62, 63, 64, 65, 66, 67, 68, 69, 70, 71, 72, 73, 74, 75, 76, 77, 78, 79, 80, 81, 82, 83, 84, 85, 86, 87, 88, 89, 90, 91]), (1000010, [0, 3, 5, 7, 10, 11, 12, 13, 14, 15, 16, 17, 18, 19, 20, 21, 22, 23, 24, 25, 26, 27, 28, 29, 30, 31, 32, 33, 34, 35, 36, 37, 38, 39, 40, 41, 42, 43, 44, 45, 46, 47, 48, 49, 50, 51, 52, 53, 54, 55, 56, 57, 58, 59, 60, 61, 62, 63, 64, 65, 66, 67, 68, 69, 70, 71, 72, 73, 74, 75, 76, 77, 78, 79, 80, 81, 82, 83, 84, 85, 86, 87, 88, 89, 90, 91]), (1000015, [0, 3, 5, 7, 13, 14, 15, 16, 17, 18, 19, 20, 21, 22, 23, 24, 25, 26, 27, 28, 29, 30, 31, 32, 33, 34, 35, 36, 37, 38, 39, 40, 41, 42, 43, 44, 45, 46, 47, 48, 49, 50, 51, 52, 53, 54, 55, 56, 57, 58, 59, 60, 61, 62, 63, 64, 65, 66, 67, 68, 69, 70, 71, 72, 73, 74, 75, 76, 77, 78, 79, 80, 81, 82, 83, 84, 85, 86, 87, 88, 89, 90, 91])], [], [(7, [0, 1, 3, 4, 2, 5, 6, 7, 8, 9, 10, 11]), (17, [0, 1, 2, 5, 6, 3, 4, 7, 8, 9, 10]), (18, [0, 1, 3, 5, 2, 4, 6, 7, 8, 9, 10, 11])], [], []⟩⟩]
theorem I_ok : ∀ i ∈ I, Try.prog.funcs[i.f]? = some i.fn ∧ (i.fn.name == "runtime.NumGoroutine") = false := by
  intro i hi
  simp only [I, List.mem_cons, List.not_mem_nil, or_false] at hi
  subst hi
  exact ⟨by kernel_rfl, by kernel_rfl⟩
noncomputable abbrev L0 (fuel n : Nat) (s : St) (k : Kont) := lAt Try.prog X I fuel true 0 false 10 (bodyOf Try.f10) [1, 1, 1, 0, 1, 0] n s k
noncomputable abbrev k0  (fuel : Nat) : Kont := (kAt Try.prog X I fuel true 0 false 10 (bodyOf Try.f10) [1, 1, 1, 0, 1, 0] [] (endK Try.prog Try.f10))
noncomputable def t0 (p1 : List Int) (p0q0 : List Int) (p0q1 : List Int) (x0q1 : Int) (x0q4 : List Int) : St := ⟨[.dead, (.imm (.ints .i64 p1)), (.ptr 1000000000 0 0), .dead, (.ptr 1000000001 0 0), .dead, (.all 1000000002 1), (.imm (.int .i64 x0q1)), .dead, .dead, .dead, .dead, .dead, .dead, .dead, .dead, .dead, .dead, .dead, .dead, .dead, .dead, .dead, .dead, .dead, .dead, .dead, .dead, .dead, .dead, .dead, .dead, .dead, .dead, .dead, .dead, .dead, .dead, .dead, .dead, .dead, .dead, .dead, .dead, .dead, .dead, .dead, .dead, .dead, .dead, .dead, .dead, .dead, .dead, .dead, .dead, .dead, .dead, .dead, .dead, .dead, .dead, .dead, .dead, .dead, .dead, .dead, .dead, .dead, .dead, .dead, .dead, .dead, .dead, .dead, .dead, .dead, .dead, .dead, .dead, .dead, .dead, .dead, .dead, .dead, .dead, .dead, .dead, .dead, .dead, .dead, .dead], hOf [(1000000000, (.box [(.imm (.ints .i64 p0q0)), (.imm (.ints .i64 p0q1))])), (1000000001, (.box [(.imm .nils), (.imm .nils)])), (1000000002, (.ints .i64 x0q4))], [], []⟩
noncomputable abbrev L1 (fuel n : Nat) (s : St) (k : Kont) := lAt Try.prog X I fuel true 0 false 10 (bodyOf Try.f10) [1, 1, 1, 1, 1, 0, 1, 0] n s k
noncomputable abbrev k1  (fuel : Nat) : Kont := (kAt Try.prog X I fuel true 0 false 10 (bodyOf Try.f10) [1, 1, 1, 1, 1, 0, 1, 0] [] (endK Try.prog Try.f10))
noncomputable def t1 (p1 : List Int) (p0q0 : List Int) (p0q1 : List Int) (x0q4 : List Int) (x1q1 : Int) (x1q5 : List Int) : St := ⟨[.dead, (.imm (.ints .i64 p1)), (.ptr 1000000000 0 0), .dead, (.ptr 1000000001 0 0), .dead, (.all 1000000002 1), .dead, (.all 1000000003 1), (.imm (.int .i64 x1q1)), .dead, .dead, .dead, .dead, .dead, .dead, .dead, .dead, .dead, .dead, .dead, .dead, .dead, .dead, .dead, .dead, .dead, .dead, .dead, .dead, .dead, .dead, .dead, .dead, .dead, .dead, .dead, .dead, .dead, .dead, .dead, .dead, .dead, .dead, .dead, .dead, .dead, .dead, .dead, .dead, .dead, .dead, .dead, .dead, .dead, .dead, .dead, .dead, .dead, .dead, .dead, .dead, .dead, .dead, .dead, .dead, .dead, .dead, .dead, .dead, .dead, .dead, .dead, .dead, .dead, .dead, .dead, .dead, .dead, .dead, .dead, .dead, .dead, .dead, .dead, .dead, .dead, .dead, .dead, .dead, .dead, .dead], hOf [(1000000000, (.box [(.imm (.ints .i64 p0q0)), (.imm (.ints .i64 p0q1))])), (1000000001, (.box [(.imm .nils), (.imm .nils)])), (1000000002, (.ints .i64 x0q4)), (1000000003, (.ints .i64 x1q5))], [], []⟩
noncomputable abbrev L2 (fuel n : Nat) (s : St) (k : Kont) := lAt Try.prog X I fuel true 0 false 10 (bodyOf Try.f10) [1, 1, 1, 1, 1, 0, 1, 0, 0, 1, 0, 0, 1, 1, 0, 1, 0] n s k
noncomputable abbrev k2 (n1 : Nat) (fuel : Nat) : Kont := (kAt Try.prog X I fuel true 0 false 10 (bodyOf Try.f10) [1, 1, 1, 1, 1, 0, 1, 0, 0, 1, 0, 0, 1, 1, 0, 1, 0] [n1] (endK Try.prog Try.f10))
noncomputable def t2 (p1 : List Int) (x1q1 : Int) (p0q0 : List Int) (p0q1 : List Int) (x0q4 : List Int) (x1q5 : List Int) (x2q2 : Int) (x2q8 : List Int) : St := ⟨[.dead, (.imm (.ints .i64 p1)), (.ptr 1000000000 0 0), .dead, (.ptr 1000000001 0 0), .dead, (.all 1000000002 1), .dead, (.all 1000000003 1), (.imm (.int .i64 x1q1)), (.all 1000000004 1), (.all 1000000005 1), (.imm (.int .i64 x2q2)), .dead, .dead, .dead, .dead, .dead, .dead, .dead, .dead, .dead, .dead, .dead, .dead, .dead, .dead, .dead, .dead, .dead, .dead, .dead, .dead, .dead, .dead, .dead, .dead, .dead, .dead, .dead, .dead, .dead, .dead, .dead, .dead, .dead, .dead, .dead, .dead, .dead, .dead, .dead, .dead, .dead, .dead, .dead, .dead, .dead, .dead, .dead, .dead, .dead, .dead, .dead, .dead, .dead, .dead, .dead, .dead, .dead, .dead, .dead, .dead, .dead, .dead, .dead, .dead, .dead, .dead, .dead, .dead, .dead, .dead, .dead, .dead, .dead, .dead, .dead, .dead, .dead, .dead, .dead], hOf [(1000000000, (.box [(.imm (.ints .i64 p0q0)), (.imm (.ints .i64 p0q1))])), (1000000001, (.box [(.imm .nils), (.imm .nils)])), (1000000002, (.ints .i64 x0q4)), (1000000003, (.ints .i64 x1q5)), (1000000004, (.ints .i64 (plN x0q4 x1q1.toNat))), (1000000005, (.ints .i64 x2q8))], [], []⟩
theorem e (fuel : Nat) (p0q0 : List Int) (p0q1 : List Int) (p1 : List Int) : runF Try.prog X I 0 fuel 10 Try.f10 [.d (.agg [(.ints .i64 p0q0), (.ints .i64 p0q1)]), .d (.ints .i64 p1)] =
  (bif decide (p0q0.length < 9223372036854775808) && decide (p0q1.length < 9223372036854775808) then
  (bif (!(validA p0q0 p0q1)) then
  some ([.agg [((.ints .i64 []), true), ((.ints .i64 []), true)], .one ((.bool false), false)], [])
  else
  (bif ((((p1.length : Nat) : Int) : Int) != ((p0q0.length : Nat) : Int)) then
  some ([.agg [((.ints .i64 []), true), ((.ints .i64 []), true)], .one ((.bool false), false)], [])
  else
  (bif decide (p1.length < 9223372036854775808) then
  (bif (!(isOB p1)) then
  some ([.agg [((.ints .i64 []), true), ((.ints .i64 []), true)], .one ((.bool false), false)], [])
  else
  L0 fuel fuel (t0 p1 p0q0 p0q1 0 ([])) (k0  fuel))
  else
  none)))
  else
  none) := by kernel_rfl
theorem s0 (fuel n0 : Nat) (p1 : List Int) (p0q0 : List Int) (p0q1 : List Int) (x0q1 : Int) (x0q4 : List Int) : L0 fuel (n0 + 1) (t0 p1 p0q0 p0q1 x0q1 x0q4) (k0  fuel) =
  (bif (decide ((x0q1 : Int) < ((p1.length : Nat) : Int))) then
  (idx x0q1 p1.length).bind fun j86 =>
  (p1[j86]?).bind fun v87 =>
  (idx v87 p0q0.length).bind fun j88 =>
  (p0q0[j88]?).bind fun v89 =>
  (bif fits (x0q4.length + ([v89] : List Int).length) 8 then
  L0 fuel n0 (t0 p1 p0q0 p0q1 ((IntKind.wrap .i64 (x0q1 + 1))) ((x0q4 ++ [v89]))) (k0  fuel)
  else
  none)
  else
  L1 fuel fuel (t1 p1 p0q0 p0q1 x0q4 0 ([])) (k1  fuel)) := by kernel_rfl
theorem s1 (fuel n1 : Nat) (p1 : List Int) (p0q0 : List Int) (p0q1 : List Int) (x0q4 : List Int) (x1q1 : Int) (x1q5 : List Int) : L1 fuel (n1 + 1) (t1 p1 p0q0 p0q1 x0q4 x1q1 x1q5) (k1  fuel) =
  (bif (decide ((x1q1 : Int) < ((p0q1.length : Nat) : Int))) then
  (bif validS x0q4 && decide (0 ≤ x1q1) && decide (x1q1 < volW x0q4) then
  (bif decide (0 ≤ ((((plN x0q4 x1q1.toNat).length : Nat) : Int) : Int)) && decide (((((plN x0q4 x1q1.toNat).length : Nat) : Int) : Int) ≤ (((plN x0q4 x1q1.toNat).length : Nat) : Int)) && decide (((((plN x0q4 x1q1.toNat).length : Nat) : Int) : Int) ≤ 1152921504606846976) && decide (((8 : Nat) : Int) * (((plN x0q4 x1q1.toNat).length : Nat) : Int) ≤ 281474976710656) then
  L2 fuel fuel (t2 p1 x1q1 p0q0 p0q1 x0q4 x1q5 0 ((List.replicate ((((plN x0q4 x1q1.toNat).length : Nat) : Int)).toNat (0 : Int)))) (k2 n1 fuel)
  else
  none)
  else
  none)
  else
  (bif szB x0q4 && szB x1q5 then
  some ([.agg [((.ints .i64 x0q4), true), ((.ints .i64 x1q5), true)], .one ((.bool true), false)], [])
  else
  none)) := by kernel_rfl
theorem s2 (fuel n1 n2 : Nat) (p1 : List Int) (x1q1 : Int) (p0q0 : List Int) (p0q1 : List Int) (x0q4 : List Int) (x1q5 : List Int) (x2q2 : Int) (x2q8 : List Int) : L2 fuel (n2 + 1) (t2 p1 x1q1 p0q0 p0q1 x0q4 x1q5 x2q2 x2q8) (k2 n1 fuel) =
  (bif (decide ((x2q2 : Int) < ((p1.length : Nat) : Int))) then
  (idx x2q2 p1.length).bind fun j111 =>
  (p1[j111]?).bind fun v112 =>
  (idx x2q2 (plN x0q4 x1q1.toNat).length).bind fun j113 =>
  ((plN x0q4 x1q1.toNat)[j113]?).bind fun v114 =>
  (idx v112 x2q8.length).bind fun j115 =>
  (bif decide (j115 < x2q8.length) then
  L2 fuel n2 (t2 p1 x1q1 p0q0 p0q1 x0q4 x1q5 ((IntKind.wrap .i64 (x2q2 + 1))) ((x2q8.set j115 v114))) (k2 n1 fuel)
  else
  none)
  else
  (bif decide (p0q0.length < 9223372036854775808) && decide (x2q8.length < 9223372036854775808) && decide (p0q0.length ≤ x2q8.length) then
  (idx (offW p0q0 x2q8 0) p0q1.length).bind fun j116 =>
  (p0q1[j116]?).bind fun v117 =>
  (bif fits (x1q5.length + ([v117] : List Int).length) 8 then
  L1 fuel n1 (t1 p1 p0q0 p0q1 x0q4 ((IntKind.wrap .i64 (x1q1 + 1))) ((x1q5 ++ [v117]))) (k1  fuel)
  else
  none)
  else
  none)) := by kernel_rfl
end spec_MoveAxes
theorem spec_MoveAxes.ok_of (hX : ∀ E ∈ spec_MoveAxes.X, CallSpec Try.prog E) (h : ∀ (sh : List Int) (da : List Int) (order : List Int), (decide (sh.length < 9223372036854775808) && decide (da.length < 9223372036854775808) && decide (order.length < 9223372036854775808)) = true → ∃ fuel, runF Try.prog spec_MoveAxes.X spec_MoveAxes.I 0 fuel 10 Try.f10 [.d (.agg [(.ints .i64 sh), (.ints .i64 da)]), .d (.ints .i64 order)] = some ([.agg [((.ints .i64 (mvS sh da order)), true), ((.ints .i64 (mvD sh da order)), true)], .one ((.bool (mvB sh da order)), false)], [])) : CallSpec Try.prog spec_MoveAxes.E :=
  callSpec_of (d := 0) hX (by kernel_rfl) spec_MoveAxes.I_ok (by kernel_rfl) (by kernel_rfl) (by kernel_rfl) (fun _ _ _ _ h => by dsimp only [spec_MoveAxes.E] at h; cases h) (fun xs hp => by
    dsimp only [spec_MoveAxes.E] at hp ⊢
    split at hp
    · exact h _ _ _ hp
    · cases hp)
theorem spec_MoveAxes.inner (fuel n1 : Nat) (sh da order : List Int) (hm : mvB sh da order = true) (n : Nat) (hn : n < da.length) (out : List Int) (hout : out.length ≤ 60) (hf : 60 < fuel) :
    spec_MoveAxes.L2 fuel fuel (spec_MoveAxes.t2 order (n : Int) sh da (mvSh sh order) out 0 (List.replicate (((plN (mvSh sh order) n).length : Nat) : Int).toNat 0)) (spec_MoveAxes.k2 n1 fuel) =
    spec_MoveAxes.L1 fuel n1 (spec_MoveAxes.t1 order sh da (mvSh sh order) ((IntKind.wrap .i64 ((n : Int) + 1))) (out ++ [(mvN sh da order).getD n 0])) (spec_MoveAxes.k1 fuel) := by
  obtain ⟨h1, h2, h3, h4⟩ := mvB_inv hm
  obtain ⟨m1, m2, m3, m4, m5⟩ := mv_from hm hn
  have hr := (validA_len h2).1
  have hpl : (plN (mvSh sh order) n).length = order.length := by rw [plN_length, mvSh_length]
  have hg := ob_get h1
  rw [hpl, Int.toNat_natCast]
  refine run_loop (N := order.length) (fun m i old => spec_MoveAxes.L2 fuel m (spec_MoveAxes.t2 order (n : Int) sh da (mvSh sh order) out (i : Int) old) (spec_MoveAxes.k2 n1 fuel)) (fun i old => Filled order.length (fun k => order.idxOf (k : Int)) (fun k => (plN (mvSh sh order) n).getD (order.idxOf (k : Int)) 0) i old) ?_ ?_ fuel 0 _ (by omega) (by omega) (Filled.zero (by simp))
  · intro m old hI
    have hold : old = oldP order (plN (mvSh sh order) n) := hI.all (ob_lt h1)
    have hol := hI.len
    have hi : idx (offW sh old 0) da.length = some (dotW (plN (mvSh sh order) n) (mvSt sh order)).toNat := by
      simp only [idx]
      rw [hold, m3, if_pos (by omega)]
    rw [spec_MoveAxes.s2]
    simp only [Int.toNat_natCast]
    rw [dge (by omega), cond_false, lt_of (by omega), lt_of (by omega), decide_eq_true (p := sh.length ≤ old.length) (by omega)]
    simp only [Bool.and_self, cond_true]
    rw [hi]
    simp only [Option.bind_some, getD_get m5]
    rw [fitsOk (by simp only [List.length_cons, List.length_nil]; omega), cond_true]
    have e : (mvN sh da order).getD n 0 = da.getD (dotW (plN (mvSh sh order) n) (mvSt sh order)).toNat 0 := by simp only [mvN]; rw [tab_getD hn]
    rw [e]
  · intro m i old hi hI
    have hol := hI.len
    obtain ⟨g1, g2, g3⟩ := hg i hi
    have ip : i < (plN (mvSh sh order) n).length := by omega
    have hix : idx (order.getD i 0) old.length = some (order.getD i 0).toNat := by
      simp only [idx]
      rw [if_pos (by omega)]
    have gc : ((((order.getD i 0).toNat : Nat) : Int)) = order.getD i 0 := Int.toNat_of_nonneg g1
    rw [spec_MoveAxes.s2]
    simp only [Int.toNat_natCast]
    rw [dlt hi, cond_true, idx_nat hi, idx_nat ip, w1 (by omega)]
    simp only [Option.bind_some, getD_get hi, getD_get ip, hix]
    rw [decide_eq_true (by omega), cond_true]
    exact ⟨_, hI.set (fun p hp hr => ob_inj h1 p hp _ g2 hr) (by rw [gc, g3]) (by rw [gc, g3]), rfl⟩
theorem spec_MoveAxes.loop (fuel : Nat) (sh da order : List Int) (hm : mvB sh da order = true) (hf : 60 < fuel) :
    spec_MoveAxes.L1 fuel fuel (spec_MoveAxes.t1 order sh da (mvSh sh order) 0 []) (spec_MoveAxes.k1 fuel) = some ([.agg [((.ints .i64 (mvSh sh order)), true), ((.ints .i64 (mvN sh da order)), true)], .one ((.bool true), false)], []) := by
  obtain ⟨h1, h2, h3, h4⟩ := mvB_inv hm
  have hr := validA_len h2
  have hd := data_prod h2
  have hvol := volS h4.vs
  have hN : (mvN sh da order).length = da.length := by simp only [mvN, tab_length]
  have hl := mvSh_length sh order
  refine run_loop (N := da.length) (fun m n out => spec_MoveAxes.L1 fuel m (spec_MoveAxes.t1 order sh da (mvSh sh order) (n : Int) out) (spec_MoveAxes.k1 fuel)) (fun n out => out = (mvN sh da order).take n) ?_ ?_ fuel 0 _ (by omega) (by omega) (by simp)
  · intro m out ho
    rw [← hN, List.take_length] at ho
    rw [spec_MoveAxes.s1, dge (by omega), cond_false, ho, szB_of (by omega), szB_of (by omega)]
    rfl
  · intro m n out hn ho
    have hol : out.length = n := by rw [ho, take_len (by omega)]
    have hpl : (plN (mvSh sh order) n).length = order.length := by rw [plN_length, hl]
    rw [spec_MoveAxes.s1, dlt hn, cond_true, h4.vs, hvol.1, decide_eq_true (p := (0 : Int) ≤ (n : Int)) (by omega), decide_eq_true (p := (n : Int) < ((prodN (mvSh sh order) : Nat) : Int)) (by rw [h4.pr]; omega)]
    simp only [Bool.and_self, cond_true, Int.toNat_natCast (n := n)]
    rw [mkOk (by omega) (by omega), cond_true, spec_MoveAxes.inner fuel m sh da order hm n hn out (by omega) hf, w1 (by omega)]
    exact ⟨_, by rw [ho, take_push (by omega) rfl], rfl⟩
theorem spec_MoveAxes.ok : CallSpec Try.prog spec_MoveAxes.E := spec_MoveAxes.ok_of (by simp [spec_MoveAxes.X, spec_valid.ok, spec_isOrder.ok, spec_placeIn.ok, spec_offset.ok, spec_make1.ok]) fun sh da order h => by
  obtain ⟨F, hF⟩ : ∃ F : Nat, 60 < F := ⟨61, by omega⟩
  refine ⟨F, ?_⟩
  simp only [Bool.and_eq_true] at h
  rw [spec_MoveAxes.e, h.1.1, h.1.2, h.2]
  unfold mvS mvD
  cases hv : validA sh da with
  | false => simp only [mvB, hv, Bool.and_false, Bool.false_and]; rfl
  | true =>
    by_cases hl : order.length = sh.length
    · have hr := (validA_len hv).1
      have hne : (((order.length : Nat) : Int) != ((sh.length : Nat) : Int)) = false := by rw [hl]; simp
      rw [hne]
      cases ho : isOB order with
      | false =>
        have : mvB sh da order = false := by simp only [mvB, obB, ho, Bool.and_false, Bool.false_and]
        rw [this]; rfl
      | true =>
        have hob : obB order = true := by rw [obB, ho, decide_eq_true (by omega)]; rfl
        have hm : mvB sh da order = true := by simp only [mvB, hob, hv, hl, decide_true, Bool.and_self]
        have hN1 := mvSh_length sh order
        rw [hm]
        simp only [Bool.and_self, Bool.not_true, cond_true, cond_false]
        refine run_loop (N := order.length) (fun n j out => spec_MoveAxes.L0 F n (spec_MoveAxes.t0 order sh da (j : Int) out) (spec_MoveAxes.k0 F)) (fun j out => out = (mvSh sh order).take j) ?_ ?_ F 0 [] (by omega) (by omega) (by simp)
        · intro n out hI
          rw [← hN1, List.take_length] at hI
          rw [spec_MoveAxes.s0, dge (by omega), cond_false, hI]
          exact spec_MoveAxes.loop F sh da order hm hF
        · intro n j out hj hI
          have hol : out.length = j := by rw [hI, take_len (by omega)]
          obtain ⟨g1, g2, g3⟩ := ob_get hob j hj
          have g2' : (order.getD j 0).toNat < sh.length := by omega
          have hi : idx (order.getD j 0) sh.length = some (order.getD j 0).toNat := by
            simp only [idx]
            rw [if_pos (by omega)]
          rw [spec_MoveAxes.s0, dlt hj, cond_true, idx_nat hj, w1 (by omega)]
          simp only [Option.bind_some, getD_get hj, hi, getD_get g2']
          rw [fitsOk (by simp only [List.length_cons, List.length_nil]; omega), cond_true]
          exact ⟨_, by rw [hI, take_push (by omega) (by rw [mvSh_get hj])], rfl⟩
    · have hne : (((order.length : Nat) : Int) != ((sh.length : Nat) : Int)) = true := by simp; omega
      have hm : mvB sh da order = false := by simp only [mvB, decide_eq_false hl, Bool.and_false]
      rw [hne, hm]; rfl

namespace laws_equalInts
noncomputable def E : Entry := ⟨45, true, false, fun | [.d (.ints .i64 xs), .d (.ints .i64 ys)] => decide (xs.length < 9223372036854775808) && decide (ys.length < 9223372036854775808) | _ => false, fun | [.d (.ints .i64 xs), .d (.ints .i64 ys)] => ([.one ((.bool (decide (xs = ys))), false)], []) | _ => ([], []), fun _ => [], false, fun _ => none⟩
end laws_equalInts
namespace laws_equalInts
noncomputable def X : List Entry := []
noncomputable def I : List Inl := [⟨45, Try.f45, ⟨[], [(1000004, [2, 3, 4, 6, 7, 8, 9, 10, 11, 12, 13, 14, 15, 16, 17, 18, 19, 20, 21, 22, 23, 24, 25])], [], [(6, [0, 1, 4, 5, 2, 3, 6, 7, 8])], [], []⟩⟩]
theorem I_ok : ∀ i ∈ I, Try.prog.funcs[i.f]? = some i.fn ∧ (i.fn.name == "runtime.NumGoroutine") = false := by
  intro i hi
  simp only [I, List.mem_cons, List.not_mem_nil, or_false] at hi
  subst hi
  exact ⟨by kernel_rfl, by kernel_rfl⟩
noncomputable abbrev L0 (fuel n : Nat) (s : St) (k : Kont) := lAt Try.prog X I fuel true 0 false 45 (bodyOf Try.f45) [1, 1, 0, 1, 0] n s k
noncomputable abbrev k0  (fuel : Nat) : Kont := (kAt Try.prog X I fuel true 0 false 45 (bodyOf Try.f45) [1, 1, 0, 1, 0] [] (endK Try.prog Try.f45))
noncomputable def t0 (p0 : List Int) (p1 : List Int) (x0q2 : Int) : St := ⟨[(.imm (.ints .i64 p0)), (.imm (.ints .i64 p1)), .dead, .dead, .dead, (.imm (.int .i64 x0q2)), .dead, .dead, .dead, .dead, .dead, .dead, .dead, .dead, .dead, .dead, .dead, .dead, .dead, .dead, .dead, .dead, .dead, .dead, .dead, .dead], hOf [], [], []⟩
theorem e (fuel : Nat) (p0 : List Int) (p1 : List Int) : runF Try.prog X I 0 fuel 45 Try.f45 [.d (.ints .i64 p0), .d (.ints .i64 p1)] =
  (bif ((((p0.length : Nat) : Int) : Int) != ((p1.length : Nat) : Int)) then
  some ([.one ((.bool false), false)], [])
  else
  L0 fuel fuel (t0 p0 p1 0) (k0  fuel)) := by kernel_rfl
theorem s0 (fuel n0 : Nat) (p0 : List Int) (p1 : List Int) (x0q2 : Int) : L0 fuel (n0 + 1) (t0 p0 p1 x0q2) (k0  fuel) =
  (bif (decide ((x0q2 : Int) < ((p0.length : Nat) : Int))) then
  (idx x0q2 p0.length).bind fun j9 =>
  (p0[j9]?).bind fun v10 =>
  (idx x0q2 p1.length).bind fun j11 =>
  (p1[j11]?).bind fun v12 =>
  (bif ((v10 : Int) != v12) then
  some ([.one ((.bool false), false)], [])
  else
  L0 fuel n0 (t0 p0 p1 ((IntKind.wrap .i64 (x0q2 + 1)))) (k0  fuel))
  else
  some ([.one ((.bool true), false)], [])) := by kernel_rfl
end laws_equalInts
theorem laws_equalInts.ok_of (hX : ∀ E ∈ laws_equalInts.X, CallSpec Try.prog E) (h : ∀ (xs : List Int) (ys : List Int), (decide (xs.length < 9223372036854775808) && decide (ys.length < 9223372036854775808)) = true → ∃ fuel, runF Try.prog laws_equalInts.X laws_equalInts.I 0 fuel 45 Try.f45 [.d (.ints .i64 xs), .d (.ints .i64 ys)] = some ([.one ((.bool (decide (xs = ys))), false)], [])) : CallSpec Try.prog laws_equalInts.E :=
  callSpec_of (d := 0) hX (by kernel_rfl) laws_equalInts.I_ok (by kernel_rfl) (by kernel_rfl) (by kernel_rfl) (fun _ _ _ _ h => by dsimp only [laws_equalInts.E] at h; cases h) (fun xs hp => by
    dsimp only [laws_equalInts.E] at hp ⊢
    split at hp
    · exact h _ _ hp
    · cases hp)
theorem laws_equalInts.loop (fuel : Nat) (xs ys : List Int) (hl : xs.length = ys.length) (hx : xs.length < 9223372036854775808) : ∀ (m n j : Nat), xs.length - j = m → m < n → j ≤ xs.length →
    laws_equalInts.L0 fuel n (laws_equalInts.t0 xs ys (j : Int)) (laws_equalInts.k0 fuel) = some ([.one (.bool (decide (xs.drop j = ys.drop j)), false)], []) := by
  intro m
  induction m with
  | zero =>
    intro n j h1 h2 h3
    obtain ⟨n, rfl⟩ : ∃ n', n = n' + 1 := ⟨n - 1, by omega⟩
    have hj : ¬ j < xs.length := by omega
    rw [laws_equalInts.s0, dge hj, dropE hj, dropE (xs := ys) (by omega)]
    rfl
  | succ m ih =>
    intro n j h1 h2 h3
    obtain ⟨n, rfl⟩ : ∃ n', n = n' + 1 := ⟨n - 1, by omega⟩
    have hj : j < xs.length := by omega
    have hj2 : j < ys.length := by omega
    rw [laws_equalInts.s0, dlt hj, idx_nat hj, idx_nat hj2, w1 (by omega), dropS hj, dropS hj2]
    simp only [cond_true, Option.bind_some, getS hj, getS hj2]
    rw [ih n (j + 1) (by omega) (by omega) (by omega)]
    by_cases hv : xs[j] = ys[j]
    · rw [hv]
      simp only [bne_self_eq_false, cond_false, List.cons.injEq, true_and]
    · have : (xs[j] != ys[j]) = true := by simp [hv]
      rw [this]
      simp only [cond_true, List.cons.injEq, hv, false_and, decide_false]

theorem laws_equalInts.ok : CallSpec Try.prog laws_equalInts.E := laws_equalInts.ok_of (by simp [laws_equalInts.X]) fun xs ys h => by
  simp only [Bool.and_eq_true, decide_eq_true_eq] at h
  refine ⟨xs.length + 1, ?_⟩
  rw [laws_equalInts.e]
  by_cases hl : xs.length = ys.length
  · have := laws_equalInts.loop (xs.length + 1) xs ys hl h.1 xs.length (xs.length + 1) 0 (by omega) (by omega) (by omega)
    simp only [List.drop_zero] at this
    simp only [hl, bne_self_eq_false, cond_false]
    rw [← hl]
    exact this
  · have hne : xs ≠ ys := fun e => hl (e ▸ rfl)
    have : (((xs.length : Nat) : Int) != ((ys.length : Nat) : Int)) = true := by simp; omega
    rw [this]
    simp [hne]

namespace laws_equalArray
noncomputable def E : Entry := ⟨22, true, false, fun | [.d (.agg [(.ints .i64 sa), (.ints .i64 da)]), .d (.agg [(.ints .i64 sb), (.ints .i64 db)])] => decide (sa.length < 9223372036854775808) && decide (da.length < 9223372036854775808) && decide (sb.length < 9223372036854775808) && decide (db.length < 9223372036854775808) | _ => false, fun | [.d (.agg [(.ints .i64 sa), (.ints .i64 da)]), .d (.agg [(.ints .i64 sb), (.ints .i64 db)])] => ([.one ((.bool (decide (sa = sb) && decide (da = db))), false)], []) | _ => ([], []), fun _ => [], false, fun _ => none⟩
end laws_equalArray
namespace laws_equalArray
noncomputable def X : List Entry := [laws_equalInts.E]
noncomputable def I : List Inl := [⟨22, Try.f22, ⟨[], [], [], [], [], []⟩⟩]
theorem I_ok : ∀ i ∈ I, Try.prog.funcs[i.f]? = some i.fn ∧ (i.fn.name == "runtime.NumGoroutine") = false := by
  intro i hi
  simp only [I, List.mem_cons, List.not_mem_nil, or_false] at hi
  subst hi
  exact ⟨by kernel_rfl, by kernel_rfl⟩
theorem e (fuel : Nat) (p0q0 : List Int) (p0q1 : List Int) (p1q0 : List Int) (p1q1 : List Int) : runF Try.prog X I 0 fuel 22 Try.f22 [.d (.agg [(.ints .i64 p0q0), (.ints .i64 p0q1)]), .d (.agg [(.ints .i64 p1q0), (.ints .i64 p1q1)])] =
  (bif decide (p0q0.length < 9223372036854775808) && decide (p1q0.length < 9223372036854775808) then
  (bif (decide (p0q0 = p1q0)) then
  (bif decide (p0q1.length < 9223372036854775808) && decide (p1q1.length < 9223372036854775808) then
  some ([.one ((.bool (decide (p0q1 = p1q1))), false)], [])
  else
  none)
  else
  some ([.one ((.bool false), false)], []))
  else
  none) := by kernel_rfl
end laws_equalArray
theorem laws_equalArray.ok_of (hX : ∀ E ∈ laws_equalArray.X, CallSpec Try.prog E) (h : ∀ (sa : List Int) (da : List Int) (sb : List Int) (db : List Int), (decide (sa.length < 9223372036854775808) && decide (da.length < 9223372036854775808) && decide (sb.length < 9223372036854775808) && decide (db.length < 9223372036854775808)) = true → ∃ fuel, runF Try.prog laws_equalArray.X laws_equalArray.I 0 fuel 22 Try.f22 [.d (.agg [(.ints .i64 sa), (.ints .i64 da)]), .d (.agg [(.ints .i64 sb), (.ints .i64 db)])] = some ([.one ((.bool (decide (sa = sb) && decide (da = db))), false)], [])) : CallSpec Try.prog laws_equalArray.E :=
  callSpec_of (d := 0) hX (by kernel_rfl) laws_equalArray.I_ok (by kernel_rfl) (by kernel_rfl) (by kernel_rfl) (fun _ _ _ _ h => by dsimp only [laws_equalArray.E] at h; cases h) (fun xs hp => by
    dsimp only [laws_equalArray.E] at hp ⊢
    split at hp
    · exact h _ _ _ _ hp
    · cases hp)
theorem laws_equalArray.ok : CallSpec Try.prog laws_equalArray.E := laws_equalArray.ok_of (by simp [laws_equalArray.X, laws_equalInts.ok]) fun sa da sb db h => ⟨0, by
  simp only [Bool.and_eq_true, decide_eq_true_eq] at h
  obtain ⟨⟨⟨h1, h2⟩, h3⟩, h4⟩ := h
  rw [laws_equalArray.e]
  simp only [h1, h2, h3, h4, decide_true, Bool.and_self, cond_true]
  cases decide (sa = sb) <;> cases decide (da = db) <;> rfl⟩

namespace laws_FnMoveAxes
noncomputable def E : Entry := ⟨5, true, false, fun | [.d (.ints .u8 bs)] => bytesB bs | _ => false, fun | [.d (.ints .u8 bs)] => ([.one ((.bool true), false)], []) | _ => ([], []), fun _ => [], false, fun _ => none⟩
end laws_FnMoveAxes
namespace laws_FnMoveAxes
noncomputable def X : List Entry := [spec_DrawMoveAxes.E, impl_MoveAxes.E, spec_MoveAxes.E, laws_equalArray.E, impl_OrderBack.E]
noncomputable def I : List Inl := [⟨5, Try.f5, ⟨[19, 25, 31, 57, 63], [(1000011, [0, 1, 2, 6, 7, 8, 9, 14, 15, 16, 17, 18, 19, 20, 21, 22, 23, 24, 25, 26, 27, 28, 29, 30, 31, 32, 33, 34, 35, 36, 37, 38, 39, 40, 41, 42, 43, 44, 45, 46, 47, 48, 49, 50, 51, 52, 53, 54, 55, 56, 57, 58, 59, 60, 61, 62, 63, 64, 65, 66, 67, 68, 69, 70, 71, 72, 73, 74, 75, 76, 77, 78, 79, 80, 81, 82, 83, 84, 85, 86, 87, 88, 89, 90, 91, 92, 93, 94])], [], [(13, [0, 2, 5, 7, 8, 1, 3, 4, 6, 9, 10, 11, 12, 13])], [], []⟩⟩]
theorem I_ok : ∀ i ∈ I, Try.prog.funcs[i.f]? = some i.fn ∧ (i.fn.name == "runtime.NumGoroutine") = false := by
  intro i hi
  simp only [I, List.mem_cons, List.not_mem_nil, or_false] at hi
  subst hi
  exact ⟨by kernel_rfl, by kernel_rfl⟩
noncomputable abbrev L0 (fuel n : Nat) (s : St) (k : Kont) := lAt Try.prog X I fuel true 0 false 5 (bodyOf Try.f5) [1, 1, 1, 1, 1, 1, 1, 1, 0, 1, 0] n s k
noncomputable abbrev k0  (fuel : Nat) : Kont := (kAt Try.prog X I fuel true 0 false 5 (bodyOf Try.f5) [1, 1, 1, 1, 1, 1, 1, 1, 0, 1, 0] [] (endK Try.prog Try.f5))
noncomputable def t0 (p0 : List Int) (x0q3 : Int) : St := ⟨[.dead, .dead, .dead, (.ptr 1000000000 0 0), (.imm (.ints .i64 (dMO (cutC p0)))), (.ptr 1000000001 0 0), .dead, .dead, .dead, .dead, (.imm (.bool (obB ((dMO (cutC p0)))))), (.ptr 1000000002 0 0), (.imm (.bool (mvB ((mvS ((aArS (cutC p0) 0)) ((aArD (cutC p0) 0)) ((dMO (cutC p0))))) ((mvD ((aArS (cutC p0) 0)) ((aArD (cutC p0) 0)) ((dMO (cutC p0))))) ((obS ((dMO (cutC p0)))))))), (.imm (.int .i64 x0q3)), .dead, .dead, .dead, .dead, .dead, .dead, .dead, .dead, .dead, .dead, .dead, .dead, .dead, .dead, .dead, .dead, .dead, .dead, .dead, .dead, .dead, .dead, .dead, .dead, .dead, .dead, .dead, .dead, .dead, .dead, .dead, .dead, .dead, .dead, .dead, .dead, .dead, .dead, .dead, .dead, .dead, .dead, .dead, .dead, .dead, .dead, .dead, .dead, .dead, .dead, .dead, .dead, .dead, .dead, .dead, .dead, .dead, .dead, .dead, .dead, .dead, .dead, .dead, .dead, .dead, .dead, .dead, .dead, .dead, .dead, .dead, .dead, .dead, .dead, .dead, .dead, .dead, .dead, .dead, .dead, .dead], hOf [(1000000000, (.box [(.imm (.ints .i64 (aArS (cutC p0) 0))), (.imm (.ints .i64 (aArD (cutC p0) 0)))])), (1000000001, (.box [(.all 1000000003 1), (.all 1000000004 1)])), (1000000002, (.box [(.all 1000000005 1), (.all 1000000006 1)])), (1000000003, (.ints .i64 (mvS ((aArS (cutC p0) 0)) ((aArD (cutC p0) 0)) ((dMO (cutC p0)))))), (1000000004, (.ints .i64 (mvD ((aArS (cutC p0) 0)) ((aArD (cutC p0) 0)) ((dMO (cutC p0)))))), (1000000005, (.ints .i64 (mvS ((mvS ((aArS (cutC p0) 0)) ((aArD (cutC p0) 0)) ((dMO (cutC p0))))) ((mvD ((aArS (cutC p0) 0)) ((aArD (cutC p0) 0)) ((dMO (cutC p0))))) ((obS ((dMO (cutC p0)))))))), (1000000006, (.ints .i64 (mvD ((mvS ((aArS (cutC p0) 0)) ((aArD (cutC p0) 0)) ((dMO (cutC p0))))) ((mvD ((aArS (cutC p0) 0)) ((aArD (cutC p0) 0)) ((dMO (cutC p0))))) ((obS ((dMO (cutC p0))))))))], [], []⟩
theorem e (fuel : Nat) (p0 : List Int) : runF Try.prog X I 0 fuel 5 Try.f5 [.d (.ints .u8 p0)] =
  (bif (decide ((((p0.length : Nat) : Int) : Int) > 1048576)) then
  some ([.one ((.bool true), false)], [])
  else
  (bif bytesB p0 then
  (bif decide (((aArS (cutC p0) 0)).length < 9223372036854775808) && decide (((aArD (cutC p0) 0)).length < 9223372036854775808) && decide (((dMO (cutC p0))).length < 9223372036854775808) then
  (bif decide (((aArS (cutC p0) 0)).length < 9223372036854775808) && decide (((aArD (cutC p0) 0)).length < 9223372036854775808) && decide (((dMO (cutC p0))).length < 9223372036854775808) then
  (bif decide (((mvS ((aArS (cutC p0) 0)) ((aArD (cutC p0) 0)) ((dMO (cutC p0))))).length < 9223372036854775808) && decide (((mvD ((aArS (cutC p0) 0)) ((aArD (cutC p0) 0)) ((dMO (cutC p0))))).length < 9223372036854775808) && decide (((mvS ((aArS (cutC p0) 0)) ((aArD (cutC p0) 0)) ((dMO (cutC p0))))).length < 9223372036854775808) && decide (((mvD ((aArS (cutC p0) 0)) ((aArD (cutC p0) 0)) ((dMO (cutC p0))))).length < 9223372036854775808) then
  (bif (!(decide (((mvS ((aArS (cutC p0) 0)) ((aArD (cutC p0) 0)) ((dMO (cutC p0))))) = ((mvS ((aArS (cutC p0) 0)) ((aArD (cutC p0) 0)) ((dMO (cutC p0)))))) && decide (((mvD ((aArS (cutC p0) 0)) ((aArD (cutC p0) 0)) ((dMO (cutC p0))))) = ((mvD ((aArS (cutC p0) 0)) ((aArD (cutC p0) 0)) ((dMO (cutC p0)))))))) then
  (bif decide (((mvS ((aArS (cutC p0) 0)) ((aArD (cutC p0) 0)) ((dMO (cutC p0))))).length < 9223372036854775808) && decide (((mvD ((aArS (cutC p0) 0)) ((aArD (cutC p0) 0)) ((dMO (cutC p0))))).length < 9223372036854775808) && decide (((mvS ((aArS (cutC p0) 0)) ((aArD (cutC p0) 0)) ((dMO (cutC p0))))).length < 9223372036854775808) && decide (((mvD ((aArS (cutC p0) 0)) ((aArD (cutC p0) 0)) ((dMO (cutC p0))))).length < 9223372036854775808) then
  (bif (decide (((mvS ((aArS (cutC p0) 0)) ((aArD (cutC p0) 0)) ((dMO (cutC p0))))) = ((mvS ((aArS (cutC p0) 0)) ((aArD (cutC p0) 0)) ((dMO (cutC p0)))))) && decide (((mvD ((aArS (cutC p0) 0)) ((aArD (cutC p0) 0)) ((dMO (cutC p0))))) = ((mvD ((aArS (cutC p0) 0)) ((aArD (cutC p0) 0)) ((dMO (cutC p0))))))) then
  some ([.one ((.bool ((mvB ((aArS (cutC p0) 0)) ((aArD (cutC p0) 0)) ((dMO (cutC p0)))) == (mvB ((aArS (cutC p0) 0)) ((aArD (cutC p0) 0)) ((dMO (cutC p0)))))), false)], [])
  else
  some ([.one ((.bool false), false)], []))
  else
  none)
  else
  (bif (!((mvB ((aArS (cutC p0) 0)) ((aArD (cutC p0) 0)) ((dMO (cutC p0)))) == (mvB ((aArS (cutC p0) 0)) ((aArD (cutC p0) 0)) ((dMO (cutC p0)))))) then
  (bif decide (((mvS ((aArS (cutC p0) 0)) ((aArD (cutC p0) 0)) ((dMO (cutC p0))))).length < 9223372036854775808) && decide (((mvD ((aArS (cutC p0) 0)) ((aArD (cutC p0) 0)) ((dMO (cutC p0))))).length < 9223372036854775808) && decide (((mvS ((aArS (cutC p0) 0)) ((aArD (cutC p0) 0)) ((dMO (cutC p0))))).length < 9223372036854775808) && decide (((mvD ((aArS (cutC p0) 0)) ((aArD (cutC p0) 0)) ((dMO (cutC p0))))).length < 9223372036854775808) then
  (bif (decide (((mvS ((aArS (cutC p0) 0)) ((aArD (cutC p0) 0)) ((dMO (cutC p0))))) = ((mvS ((aArS (cutC p0) 0)) ((aArD (cutC p0) 0)) ((dMO (cutC p0)))))) && decide (((mvD ((aArS (cutC p0) 0)) ((aArD (cutC p0) 0)) ((dMO (cutC p0))))) = ((mvD ((aArS (cutC p0) 0)) ((aArD (cutC p0) 0)) ((dMO (cutC p0))))))) then
  some ([.one ((.bool ((mvB ((aArS (cutC p0) 0)) ((aArD (cutC p0) 0)) ((dMO (cutC p0)))) == (mvB ((aArS (cutC p0) 0)) ((aArD (cutC p0) 0)) ((dMO (cutC p0)))))), false)], [])
  else
  some ([.one ((.bool false), false)], []))
  else
  none)
  else
  (bif (!(mvB ((aArS (cutC p0) 0)) ((aArD (cutC p0) 0)) ((dMO (cutC p0))))) then
  (bif decide (((mvS ((aArS (cutC p0) 0)) ((aArD (cutC p0) 0)) ((dMO (cutC p0))))).length < 9223372036854775808) && decide (((mvD ((aArS (cutC p0) 0)) ((aArD (cutC p0) 0)) ((dMO (cutC p0))))).length < 9223372036854775808) && decide (((mvS ((aArS (cutC p0) 0)) ((aArD (cutC p0) 0)) ((dMO (cutC p0))))).length < 9223372036854775808) && decide (((mvD ((aArS (cutC p0) 0)) ((aArD (cutC p0) 0)) ((dMO (cutC p0))))).length < 9223372036854775808) then
  (bif (decide (((mvS ((aArS (cutC p0) 0)) ((aArD (cutC p0) 0)) ((dMO (cutC p0))))) = ((mvS ((aArS (cutC p0) 0)) ((aArD (cutC p0) 0)) ((dMO (cutC p0)))))) && decide (((mvD ((aArS (cutC p0) 0)) ((aArD (cutC p0) 0)) ((dMO (cutC p0))))) = ((mvD ((aArS (cutC p0) 0)) ((aArD (cutC p0) 0)) ((dMO (cutC p0))))))) then
  some ([.one ((.bool ((mvB ((aArS (cutC p0) 0)) ((aArD (cutC p0) 0)) ((dMO (cutC p0)))) == (mvB ((aArS (cutC p0) 0)) ((aArD (cutC p0) 0)) ((dMO (cutC p0)))))), false)], [])
  else
  some ([.one ((.bool false), false)], []))
  else
  none)
  else
  (bif decide (((dMO (cutC p0))).length < 9223372036854775808) then
  (bif decide (((mvS ((aArS (cutC p0) 0)) ((aArD (cutC p0) 0)) ((dMO (cutC p0))))).length < 9223372036854775808) && decide (((mvD ((aArS (cutC p0) 0)) ((aArD (cutC p0) 0)) ((dMO (cutC p0))))).length < 9223372036854775808) && decide (((obS ((dMO (cutC p0))))).length < 9223372036854775808) then
  L0 fuel fuel (t0 p0 0) (k0  fuel)
  else
  none)
  else
  none))))
  else
  none)
  else
  none)
  else
  none)
  else
  none)) := by kernel_rfl
theorem s0 (fuel n0 : Nat) (p0 : List Int) (x0q3 : Int) : L0 fuel (n0 + 1) (t0 p0 x0q3) (k0  fuel) =
  (bif (decide ((x0q3 : Int) < (((dMO (cutC p0)).length : Nat) : Int))) then
  (idx x0q3 (mvS ((aArS (cutC p0) 0)) ((aArD (cutC p0) 0)) ((dMO (cutC p0)))).length).bind fun j13 =>
  ((mvS ((aArS (cutC p0) 0)) ((aArD (cutC p0) 0)) ((dMO (cutC p0))))[j13]?).bind fun v14 =>
  (idx x0q3 (dMO (cutC p0)).length).bind fun j15 =>
  ((dMO (cutC p0))[j15]?).bind fun v16 =>
  (idx v16 (aArS (cutC p0) 0).length).bind fun j17 =>
  ((aArS (cutC p0) 0)[j17]?).bind fun v18 =>
  (bif ((v14 : Int) != v18) then
  some ([.one ((.bool false), false)], [])
  else
  L0 fuel n0 (t0 p0 ((IntKind.wrap .i64 (x0q3 + 1)))) (k0  fuel))
  else
  (bif (obB ((dMO (cutC p0)))) then
  (bif (mvB ((mvS ((aArS (cutC p0) 0)) ((aArD (cutC p0) 0)) ((dMO (cutC p0))))) ((mvD ((aArS (cutC p0) 0)) ((aArD (cutC p0) 0)) ((dMO (cutC p0))))) ((obS ((dMO (cutC p0)))))) then
  (bif decide (((mvS ((mvS ((aArS (cutC p0) 0)) ((aArD (cutC p0) 0)) ((dMO (cutC p0))))) ((mvD ((aArS (cutC p0) 0)) ((aArD (cutC p0) 0)) ((dMO (cutC p0))))) ((obS ((dMO (cutC p0))))))).length < 9223372036854775808) && decide (((mvD ((mvS ((aArS (cutC p0) 0)) ((aArD (cutC p0) 0)) ((dMO (cutC p0))))) ((mvD ((aArS (cutC p0) 0)) ((aArD (cutC p0) 0)) ((dMO (cutC p0))))) ((obS ((dMO (cutC p0))))))).length < 9223372036854775808) && decide (((aArS (cutC p0) 0)).length < 9223372036854775808) && decide (((aArD (cutC p0) 0)).length < 9223372036854775808) then
  some ([.one ((.bool (decide (((mvS ((mvS ((aArS (cutC p0) 0)) ((aArD (cutC p0) 0)) ((dMO (cutC p0))))) ((mvD ((aArS (cutC p0) 0)) ((aArD (cutC p0) 0)) ((dMO (cutC p0))))) ((obS ((dMO (cutC p0))))))) = ((aArS (cutC p0) 0))) && decide (((mvD ((mvS ((aArS (cutC p0) 0)) ((aArD (cutC p0) 0)) ((dMO (cutC p0))))) ((mvD ((aArS (cutC p0) 0)) ((aArD (cutC p0) 0)) ((dMO (cutC p0))))) ((obS ((dMO (cutC p0))))))) = ((aArD (cutC p0) 0))))), false)], [])
  else
  none)
  else
  some ([.one ((.bool false), false)], []))
  else
  some ([.one ((.bool false), false)], []))) := by kernel_rfl
end laws_FnMoveAxes
theorem laws_FnMoveAxes.ok_of (hX : ∀ E ∈ laws_FnMoveAxes.X, CallSpec Try.prog E) (h : ∀ (bs : List Int), (bytesB bs) = true → ∃ fuel, runF Try.prog laws_FnMoveAxes.X laws_FnMoveAxes.I 0 fuel 5 Try.f5 [.d (.ints .u8 bs)] = some ([.one ((.bool true), false)], [])) : CallSpec Try.prog laws_FnMoveAxes.E :=
  callSpec_of (d := 0) hX (by kernel_rfl) laws_FnMoveAxes.I_ok (by kernel_rfl) (by kernel_rfl) (by kernel_rfl) (fun _ _ _ _ h => by dsimp only [laws_FnMoveAxes.E] at h; cases h) (fun xs hp => by
    dsimp only [laws_FnMoveAxes.E] at hp ⊢
    split at hp
    · exact h _ hp
    · cases hp)
theorem laws_FnMoveAxes.ok : CallSpec Try.prog laws_FnMoveAxes.E := laws_FnMoveAxes.ok_of (by simp [laws_FnMoveAxes.X, spec_DrawMoveAxes.ok, impl_MoveAxes.ok, spec_MoveAxes.ok, laws_equalArray.ok, impl_OrderBack.ok]) fun bs h => by
  obtain ⟨F, hF⟩ : ∃ F : Nat, 4000 < F := ⟨4001, by omega⟩
  refine ⟨F, ?_⟩
  rw [laws_FnMoveAxes.e]
  by_cases hl : ((bs.length : Nat) : Int) > 1048576
  · rw [decide_eq_true hl]; rfl
  rw [decide_eq_false hl, cond_false, h, cond_true]
  have r0 := cut_ok h (p := 0) (by omega) (by omega)
  obtain ⟨a1, a2, _, _⟩ := aAr_bd r0 (by omega)
  have a3 := dMO_len r0
  obtain ⟨sh, hsh⟩ : ∃ x, aArS (cutC bs) 0 = x := ⟨_, rfl⟩
  obtain ⟨da, hda⟩ : ∃ x, aArD (cutC bs) 0 = x := ⟨_, rfl⟩
  obtain ⟨od, hod⟩ : ∃ x, dMO (cutC bs) = x := ⟨_, rfl⟩
  rw [hsh] at a1
  rw [hda] at a2
  rw [hod] at a3
  have g1 := lt_of (xs := sh) (by omega)
  have g2 := lt_of (xs := da) (by omega)
  have g3 := lt_of (xs := od) (by omega)
  have ml := mv_len sh da od
  have g4 := lt_of (xs := mvS sh da od) (by omega)
  have g5 := lt_of (xs := mvD sh da od) (by omega)
  simp only [hsh, hda, hod]
  cases hb : mvB sh da od with
  | false => simp only [Bool.and_self, Bool.and_true, Bool.true_and, cond_true, cond_false, Bool.not_true, Bool.not_false, bne_self_eq_false, beq_self_eq_true, decide_true, eq_self, g1, g2, g3, g4, g5, hb]
  | true =>
    obtain ⟨h1, h2, h3, h4⟩ := mvB_inv hb
    obtain ⟨b1, b2, b3⟩ := mv_back hb
    have mS : mvS sh da od = mvSh sh od := by simp only [mvS, hb, cond_true]
    have mD : mvD sh da od = mvN sh da od := by simp only [mvD, hb, cond_true]
    have hoS : obS od = obN od := by simp only [obS, h1, cond_true]
    have hN : (mvN sh da od).length = da.length := by simp only [mvN, tab_length]
    have hL := mvSh_length sh od
    have hbl := obN_length od
    have hl := validA_len h2
    have g6 := lt_of (xs := obN od) (by omega)
    have g7 := lt_of (xs := mvSh sh od) (by omega)
    have g8 := lt_of (xs := mvN sh da od) (by omega)
    have c1 : mvS (mvSh sh od) (mvN sh da od) (obN od) = sh := by simp only [mvS, b1, cond_true, b2]
    have c2 : mvD (mvSh sh od) (mvN sh da od) (obN od) = da := by simp only [mvD, b1, cond_true, b3]
    simp only [Bool.and_self, Bool.and_true, Bool.true_and, cond_true, cond_false, Bool.not_true, Bool.not_false, bne_self_eq_false, beq_self_eq_true, decide_true, eq_self, g1, g2, g3, g4, g5, hb, hoS, mS, mD, g6, g7, g8]
    refine run_loop (N := od.length) (fun n j (_ : Unit) => laws_FnMoveAxes.L0 F n (laws_FnMoveAxes.t0 bs (j : Int)) (laws_FnMoveAxes.k0 F)) (fun _ _ => True) ?_ ?_ F 0 () (by omega) (by omega) trivial
    · intro n _ _
      rw [laws_FnMoveAxes.s0]
      simp only [hsh, hda, hod, mS, mD, hoS]
      rw [dge (by omega), cond_false]
      simp only [Bool.and_self, Bool.and_true, Bool.true_and, cond_true, cond_false, Bool.not_true, Bool.not_false, bne_self_eq_false, beq_self_eq_true, decide_true, eq_self, h1, b1, c1, c2, g1, g2]
    · intro n j _ hj _
      obtain ⟨q1, q2, q3⟩ := ob_get h1 j hj
      have j1 : j < (mvSh sh od).length := by omega
      have q2' : (od.getD j 0).toNat < sh.length := by omega
      have hi : idx (od.getD j 0) sh.length = some (od.getD j 0).toNat := by
        simp only [idx]
        rw [if_pos (by omega)]
      rw [laws_FnMoveAxes.s0]
      simp only [hsh, hda, hod, mS]
      rw [dlt hj, cond_true, idx_nat j1, idx_nat hj, w1 (by omega)]
      simp only [Option.bind_some, getD_get j1, getD_get hj, hi, getD_get q2', mvSh_get hj, bne_self_eq_false, cond_false]
      exact ⟨(), trivial, trivial⟩

namespace impl_OffsetOf
noncomputable def E : Entry := ⟨64, true, false, fun | [.d (.ints .i64 sh), .d (.ints .i64 pl)] => decide (sh.length < 9223372036854775808) && decide (pl.length < 9223372036854775808) | _ => false, fun | [.d (.ints .i64 sh), .d (.ints .i64 pl)] => ([.one ((.int .i64 (offS sh pl)), false)], []) | _ => ([], []), fun _ => [], false, fun _ => none⟩
end impl_OffsetOf
namespace impl_OffsetOf
noncomputable def X : List Entry := [impl_layoutOf.E]
noncomputable def I : List Inl := [⟨64, Try.f64, ⟨[12], [(1000006, [1, 2, 3, 4, 6, 8, 9, 10, 11, 12, 13, 14, 15, 16, 17, 18, 19, 20, 21, 22, 23, 27, 28, 29, 30, 31, 32, 33, 34, 35, 36, 37, 38, 39, 40, 41, 42, 43, 44, 45, 46, 47, 48, 49, 50])], [], [], [], []⟩⟩]
theorem I_ok : ∀ i ∈ I, Try.prog.funcs[i.f]? = some i.fn ∧ (i.fn.name == "runtime.NumGoroutine") = false := by
  intro i hi
  simp only [I, List.mem_cons, List.not_mem_nil, or_false] at hi
  subst hi
  exact ⟨by kernel_rfl, by kernel_rfl⟩
noncomputable abbrev L0 (fuel n : Nat) (s : St) (k : Kont) := lAt Try.prog X I fuel true 0 false 64 (bodyOf Try.f64) [1, 1, 1, 1, 0, 1, 0] n s k
noncomputable abbrev k0  (fuel : Nat) : Kont := (kAt Try.prog X I fuel true 0 false 64 (bodyOf Try.f64) [1, 1, 1, 1, 0, 1, 0] [] (endK Try.prog Try.f64))
noncomputable def t0 (p0 : List Int) (p1 : List Int) (x0q1 : Int) (x0q4 : Int) : St := ⟨[(.imm (.ints .i64 p0)), .dead, .dead, .dead, .dead, (.ptr 1000000000 0 0), .dead, (.imm (.int .i64 x0q1)), .dead, .dead, .dead, .dead, .dead, .dead, .dead, .dead, .dead, .dead, .dead, .dead, .dead, .dead, .dead, .dead, (.imm (.ints .i64 p1)), (.imm (.int .i64 ((p1.length : Nat) : Int))), (.imm (.int .i64 x0q4)), .dead, .dead, .dead, .dead, .dead, .dead, .dead, .dead, .dead, .dead, .dead, .dead, .dead, .dead, .dead, .dead, .dead, .dead, .dead, .dead, .dead, .dead, .dead, .dead], hOf [(1000000000, (.box [(.imm (.ints .i64 p0)), (.imm (.int .i64 (strd p0 0))), (.imm (.int .i64 (strd p0 1))), (.imm (.int .i64 (strd p0 2))), (.imm (.int .i64 (volW p0)))]))], [], []⟩
theorem e (fuel : Nat) (p0 : List Int) (p1 : List Int) : runF Try.prog X I 0 fuel 64 Try.f64 [.d (.ints .i64 p0), .d (.ints .i64 p1)] =
  (bif decide (p0.length < 9223372036854775808) then
  (bif validS p0 then
  (bif ((((p1.length : Nat) : Int) : Int) != ((p0.length : Nat) : Int)) then
  some ([.one ((.int .i64 (-1)), false)], [])
  else
  L0 fuel fuel (t0 p0 p1 0 0) (k0  fuel))
  else
  some ([.one ((.int .i64 (-1)), false)], []))
  else
  none) := by kernel_rfl
theorem s0 (fuel n0 : Nat) (p0 : List Int) (p1 : List Int) (x0q1 : Int) (x0q4 : Int) : L0 fuel (n0 + 1) (t0 p0 p1 x0q1 x0q4) (k0  fuel) =
  (bif (decide ((x0q4 : Int) < ((p1.length : Nat) : Int))) then
  (idx x0q4 p1.length).bind fun j9 =>
  (p1[j9]?).bind fun v10 =>
  (bif (decide ((v10 : Int) < 0)) then
  some ([.one ((.int .i64 (-1)), false)], [])
  else
  (idx x0q4 p0.length).bind fun j11 =>
  (p0[j11]?).bind fun v12 =>
  (bif (decide ((v10 : Int) ≥ v12)) then
  some ([.one ((.int .i64 (-1)), false)], [])
  else
  (bif decide (x0q4 = ((0 : Nat) : Int)) then
  L0 fuel n0 (t0 p0 p1 ((IntKind.wrap .i64 (x0q1 + (IntKind.wrap .i64 (v10 * (strd p0 0)))))) ((IntKind.wrap .i64 (x0q4 + 1)))) (k0  fuel)
  else
  (bif decide (x0q4 = ((1 : Nat) : Int)) then
  L0 fuel n0 (t0 p0 p1 ((IntKind.wrap .i64 (x0q1 + (IntKind.wrap .i64 (v10 * (strd p0 1)))))) ((IntKind.wrap .i64 (x0q4 + 1)))) (k0  fuel)
  else
  (bif decide (x0q4 = ((2 : Nat) : Int)) then
  L0 fuel n0 (t0 p0 p1 ((IntKind.wrap .i64 (x0q1 + (IntKind.wrap .i64 (v10 * (strd p0 2)))))) ((IntKind.wrap .i64 (x0q4 + 1)))) (k0  fuel)
  else
  none)))))
  else
  some ([.one ((.int .i64 x0q1), false)], [])) := by kernel_rfl
end impl_OffsetOf
theorem impl_OffsetOf.ok_of (hX : ∀ E ∈ impl_OffsetOf.X, CallSpec Try.prog E) (h : ∀ (sh : List Int) (pl : List Int), (decide (sh.length < 9223372036854775808) && decide (pl.length < 9223372036854775808)) = true → ∃ fuel, runF Try.prog impl_OffsetOf.X impl_OffsetOf.I 0 fuel 64 Try.f64 [.d (.ints .i64 sh), .d (.ints .i64 pl)] = some ([.one ((.int .i64 (offS sh pl)), false)], [])) : CallSpec Try.prog impl_OffsetOf.E :=
  callSpec_of (d := 0) hX (by kernel_rfl) impl_OffsetOf.I_ok (by kernel_rfl) (by kernel_rfl) (by kernel_rfl) (fun _ _ _ _ h => by dsimp only [impl_OffsetOf.E] at h; cases h) (fun xs hp => by
    dsimp only [impl_OffsetOf.E] at hp ⊢
    split at hp
    · exact h _ _ hp
    · cases hp)
theorem impl_OffsetOf.bad (fuel n : Nat) (sh pl : List Int) (k : Nat) (v s acc : Int) (hk : k < pl.length) (hs : k < sh.length) (hv : pl[k]? = some v) (hsv : sh[k]? = some s) (h : ¬ (0 ≤ v ∧ v < s)) :
    impl_OffsetOf.L0 fuel (n + 1) (impl_OffsetOf.t0 sh pl acc (k : Int)) (impl_OffsetOf.k0 fuel) = some ([.one (.int .i64 (-1), false)], []) := by
  rw [impl_OffsetOf.s0, dlt hk, idx_nat hk, idx_nat hs]
  simp only [cond_true, Option.bind_some, hv, hsv]
  by_cases h0 : v < 0
  · rw [decide_eq_true h0]; rfl
  · rw [decide_eq_false h0, decide_eq_true (by omega)]; rfl
theorem impl_OffsetOf.good (fuel n : Nat) (sh pl : List Int) (k : Nat) (v s acc : Int) (hk : k < pl.length) (hs : k < sh.length) (hv : pl[k]? = some v) (hsv : sh[k]? = some s) (h : 0 ≤ v ∧ v < s) (hk3 : k < 3) :
    impl_OffsetOf.L0 fuel (n + 1) (impl_OffsetOf.t0 sh pl acc (k : Int)) (impl_OffsetOf.k0 fuel) = impl_OffsetOf.L0 fuel n (impl_OffsetOf.t0 sh pl (IntKind.wrap .i64 (acc + IntKind.wrap .i64 (v * strd sh k))) ((k + 1 : Nat) : Int)) (impl_OffsetOf.k0 fuel) := by
  rw [impl_OffsetOf.s0, dlt hk, idx_nat hk, idx_nat hs, w1 (by omega)]
  simp only [cond_true, Option.bind_some, hv, hsv]
  rw [decide_eq_false (p := v < 0) (by omega), decide_eq_false (p := v ≥ s) (by omega)]
  match k, hk3 with
  | 0, _ => rfl
  | 1, _ => rfl
  | 2, _ => rfl
theorem impl_OffsetOf.last (fuel n : Nat) (sh pl : List Int) (k : Nat) (acc : Int) (hk : ¬ k < pl.length) :
    impl_OffsetOf.L0 fuel (n + 1) (impl_OffsetOf.t0 sh pl acc (k : Int)) (impl_OffsetOf.k0 fuel) = some ([.one (.int .i64 acc, false)], []) := by
  rw [impl_OffsetOf.s0, dge hk]
  rfl
theorem plB0 {a p : Int} (h0 : 0 ≤ a) (h1 : a ≤ 60) : (decide (0 ≤ p) && decide (p ≤ IntKind.wrap .i64 (a - 1))) = decide (0 ≤ p ∧ p < a) := by
  rw [wS (x := a - 1) (by omega) (by omega)]
  by_cases h : 0 ≤ p ∧ p < a
  · rw [decide_eq_true h, decide_eq_true h.1, decide_eq_true (by omega)]; rfl
  · rw [decide_eq_false h]
    by_cases h2 : 0 ≤ p
    · rw [decide_eq_false (p := p ≤ a - 1) (by omega), Bool.and_false]
    · rw [decide_eq_false h2]; rfl
theorem impl_OffsetOf.ok : CallSpec Try.prog impl_OffsetOf.E := impl_OffsetOf.ok_of (by simp [impl_OffsetOf.X, impl_layoutOf.ok]) fun sh pl h => by
  simp only [Bool.and_eq_true] at h
  refine ⟨4, ?_⟩
  rw [impl_OffsetOf.e, h.1]
  unfold offS
  cases hv : validS sh with
  | false => rfl
  | true =>
    simp only [cond_true, Bool.true_and]
    by_cases hl : pl.length = sh.length
    case neg =>
      rw [isPl_ne hl]
      have : (((pl.length : Nat) : Int) != ((sh.length : Nat) : Int)) = true := by simp; omega
      rw [this]
      rfl
    have : (((pl.length : Nat) : Int) != ((sh.length : Nat) : Int)) = false := by simp [hl]
    rw [this, cond_false, show (0 : Int) = ((0 : Nat) : Int) from rfl]
    rcases validS_cases hv with rfl | ⟨a, rfl, a0, a1⟩ | ⟨a, b, rfl, a0, a1, b0, b1, v⟩ | ⟨a, b, c, rfl, a0, a1, b0, b1, c0, c1, v⟩
    · match pl, hl with
      | [], _ => rw [impl_OffsetOf.last _ _ _ _ _ _ (by simp)]; rfl
    · match pl, hl with
      | [p], _ =>
        simp only [isPl, Bool.and_true, plB0 a0 a1]
        by_cases h1 : 0 ≤ p ∧ p < a
        case neg => rw [impl_OffsetOf.bad _ _ _ _ _ p a _ (by simp) (by simp) rfl rfl h1, decide_eq_false h1]; rfl
        rw [impl_OffsetOf.good _ _ _ _ _ p a _ (by simp) (by simp) rfl rfl h1 (by omega), impl_OffsetOf.last _ _ _ _ _ _ (by simp), decide_eq_true h1]
        simp only [cond_true, offW, strd, volW, volFrom, List.length_cons, List.length_nil, List.drop_succ_cons, List.drop_zero, List.drop_nil, Int.zero_mul, Int.one_mul, Int.mul_one, Nat.lt_add_one, decide_true, Int.zero_add, Nat.zero_add, Int.ofNat_zero, Int.natCast_zero]
        rw [wS (x := 0) (by omega) (by omega), Int.zero_add]
        simp only [wS (x := p) (by omega) (by omega)]
    · match pl, hl with
      | [p, q], _ =>
        simp only [isPl, Bool.and_true, plB0 a0 a1, plB0 b0 b1]
        by_cases h1 : 0 ≤ p ∧ p < a
        case neg => rw [impl_OffsetOf.bad _ _ _ _ _ p a _ (by simp) (by simp) rfl rfl h1, decide_eq_false h1]; rfl
        rw [impl_OffsetOf.good _ _ _ _ _ p a _ (by simp) (by simp) rfl rfl h1 (by omega), decide_eq_true h1]
        by_cases h2 : 0 ≤ q ∧ q < b
        case neg => rw [impl_OffsetOf.bad _ _ _ _ _ q b _ (by simp) (by simp) rfl rfl h2, decide_eq_false h2]; rfl
        rw [impl_OffsetOf.good _ _ _ _ _ q b _ (by simp) (by simp) rfl rfl h2 (by omega), impl_OffsetOf.last _ _ _ _ _ _ (by simp), decide_eq_true h2]
        have hpb := mul60 (a := p) (b := b) h1.1 (by omega) b0 b1
        have s0 : strd [a, b] 0 = b := by simp [strd, volW, volFrom, wS (x := b) (by omega) (by omega)]
        have s1 : strd [a, b] 1 = 1 := by simp [strd, volW, volFrom]
        simp only [cond_true, Bool.and_self, offW, s0, s1, Int.zero_mul, Int.mul_one]
        rw [show ((0 : Nat) : Int) = 0 from rfl, Int.zero_mul, wS (x := 0) (by omega) (by omega), Int.zero_add, Int.zero_add, wS (x := p) (by omega) (by omega), wS (x := p * b) (by omega) (by omega), wS (x := p * b) (by omega) (by omega), wS (x := q) (by omega) (by omega)]
    · match pl, hl with
      | [p, q, r], _ =>
        simp only [isPl, Bool.and_true, plB0 a0 a1, plB0 b0 b1, plB0 c0 c1]
        by_cases h1 : 0 ≤ p ∧ p < a
        case neg => rw [impl_OffsetOf.bad _ _ _ _ _ p a _ (by simp) (by simp) rfl rfl h1, decide_eq_false h1]; rfl
        rw [impl_OffsetOf.good _ _ _ _ _ p a _ (by simp) (by simp) rfl rfl h1 (by omega), decide_eq_true h1]
        by_cases h2 : 0 ≤ q ∧ q < b
        case neg => rw [impl_OffsetOf.bad _ _ _ _ _ q b _ (by simp) (by simp) rfl rfl h2, decide_eq_false h2]; rfl
        rw [impl_OffsetOf.good _ _ _ _ _ q b _ (by simp) (by simp) rfl rfl h2 (by omega), decide_eq_true h2]
        by_cases h3 : 0 ≤ r ∧ r < c
        case neg => rw [impl_OffsetOf.bad _ _ _ _ _ r c _ (by simp) (by simp) rfl rfl h3, decide_eq_false h3]; rfl
        rw [impl_OffsetOf.good _ _ _ _ _ r c _ (by simp) (by simp) rfl rfl h3 (by omega), impl_OffsetOf.last _ _ _ _ _ _ (by simp), decide_eq_true h3]
        have hpb := mul60 (a := p) (b := b) h1.1 (by omega) b0 b1
        have hbc := mul60 b0 b1 c0 c1
        have hqc := mul60 (a := q) (b := c) h2.1 (by omega) c0 c1
        have hpbc := mul3600 (a := p * b) (b := c) hpb.1 hpb.2 c0 c1
        have hpq := mul3600 (a := p * b + q) (b := c) (by omega) (by
          have := horner (a := a) (b := b) h1.1 h1.2 h2.1 h2.2
          have := mul60 a0 a1 b0 b1
          omega) c0 c1
        have s0 : strd [a, b, c] 0 = b * c := by simp [strd, volW, volFrom, wS (x := b) (by omega) (by omega), wS (x := b * c) (by omega) (by omega)]
        have s1 : strd [a, b, c] 1 = c := by simp [strd, volW, volFrom, wS (x := c) (by omega) (by omega)]
        have s2 : strd [a, b, c] 2 = 1 := by simp [strd, volW, volFrom]
        have e1 : p * (b * c) = p * b * c := by rw [Int.mul_assoc]
        have e2 : (p * b + q) * c = p * b * c + q * c := by rw [Int.add_mul]
        simp only [cond_true, Bool.and_self, offW, s0, s1, s2, Int.zero_mul, Int.mul_one, e1]
        rw [e2] at hpq
        rw [show ((0 : Nat) : Int) = 0 from rfl, Int.zero_mul, wS (x := 0) (by omega) (by omega), Int.zero_add, Int.zero_add, wS (x := p) (by omega) (by omega), wS (x := p * b * c) (by omega) (by omega), wS (x := p * b * c) (by omega) (by omega), wS (x := q * c) (by omega) (by omega), wS (x := r) (by omega) (by omega),
          wS (x := p * b) (by omega) (by omega), wS (x := p * b + q) (by omega) (by omega), e2]

namespace impl_offsetIn
noncomputable def E : Entry := ⟨49, true, false, fun | [.d (.agg [(.ints .i64 sh), (.ints .i64 da)]), .d (.ints .i64 pl)] => decide (sh.length < 9223372036854775808) && decide (da.length < 9223372036854775808) && decide (pl.length < 9223372036854775808) | _ => false, fun | [.d (.agg [(.ints .i64 sh), (.ints .i64 da)]), .d (.ints .i64 pl)] => ([.one ((.int .i64 (offA sh da pl)), false)], []) | _ => ([], []), fun _ => [], false, fun _ => none⟩
end impl_offsetIn
namespace impl_offsetIn
noncomputable def X : List Entry := [impl_ValidArray.E, impl_OffsetOf.E]
noncomputable def I : List Inl := [⟨49, Try.f49, ⟨[], [], [], [], [], []⟩⟩]
theorem I_ok : ∀ i ∈ I, Try.prog.funcs[i.f]? = some i.fn ∧ (i.fn.name == "runtime.NumGoroutine") = false := by
  intro i hi
  simp only [I, List.mem_cons, List.not_mem_nil, or_false] at hi
  subst hi
  exact ⟨by kernel_rfl, by kernel_rfl⟩
theorem e (fuel : Nat) (p0q0 : List Int) (p0q1 : List Int) (p1 : List Int) : runF Try.prog X I 0 fuel 49 Try.f49 [.d (.agg [(.ints .i64 p0q0), (.ints .i64 p0q1)]), .d (.ints .i64 p1)] =
  (bif decide (p0q0.length < 9223372036854775808) && decide (p0q1.length < 9223372036854775808) then
  (bif (!(validA p0q0 p0q1)) then
  some ([.one ((.int .i64 (-1)), false)], [])
  else
  (bif decide (p0q0.length < 9223372036854775808) && decide (p1.length < 9223372036854775808) then
  some ([.one ((.int .i64 (offS p0q0 p1)), false)], [])
  else
  none))
  else
  none) := by kernel_rfl
end impl_offsetIn
theorem impl_offsetIn.ok_of (hX : ∀ E ∈ impl_offsetIn.X, CallSpec Try.prog E) (h : ∀ (sh : List Int) (da : List Int) (pl : List Int), (decide (sh.length < 9223372036854775808) && decide (da.length < 9223372036854775808) && decide (pl.length < 9223372036854775808)) = true → ∃ fuel, runF Try.prog impl_offsetIn.X impl_offsetIn.I 0 fuel 49 Try.f49 [.d (.agg [(.ints .i64 sh), (.ints .i64 da)]), .d (.ints .i64 pl)] = some ([.one ((.int .i64 (offA sh da pl)), false)], [])) : CallSpec Try.prog impl_offsetIn.E :=
  callSpec_of (d := 0) hX (by kernel_rfl) impl_offsetIn.I_ok (by kernel_rfl) (by kernel_rfl) (by kernel_rfl) (fun _ _ _ _ h => by dsimp only [impl_offsetIn.E] at h; cases h) (fun xs hp => by
    dsimp only [impl_offsetIn.E] at hp ⊢
    split at hp
    · exact h _ _ _ hp
    · cases hp)
theorem impl_offsetIn.ok : CallSpec Try.prog impl_offsetIn.E := impl_offsetIn.ok_of (by simp [impl_offsetIn.X, impl_ValidArray.ok, impl_OffsetOf.ok]) fun sh da pl h => ⟨0, by
  simp only [Bool.and_eq_true] at h
  rw [impl_offsetIn.e, h.1.1, h.1.2, h.2]
  unfold offA
  cases validA sh da <;> rfl⟩

namespace impl_ItemAt
noncomputable def E : Entry := ⟨25, true, false, fun | [.d (.agg [(.ints .i64 sh), (.ints .i64 da)]), .d (.ints .i64 pl)] => decide (sh.length < 9223372036854775808) && decide (da.length < 9223372036854775808) && decide (pl.length < 9223372036854775808) | _ => false, fun | [.d (.agg [(.ints .i64 sh), (.ints .i64 da)]), .d (.ints .i64 pl)] => ([.one ((.int .i64 (itemV sh da pl)), false), .one ((.bool (itemB sh da pl)), false)], []) | _ => ([], []), fun _ => [], false, fun _ => none⟩
end impl_ItemAt
namespace impl_ItemAt
noncomputable def X : List Entry := [impl_offsetIn.E]
noncomputable def I : List Inl := [⟨25, Try.f25, ⟨[], [], [], [], [], []⟩⟩]
theorem I_ok : ∀ i ∈ I, Try.prog.funcs[i.f]? = some i.fn ∧ (i.fn.name == "runtime.NumGoroutine") = false := by
  intro i hi
  simp only [I, List.mem_cons, List.not_mem_nil, or_false] at hi
  subst hi
  exact ⟨by kernel_rfl, by kernel_rfl⟩
theorem e (fuel : Nat) (p0q0 : List Int) (p0q1 : List Int) (p1 : List Int) : runF Try.prog X I 0 fuel 25 Try.f25 [.d (.agg [(.ints .i64 p0q0), (.ints .i64 p0q1)]), .d (.ints .i64 p1)] =
  (bif decide (p0q0.length < 9223372036854775808) && decide (p0q1.length < 9223372036854775808) && decide (p1.length < 9223372036854775808) then
  (bif (decide (((offA p0q0 p0q1 p1) : Int) < 0)) then
  some ([.one ((.int .i64 0), false), .one ((.bool false), false)], [])
  else
  (idx (offA p0q0 p0q1 p1) p0q1.length).bind fun j1 =>
  (p0q1[j1]?).bind fun v2 =>
  some ([.one ((.int .i64 v2), false), .one ((.bool true), false)], []))
  else
  none) := by kernel_rfl
end impl_ItemAt
theorem impl_ItemAt.ok_of (hX : ∀ E ∈ impl_ItemAt.X, CallSpec Try.prog E) (h : ∀ (sh : List Int) (da : List Int) (pl : List Int), (decide (sh.length < 9223372036854775808) && decide (da.length < 9223372036854775808) && decide (pl.length < 9223372036854775808)) = true → ∃ fuel, runF Try.prog impl_ItemAt.X impl_ItemAt.I 0 fuel 25 Try.f25 [.d (.agg [(.ints .i64 sh), (.ints .i64 da)]), .d (.ints .i64 pl)] = some ([.one ((.int .i64 (itemV sh da pl)), false), .one ((.bool (itemB sh da pl)), false)], [])) : CallSpec Try.prog impl_ItemAt.E :=
  callSpec_of (d := 0) hX (by kernel_rfl) impl_ItemAt.I_ok (by kernel_rfl) (by kernel_rfl) (by kernel_rfl) (fun _ _ _ _ h => by dsimp only [impl_ItemAt.E] at h; cases h) (fun xs hp => by
    dsimp only [impl_ItemAt.E] at hp ⊢
    split at hp
    · exact h _ _ _ hp
    · cases hp)
theorem impl_ItemAt.ok : CallSpec Try.prog impl_ItemAt.E := impl_ItemAt.ok_of (by simp [impl_ItemAt.X, impl_offsetIn.ok]) fun sh da pl h => ⟨0, by
  rw [impl_ItemAt.e, h]
  unfold itemV
  cases hb : itemB sh da pl with
  | false => rw [item_no hb]; rfl
  | true =>
    obtain ⟨g1, g2, g3, g4⟩ := item_idx hb
    rw [decide_eq_false g4, g3, g2]
    simp [g1]⟩

end Go.Ab
