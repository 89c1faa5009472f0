import Derived.Test.YtbjnfjkipnpicaaExxp
import Derived.Test.YtbjnfjkipnpicaaProg
import Derived.Test.YtbjnfjkipnpicaaChecked
open Go Go.Ab Go.Proofs
set_option maxRecDepth 100000
set_option linter.unusedVariables false
set_option linter.unusedSimpArgs false
namespace Go.Ab
namespace spec_newReader
noncomputable def E : Entry := ⟨31, false, false, fun | [.d (.ints .u8 bs)] => true | _ => false, fun | [.d (.ints .u8 bs)] => ([.box [((.ints .u8 (cutC bs)), false), ((.int .i64 0), false)]], []) | _ => ([], []), fun _ => [], true, fun _ => none⟩
end spec_newReader
namespace spec_newReader
noncomputable def X : List Entry := []
noncomputable def I : List Inl := [⟨31, Try.f31, ⟨[], [], [], [], [], []⟩⟩]
theorem I_ok : ∀ i ∈ I, Try.prog.funcs[i.f]? = some i.fn ∧ (i.fn.name == "runtime.NumGoroutine") = false := by
  intro i hi
  simp only [I, List.mem_cons, List.not_mem_nil, or_false] at hi
  subst hi
  exact ⟨by kernel_rfl, by kernel_rfl⟩
theorem e (fuel : Nat) (p0 : List Int) : runF Try.prog X I 0 fuel 31 Try.f31 [.d (.ints .u8 p0)] =
  (bif (decide ((((p0.length : Nat) : Int) : Int) > 2000)) then
  (cutEnds p0.length (none) (some (.imm (.int .i64 2000)))).bind fun cq1 =>
  some ([.box [((.ints .u8 ((p0.drop cq1.1).take (cq1.2 - cq1.1))), false), ((.int .i64 0), false)]], [])
  else
  some ([.box [((.ints .u8 p0), false), ((.int .i64 0), false)]], [])) := by kernel_rfl
end spec_newReader
theorem spec_newReader.ok_of (hX : ∀ E ∈ spec_newReader.X, CallSpec Try.prog E) (h : ∀ (bs : List Int), (true) = true → ∃ fuel, runF Try.prog spec_newReader.X spec_newReader.I 0 fuel 31 Try.f31 [.d (.ints .u8 bs)] = some ([.box [((.ints .u8 (cutC bs)), false), ((.int .i64 0), false)]], [])) : CallSpec Try.prog spec_newReader.E :=
  callSpec_of (d := 0) hX (by kernel_rfl) spec_newReader.I_ok (by kernel_rfl) (by kernel_rfl) (by kernel_rfl) (fun _ _ _ _ h => by dsimp only [spec_newReader.E] at h; cases h) (fun xs hp => by
    dsimp only [spec_newReader.E] at hp ⊢
    split at hp
    · exact h _ hp
    · cases hp)
theorem spec_newReader.ok : CallSpec Try.prog spec_newReader.E := spec_newReader.ok_of (by simp [spec_newReader.X]) fun bs _ => ⟨0, by
  rw [spec_newReader.e]
  unfold cutC
  by_cases h : ((bs.length : Nat) : Int) > 2000
  · rw [decide_eq_true h]
    have : cutEnds bs.length none (some (.imm (.int .i64 2000))) = some (0, 2000) := by
      unfold cutEnds
      simp only
      rw [if_pos ⟨by omega, by omega⟩]
      rfl
    rw [this]
    rfl
  · rw [decide_eq_false h]
    rfl⟩

namespace spec_reader_pick
noncomputable def E : Entry := ⟨35, false, false, fun | [.box [(.ints .u8 bs), (.int .i64 p)], .d (.int .i64 n)] => rdOk bs p && decide ((n : Int) ≤ 1048576) | _ => false, fun | [.box [(.ints .u8 bs), (.int .i64 p)], .d (.int .i64 n)] => ([.one ((.int .i64 (pickV bs p n)), false)], [[(.ints .u8 bs), (.int .i64 (p + 1))]]) | _ => ([], []), fun _ => [], false, fun _ => none⟩
end spec_reader_pick
namespace spec_reader_pick
noncomputable def X : List Entry := []
noncomputable def I : List Inl := [⟨35, Try.f35, ⟨[], [], [], [(7, [0, 1, 2, 4, 5, 6, 7, 15, 16, 17, 19, 20, 21, 22, 23, 24, 33, 34, 36, 37, 38, 39, 3, 8, 9, 10, 11, 12, 13, 14, 18, 25, 26, 27, 28, 29, 30, 31, 32, 35, 40, 41, 42, 43, 44, 45])], [], []⟩⟩]
theorem I_ok : ∀ i ∈ I, Try.prog.funcs[i.f]? = some i.fn ∧ (i.fn.name == "runtime.NumGoroutine") = false := by
  intro i hi
  simp only [I, List.mem_cons, List.not_mem_nil, or_false] at hi
  subst hi
  exact ⟨by kernel_rfl, by kernel_rfl⟩
theorem e (fuel : Nat) (p0q0 : List Int) (p0q1 : Int) (p1 : Int) : runF Try.prog X I 0 fuel 35 Try.f35 [.box [(.ints .u8 p0q0), (.int .i64 p0q1)], .d (.int .i64 p1)] =
  (bif (decide ((p1 : Int) < 1)) then
  some ([.one ((.int .i64 0), false)], [[(.ints .u8 p0q0), (.int .i64 (IntKind.wrap .i64 (p0q1 + 1)))]])
  else
  (bif ((((p0q0.length : Nat) : Int) : Int) == 0) then
  some ([.one ((.int .i64 0), false)], [[(.ints .u8 p0q0), (.int .i64 (IntKind.wrap .i64 (p0q1 + 1)))]])
  else
  (bif (decide (((IntKind.wrap .i64 ((IntKind.wrap .i64 (p0q1 + 1)) - 1)) : Int) < ((p0q0.length : Nat) : Int))) then
  (idx (IntKind.wrap .i64 ((IntKind.wrap .i64 (p0q1 + 1)) - 1)) p0q0.length).bind fun j1 =>
  (p0q0[j1]?).bind fun v2 =>
  (bif decide ((p1 : Int) = 0) then
  none
  else
  some ([.one ((.int .i64 (Int.tmod (IntKind.wrap .i64 v2) p1)), false)], [[(.ints .u8 p0q0), (.int .i64 (IntKind.wrap .i64 (p0q1 + 1)))]]))
  else
  (bif decide ((((p0q0.length : Nat) : Int) : Int) = 0) then
  none
  else
  (idx (Int.tmod (IntKind.wrap .i64 ((IntKind.wrap .i64 (p0q1 + 1)) - 1)) ((p0q0.length : Nat) : Int)) p0q0.length).bind fun j3 =>
  (p0q0[j3]?).bind fun v4 =>
  (bif decide ((((p0q0.length : Nat) : Int) : Int) = 0) then
  none
  else
  (idx (Int.tmod (IntKind.wrap .i64 ((IntKind.wrap .i64 ((IntKind.wrap .i64 ((IntKind.wrap .i64 (p0q1 + 1)) - 1)) * 7)) + 3)) ((p0q0.length : Nat) : Int)) p0q0.length).bind fun j5 =>
  (p0q0[j5]?).bind fun v6 =>
  (bif decide ((((p0q0.length : Nat) : Int) : Int) = 0) then
  none
  else
  (bif decide ((p1 : Int) = 0) then
  none
  else
  some ([.one ((.int .i64 (Int.tmod (IntKind.wrap .i64 ((BitVec.ofInt (IntKind.bits .i64) (IntKind.wrap .i64 ((IntKind.wrap .i64 ((IntKind.wrap .i64 ((IntKind.wrap .i64 ((IntKind.wrap .i64 v4) * 131)) + (IntKind.wrap .i64 ((IntKind.wrap .i64 v6) * 1117)))) + (IntKind.wrap .i64 ((IntKind.wrap .i64 ((IntKind.wrap .i64 (p0q1 + 1)) - 1)) * 29)))) + (IntKind.wrap .i64 ((IntKind.wrap .i64 (Int.tdiv (IntKind.wrap .i64 ((IntKind.wrap .i64 (p0q1 + 1)) - 1)) ((p0q0.length : Nat) : Int))) * 53)))) ^^^ BitVec.ofInt (IntKind.bits .i64) (IntKind.wrap .i64 (Int.tdiv (IntKind.wrap .i64 ((IntKind.wrap .i64 ((IntKind.wrap .i64 ((IntKind.wrap .i64 ((IntKind.wrap .i64 v4) * 131)) + (IntKind.wrap .i64 ((IntKind.wrap .i64 v6) * 1117)))) + (IntKind.wrap .i64 ((IntKind.wrap .i64 ((IntKind.wrap .i64 (p0q1 + 1)) - 1)) * 29)))) + (IntKind.wrap .i64 ((IntKind.wrap .i64 (Int.tdiv (IntKind.wrap .i64 ((IntKind.wrap .i64 (p0q1 + 1)) - 1)) ((p0q0.length : Nat) : Int))) * 53)))) 64))).toNat : Int)) p1)), false)], [[(.ints .u8 p0q0), (.int .i64 (IntKind.wrap .i64 (p0q1 + 1)))]])))))))) := by kernel_rfl
end spec_reader_pick
theorem spec_reader_pick.ok_of (hX : ∀ E ∈ spec_reader_pick.X, CallSpec Try.prog E) (h : ∀ (bs : List Int) (p : Int) (n : Int), (rdOk bs p && decide ((n : Int) ≤ 1048576)) = true → ∃ fuel, runF Try.prog spec_reader_pick.X spec_reader_pick.I 0 fuel 35 Try.f35 [.box [(.ints .u8 bs), (.int .i64 p)], .d (.int .i64 n)] = some ([.one ((.int .i64 (pickV bs p n)), false)], [[(.ints .u8 bs), (.int .i64 (p + 1))]])) : CallSpec Try.prog spec_reader_pick.E :=
  callSpec_of (d := 0) hX (by kernel_rfl) spec_reader_pick.I_ok (by kernel_rfl) (by kernel_rfl) (by kernel_rfl) (fun _ _ _ _ h => by dsimp only [spec_reader_pick.E] at h; cases h) (fun xs hp => by
    dsimp only [spec_reader_pick.E] at hp ⊢
    split at hp
    · exact h _ _ _ hp
    · cases hp)
theorem spec_reader_pick.ok : CallSpec Try.prog spec_reader_pick.E := spec_reader_pick.ok_of (by simp [spec_reader_pick.X]) fun bs p n h => ⟨0, by
  simp only [Bool.and_eq_true, decide_eq_true_eq] at h
  obtain ⟨h0, h1, h2, h3⟩ := rdOk_inv h.1
  have hP := @wS (p + 1) (by omega) (by omega)
  have hK := @wS (p + 1 - 1) (by omega) (by omega)
  rw [show p + 1 - 1 = p by omega] at hK
  rw [spec_reader_pick.e]
  simp only [hP, show p + 1 - 1 = p by omega, hK]
  unfold pickV
  by_cases hn : n < 1
  · rw [decide_eq_true hn]; rfl
  rw [decide_eq_false hn, cond_false, cond_false]
  by_cases hL : bs.length = 0
  · rw [show (((bs.length : Nat) : Int) == 0) = true by simp [hL]]; rfl
  rw [beq0 hL, cond_false, cond_false]
  by_cases hp : p < ((bs.length : Nat) : Int)
  · have hlt : p.toNat < bs.length := by omega
    have hi : idx p bs.length = some p.toNat := by unfold idx; rw [if_pos ⟨h0, hp⟩]
    rw [decide_eq_true hp, hi, decide_eq_false (p := n = 0) (by omega)]
    simp [hlt]
  · have t1 := tmod_bd (x := p) (n := ((bs.length : Nat) : Int)) h0 (by omega)
    have e7 := @wS (p * 7) (by omega) (by omega)
    have e8 := @wS (p * 7 + 3) (by omega) (by omega)
    have t2 := tmod_bd (x := p * 7 + 3) (n := ((bs.length : Nat) : Int)) (by omega) (by omega)
    have i1 : idx (Int.tmod p ((bs.length : Nat) : Int)) bs.length = some (Int.tmod p ((bs.length : Nat) : Int)).toNat := by unfold idx; rw [if_pos t1]
    have i2 : idx (Int.tmod (p * 7 + 3) ((bs.length : Nat) : Int)) bs.length = some (Int.tmod (p * 7 + 3) ((bs.length : Nat) : Int)).toNat := by unfold idx; rw [if_pos t2]
    have g1 : (Int.tmod p ((bs.length : Nat) : Int)).toNat < bs.length := by omega
    have g2 : (Int.tmod (p * 7 + 3) ((bs.length : Nat) : Int)).toNat < bs.length := by omega
    have q1 : bs[(Int.tmod p ((bs.length : Nat) : Int)).toNat]? = some (bs.getD (Int.tmod p ((bs.length : Nat) : Int)).toNat 0) := by simp [g1]
    have q2 : bs[(Int.tmod (p * 7 + 3) ((bs.length : Nat) : Int)).toNat]? = some (bs.getD (Int.tmod (p * 7 + 3) ((bs.length : Nat) : Int)).toNat 0) := by simp [g2]
    rw [decide_eq_false hp, decide_eq_false (p := (((bs.length : Nat) : Int) = 0)) (by omega), decide_eq_false (p := n = 0) (by omega), e7, e8, i1, i2]
    simp only [cond_false, Option.bind_some, q1, q2]
    rfl⟩

namespace spec_someShape
noncomputable def E : Entry := ⟨78, false, false, fun | [.box [(.ints .u8 bs), (.int .i64 p)]] => rdOk bs p && decide ((p : Int) ≤ 2000000) | _ => false, fun | [.box [(.ints .u8 bs), (.int .i64 p)]] => ([.one ((.ints .i64 (sShV bs p)), true)], [[(.ints .u8 bs), (.int .i64 (sShP bs p))]]) | _ => ([], []), fun _ => [], false, fun _ => none⟩
end spec_someShape
namespace spec_someShape
noncomputable def X : List Entry := [spec_reader_pick.E]
noncomputable def I : List Inl := [⟨78, Try.f78, ⟨[], [], [], [], [], []⟩⟩]
theorem I_ok : ∀ i ∈ I, Try.prog.funcs[i.f]? = some i.fn ∧ (i.fn.name == "runtime.NumGoroutine") = false := by
  intro i hi
  simp only [I, List.mem_cons, List.not_mem_nil, or_false] at hi
  subst hi
  exact ⟨by kernel_rfl, by kernel_rfl⟩
theorem e (fuel : Nat) (p0q0 : List Int) (p0q1 : Int) : runF Try.prog X I 0 fuel 78 Try.f78 [.box [(.ints .u8 p0q0), (.int .i64 p0q1)]] =
  (bif rdOk p0q0 p0q1 && decide ((8 : Int) ≤ 1048576) then
  (bif (((pickV p0q0 p0q1 8) : Int) == 0) then
  some ([.one ((.ints .i64 []), true)], [[(.ints .u8 p0q0), (.int .i64 (p0q1 + 1))]])
  else
  (bif (((pickV p0q0 p0q1 8) : Int) == 1) then
  (bif rdOk p0q0 ((p0q1 + 1)) && decide ((7 : Int) ≤ 1048576) then
  some ([.one ((.ints .i64 [(pickV p0q0 ((p0q1 + 1)) 7)]), true)], [[(.ints .u8 p0q0), (.int .i64 (((p0q1 + 1)) + 1))]])
  else
  none)
  else
  (bif (((pickV p0q0 p0q1 8) : Int) == 2) then
  (bif rdOk p0q0 ((p0q1 + 1)) && decide ((7 : Int) ≤ 1048576) then
  some ([.one ((.ints .i64 [(pickV p0q0 ((p0q1 + 1)) 7)]), true)], [[(.ints .u8 p0q0), (.int .i64 (((p0q1 + 1)) + 1))]])
  else
  none)
  else
  (bif (((pickV p0q0 p0q1 8) : Int) == 3) then
  (bif rdOk p0q0 ((p0q1 + 1)) && decide ((7 : Int) ≤ 1048576) then
  some ([.one ((.ints .i64 [(pickV p0q0 ((p0q1 + 1)) 7)]), true)], [[(.ints .u8 p0q0), (.int .i64 (((p0q1 + 1)) + 1))]])
  else
  none)
  else
  (bif (((pickV p0q0 p0q1 8) : Int) == 4) then
  (bif rdOk p0q0 ((p0q1 + 1)) && decide ((5 : Int) ≤ 1048576) then
  (bif rdOk p0q0 ((((p0q1 + 1)) + 1)) && decide ((5 : Int) ≤ 1048576) then
  some ([.one ((.ints .i64 [(pickV p0q0 ((p0q1 + 1)) 5), (pickV p0q0 ((((p0q1 + 1)) + 1)) 5)]), true)], [[(.ints .u8 p0q0), (.int .i64 (((((p0q1 + 1)) + 1)) + 1))]])
  else
  none)
  else
  none)
  else
  (bif (((pickV p0q0 p0q1 8) : Int) == 5) then
  (bif rdOk p0q0 ((p0q1 + 1)) && decide ((5 : Int) ≤ 1048576) then
  (bif rdOk p0q0 ((((p0q1 + 1)) + 1)) && decide ((5 : Int) ≤ 1048576) then
  some ([.one ((.ints .i64 [(pickV p0q0 ((p0q1 + 1)) 5), (pickV p0q0 ((((p0q1 + 1)) + 1)) 5)]), true)], [[(.ints .u8 p0q0), (.int .i64 (((((p0q1 + 1)) + 1)) + 1))]])
  else
  none)
  else
  none)
  else
  (bif (((pickV p0q0 p0q1 8) : Int) == 6) then
  (bif rdOk p0q0 ((p0q1 + 1)) && decide ((5 : Int) ≤ 1048576) then
  (bif rdOk p0q0 ((((p0q1 + 1)) + 1)) && decide ((5 : Int) ≤ 1048576) then
  some ([.one ((.ints .i64 [(pickV p0q0 ((p0q1 + 1)) 5), (pickV p0q0 ((((p0q1 + 1)) + 1)) 5)]), true)], [[(.ints .u8 p0q0), (.int .i64 (((((p0q1 + 1)) + 1)) + 1))]])
  else
  none)
  else
  none)
  else
  (bif rdOk p0q0 ((p0q1 + 1)) && decide ((4 : Int) ≤ 1048576) then
  (bif rdOk p0q0 ((((p0q1 + 1)) + 1)) && decide ((4 : Int) ≤ 1048576) then
  (bif rdOk p0q0 ((((((p0q1 + 1)) + 1)) + 1)) && decide ((4 : Int) ≤ 1048576) then
  some ([.one ((.ints .i64 [(pickV p0q0 ((p0q1 + 1)) 4), (pickV p0q0 ((((p0q1 + 1)) + 1)) 4), (pickV p0q0 ((((((p0q1 + 1)) + 1)) + 1)) 4)]), true)], [[(.ints .u8 p0q0), (.int .i64 (((((((p0q1 + 1)) + 1)) + 1)) + 1))]])
  else
  none)
  else
  none)
  else
  none))))))))
  else
  none) := by kernel_rfl
end spec_someShape
theorem spec_someShape.ok_of (hX : ∀ E ∈ spec_someShape.X, CallSpec Try.prog E) (h : ∀ (bs : List Int) (p : Int), (rdOk bs p && decide ((p : Int) ≤ 2000000)) = true → ∃ fuel, runF Try.prog spec_someShape.X spec_someShape.I 0 fuel 78 Try.f78 [.box [(.ints .u8 bs), (.int .i64 p)]] = some ([.one ((.ints .i64 (sShV bs p)), true)], [[(.ints .u8 bs), (.int .i64 (sShP bs p))]])) : CallSpec Try.prog spec_someShape.E :=
  callSpec_of (d := 0) hX (by kernel_rfl) spec_someShape.I_ok (by kernel_rfl) (by kernel_rfl) (by kernel_rfl) (fun _ _ _ _ h => by dsimp only [spec_someShape.E] at h; cases h) (fun xs hp => by
    dsimp only [spec_someShape.E] at hp ⊢
    split at hp
    · exact h _ _ hp
    · cases hp)
theorem spec_someShape.ok : CallSpec Try.prog spec_someShape.E := spec_someShape.ok_of (by simp [spec_someShape.X, spec_reader_pick.ok]) fun bs p h => ⟨0, by
  simp only [Bool.and_eq_true, decide_eq_true_eq] at h
  have r0 := h.1
  have r1 := rd_le (q := p + 1) h.1 (by omega) (by omega)
  have r2 := rd_le (q := p + 1 + 1) h.1 (by omega) (by omega)
  have r3 := rd_le (q := p + 1 + 1 + 1) h.1 (by omega) (by omega)
  rw [spec_someShape.e, r0, r1, r2, r3]
  unfold sShV sShP
  cases pickV bs p 8 == 0 <;> cases pickV bs p 8 == 1 <;> cases pickV bs p 8 == 2 <;> cases pickV bs p 8 == 3 <;> cases pickV bs p 8 == 4 <;> cases pickV bs p 8 == 5 <;> cases pickV bs p 8 == 6 <;> rfl⟩

namespace spec_volume
noncomputable def E : Entry := ⟨67, true, false, fun | [.d (.ints .i64 xs)] => decide (xs.length < 9223372036854775808) | _ => false, fun | [.d (.ints .i64 xs)] => ([.one ((.int .i64 (volW xs)), false)], []) | _ => ([], []), fun _ => [], false, fun _ => none⟩
end spec_volume
namespace spec_volume
noncomputable def X : List Entry := []
noncomputable def I : List Inl := [⟨67, Try.f67, ⟨[], [(1000003, [1, 2, 5, 6, 7, 8, 9, 10, 11, 12, 13, 14, 15, 16, 17])], [], [], [], []⟩⟩]
theorem I_ok : ∀ i ∈ I, Try.prog.funcs[i.f]? = some i.fn ∧ (i.fn.name == "runtime.NumGoroutine") = false := by
  intro i hi
  simp only [I, List.mem_cons, List.not_mem_nil, or_false] at hi
  subst hi
  exact ⟨by kernel_rfl, by kernel_rfl⟩
noncomputable abbrev L0 (fuel n : Nat) (s : St) (k : Kont) := lAt Try.prog X I fuel true 0 false 67 (bodyOf Try.f67) [1, 1, 0, 1, 0] n s k
noncomputable abbrev k0  (fuel : Nat) : Kont := (kAt Try.prog X I fuel true 0 false 67 (bodyOf Try.f67) [1, 1, 0, 1, 0] [] (endK Try.prog Try.f67))
noncomputable def t0 (p0 : List Int) (x0q1 : Int) (x0q2 : Int) : St := ⟨[(.imm (.ints .i64 p0)), .dead, .dead, (.imm (.int .i64 x0q1)), (.imm (.int .i64 x0q2)), .dead, .dead, .dead, .dead, .dead, .dead, .dead, .dead, .dead, .dead, .dead, .dead, .dead], hOf [], [], []⟩
theorem e (fuel : Nat) (p0 : List Int) : runF Try.prog X I 0 fuel 67 Try.f67 [.d (.ints .i64 p0)] =
  L0 fuel fuel (t0 p0 1 0) (k0  fuel) := by kernel_rfl
theorem s0 (fuel n0 : Nat) (p0 : List Int) (x0q1 : Int) (x0q2 : Int) : L0 fuel (n0 + 1) (t0 p0 x0q1 x0q2) (k0  fuel) =
  (bif (decide ((x0q2 : Int) < ((p0.length : Nat) : Int))) then
  (idx x0q2 p0.length).bind fun j5 =>
  (p0[j5]?).bind fun v6 =>
  L0 fuel n0 (t0 p0 ((IntKind.wrap .i64 (x0q1 * v6))) ((IntKind.wrap .i64 (x0q2 + 1)))) (k0  fuel)
  else
  some ([.one ((.int .i64 x0q1), false)], [])) := by kernel_rfl
end spec_volume
theorem spec_volume.ok_of (hX : ∀ E ∈ spec_volume.X, CallSpec Try.prog E) (h : ∀ (xs : List Int), (decide (xs.length < 9223372036854775808)) = true → ∃ fuel, runF Try.prog spec_volume.X spec_volume.I 0 fuel 67 Try.f67 [.d (.ints .i64 xs)] = some ([.one ((.int .i64 (volW xs)), false)], [])) : CallSpec Try.prog spec_volume.E :=
  callSpec_of (d := 0) hX (by kernel_rfl) spec_volume.I_ok (by kernel_rfl) (by kernel_rfl) (by kernel_rfl) (fun _ _ _ _ h => by dsimp only [spec_volume.E] at h; cases h) (fun xs hp => by
    dsimp only [spec_volume.E] at hp ⊢
    split at hp
    · exact h _ hp
    · cases hp)
theorem spec_volume.loop (fuel : Nat) (xs : List Int) (hx : xs.length < 9223372036854775808) : ∀ (m n j : Nat) (a : Int), xs.length - j = m → m < n → j ≤ xs.length →
    spec_volume.L0 fuel n (spec_volume.t0 xs a (j : Int)) (spec_volume.k0 fuel) = some ([.one (.int .i64 (volFrom (xs.drop j) a), false)], []) := by
  intro m
  induction m with
  | zero =>
    intro n j a h1 h2 h3
    obtain ⟨n, rfl⟩ : ∃ n', n = n' + 1 := ⟨n - 1, by omega⟩
    have hj : ¬ j < xs.length := by omega
    rw [spec_volume.s0, dge hj, dropE hj]
    rfl
  | succ m ih =>
    intro n j a h1 h2 h3
    obtain ⟨n, rfl⟩ : ∃ n', n = n' + 1 := ⟨n - 1, by omega⟩
    have hj : j < xs.length := by omega
    rw [spec_volume.s0, dlt hj, idx_nat hj, w1 (by omega), dropS hj]
    simp only [cond_true, Option.bind_some, getS hj, volFrom]
    exact ih n (j + 1) _ (by omega) (by omega) (by omega)

theorem spec_volume.ok : CallSpec Try.prog spec_volume.E := spec_volume.ok_of (by simp [spec_volume.X]) fun xs h => by
  simp only [decide_eq_true_eq] at h
  refine ⟨xs.length + 1, ?_⟩
  rw [spec_volume.e]
  exact spec_volume.loop (xs.length + 1) xs h xs.length (xs.length + 1) 0 1 (by omega) (by omega) (by omega)

namespace spec_reader_one
noncomputable def E : Entry := ⟨45, false, false, fun | [.box [(.ints .u8 bs), (.int .i64 p)], .d (.ints .i64 xs)] => rdOk bs p && decide (0 < (xs : List Int).length) && decide ((xs : List Int).length ≤ 1048576) | _ => false, fun | [.box [(.ints .u8 bs), (.int .i64 p)], .d (.ints .i64 xs)] => ([.one ((.int .i64 (oneV bs p xs)), false)], [[(.ints .u8 bs), (.int .i64 (p + 1))]]) | _ => ([], []), fun _ => [], false, fun _ => none⟩
end spec_reader_one
namespace spec_reader_one
noncomputable def X : List Entry := [spec_reader_pick.E]
noncomputable def I : List Inl := [⟨45, Try.f45, ⟨[], [], [], [], [], []⟩⟩]
theorem I_ok : ∀ i ∈ I, Try.prog.funcs[i.f]? = some i.fn ∧ (i.fn.name == "runtime.NumGoroutine") = false := by
  intro i hi
  simp only [I, List.mem_cons, List.not_mem_nil, or_false] at hi
  subst hi
  exact ⟨by kernel_rfl, by kernel_rfl⟩
theorem e (fuel : Nat) (p0q0 : List Int) (p0q1 : Int) (p1 : List Int) : runF Try.prog X I 0 fuel 45 Try.f45 [.box [(.ints .u8 p0q0), (.int .i64 p0q1)], .d (.ints .i64 p1)] =
  (bif rdOk p0q0 p0q1 && decide (((((p1.length : Nat) : Int)) : Int) ≤ 1048576) then
  (idx (pickV p0q0 p0q1 (((p1.length : Nat) : Int))) p1.length).bind fun j1 =>
  (p1[j1]?).bind fun v2 =>
  some ([.one ((.int .i64 v2), false)], [[(.ints .u8 p0q0), (.int .i64 (p0q1 + 1))]])
  else
  none) := by kernel_rfl
end spec_reader_one
theorem spec_reader_one.ok_of (hX : ∀ E ∈ spec_reader_one.X, CallSpec Try.prog E) (h : ∀ (bs : List Int) (p : Int) (xs : List Int), (rdOk bs p && decide (0 < (xs : List Int).length) && decide ((xs : List Int).length ≤ 1048576)) = true → ∃ fuel, runF Try.prog spec_reader_one.X spec_reader_one.I 0 fuel 45 Try.f45 [.box [(.ints .u8 bs), (.int .i64 p)], .d (.ints .i64 xs)] = some ([.one ((.int .i64 (oneV bs p xs)), false)], [[(.ints .u8 bs), (.int .i64 (p + 1))]])) : CallSpec Try.prog spec_reader_one.E :=
  callSpec_of (d := 0) hX (by kernel_rfl) spec_reader_one.I_ok (by kernel_rfl) (by kernel_rfl) (by kernel_rfl) (fun _ _ _ _ h => by dsimp only [spec_reader_one.E] at h; cases h) (fun xs hp => by
    dsimp only [spec_reader_one.E] at hp ⊢
    split at hp
    · exact h _ _ _ hp
    · cases hp)
theorem spec_reader_one.ok : CallSpec Try.prog spec_reader_one.E := spec_reader_one.ok_of (by simp [spec_reader_one.X, spec_reader_pick.ok]) fun bs p xs h => ⟨0, by
  simp only [Bool.and_eq_true, decide_eq_true_eq] at h
  have hb := pick_bd (n := ((xs.length : Nat) : Int)) h.1.1 (by omega)
  have hi : idx (pickV bs p ((xs.length : Nat) : Int)) xs.length = some (pickV bs p ((xs.length : Nat) : Int)).toNat := by unfold idx; rw [if_pos hb]
  have g : (pickV bs p ((xs.length : Nat) : Int)).toNat < xs.length := by omega
  rw [spec_reader_one.e, h.1.1, decide_eq_true (p := (((xs.length : Nat) : Int) ≤ 1048576)) (by omega), hi]
  unfold oneV
  simp [g]⟩

namespace spec_someNum
noncomputable def E : Entry := ⟨82, false, false, fun | [.box [(.ints .u8 bs), (.int .i64 p)]] => rdOk bs p | _ => false, fun | [.box [(.ints .u8 bs), (.int .i64 p)]] => ([.one ((.int .i64 (oneV bs p someL)), false)], [[(.ints .u8 bs), (.int .i64 (p + 1))]]) | _ => ([], []), fun _ => [], false, fun _ => none⟩
end spec_someNum
namespace spec_someNum
noncomputable def X : List Entry := [spec_reader_one.E]
noncomputable def I : List Inl := [⟨82, Try.f82, ⟨[], [], [], [], [4], []⟩⟩]
theorem I_ok : ∀ i ∈ I, Try.prog.funcs[i.f]? = some i.fn ∧ (i.fn.name == "runtime.NumGoroutine") = false := by
  intro i hi
  simp only [I, List.mem_cons, List.not_mem_nil, or_false] at hi
  subst hi
  exact ⟨by kernel_rfl, by kernel_rfl⟩
theorem e (fuel : Nat) (p0q0 : List Int) (p0q1 : Int) : runF Try.prog X I 0 fuel 82 Try.f82 [.box [(.ints .u8 p0q0), (.int .i64 p0q1)]] =
  (bif rdOk p0q0 p0q1 && decide (0 < ((([0, 1, 2, 3, (-1), 5, 7, (-4), 1000000, (-1000000), 10, 1] : List Int)) : List Int).length) && decide (((([0, 1, 2, 3, (-1), 5, 7, (-4), 1000000, (-1000000), 10, 1] : List Int)) : List Int).length ≤ 1048576) then
  some ([.one ((.int .i64 (oneV p0q0 p0q1 (([0, 1, 2, 3, (-1), 5, 7, (-4), 1000000, (-1000000), 10, 1] : List Int)))), false)], [[(.ints .u8 p0q0), (.int .i64 (p0q1 + 1))]])
  else
  none) := by kernel_rfl
end spec_someNum
theorem spec_someNum.ok_of (hX : ∀ E ∈ spec_someNum.X, CallSpec Try.prog E) (h : ∀ (bs : List Int) (p : Int), (rdOk bs p) = true → ∃ fuel, runF Try.prog spec_someNum.X spec_someNum.I 0 fuel 82 Try.f82 [.box [(.ints .u8 bs), (.int .i64 p)]] = some ([.one ((.int .i64 (oneV bs p someL)), false)], [[(.ints .u8 bs), (.int .i64 (p + 1))]])) : CallSpec Try.prog spec_someNum.E :=
  callSpec_of (d := 0) hX (by kernel_rfl) spec_someNum.I_ok (by kernel_rfl) (by kernel_rfl) (by kernel_rfl) (fun _ _ _ _ h => by dsimp only [spec_someNum.E] at h; cases h) (fun xs hp => by
    dsimp only [spec_someNum.E] at hp ⊢
    split at hp
    · exact h _ _ hp
    · cases hp)
theorem spec_someNum.ok : CallSpec Try.prog spec_someNum.E := spec_someNum.ok_of (by simp [spec_someNum.X, spec_reader_one.ok]) fun bs p h => ⟨0, by
  rw [spec_someNum.e, h]
  rfl⟩

namespace spec_copyInts
noncomputable def E : Entry := ⟨40, false, false, fun | [.d (.ints .i64 xs)] => szB xs | _ => false, fun | [.d (.ints .i64 xs)] => ([.one ((.ints .i64 xs), true)], []) | _ => ([], []), fun _ => [], true, fun _ => none⟩
end spec_copyInts
namespace spec_copyInts
noncomputable def X : List Entry := []
noncomputable def I : List Inl := [⟨40, Try.f40, ⟨[], [], [], [], [], []⟩⟩]
theorem I_ok : ∀ i ∈ I, Try.prog.funcs[i.f]? = some i.fn ∧ (i.fn.name == "runtime.NumGoroutine") = false := by
  intro i hi
  simp only [I, List.mem_cons, List.not_mem_nil, or_false] at hi
  subst hi
  exact ⟨by kernel_rfl, by kernel_rfl⟩
theorem e (fuel : Nat) (p0 : List Int) : runF Try.prog X I 0 fuel 40 Try.f40 [.d (.ints .i64 p0)] =
  (bif fits (([] : List Int).length + p0.length) 8 then
  some ([.one ((.ints .i64 (([] : List Int) ++ p0)), true)], [])
  else
  none) := by kernel_rfl
end spec_copyInts
theorem spec_copyInts.ok_of (hX : ∀ E ∈ spec_copyInts.X, CallSpec Try.prog E) (h : ∀ (xs : List Int), (szB xs) = true → ∃ fuel, runF Try.prog spec_copyInts.X spec_copyInts.I 0 fuel 40 Try.f40 [.d (.ints .i64 xs)] = some ([.one ((.ints .i64 xs), true)], [])) : CallSpec Try.prog spec_copyInts.E :=
  callSpec_of (d := 0) hX (by kernel_rfl) spec_copyInts.I_ok (by kernel_rfl) (by kernel_rfl) (by kernel_rfl) (fun _ _ _ _ h => by dsimp only [spec_copyInts.E] at h; cases h) (fun xs hp => by
    dsimp only [spec_copyInts.E] at hp ⊢
    split at hp
    · exact h _ hp
    · cases hp)
theorem spec_copyInts.ok : CallSpec Try.prog spec_copyInts.E := spec_copyInts.ok_of (by simp [spec_copyInts.X]) fun xs h => ⟨0, by
  have hx := szB_le h
  rw [spec_copyInts.e, fitsOk (by simp; omega)]
  rfl⟩

namespace spec_make1
noncomputable def E : Entry := ⟨60, false, false, fun | [.d (.ints .i64 sh), .d (.ints .i64 da)] => szB sh && szB da | _ => false, fun | [.d (.ints .i64 sh), .d (.ints .i64 da)] => ([.agg [((.ints .i64 sh), true), ((.ints .i64 da), true)]], []) | _ => ([], []), fun _ => [], true, fun _ => none⟩
end spec_make1
namespace spec_make1
noncomputable def X : List Entry := [spec_copyInts.E]
noncomputable def I : List Inl := [⟨60, Try.f60, ⟨[6, 8], [], [], [], [], []⟩⟩]
theorem I_ok : ∀ i ∈ I, Try.prog.funcs[i.f]? = some i.fn ∧ (i.fn.name == "runtime.NumGoroutine") = false := by
  intro i hi
  simp only [I, List.mem_cons, List.not_mem_nil, or_false] at hi
  subst hi
  exact ⟨by kernel_rfl, by kernel_rfl⟩
theorem e (fuel : Nat) (p0 : List Int) (p1 : List Int) : runF Try.prog X I 0 fuel 60 Try.f60 [.d (.ints .i64 p0), .d (.ints .i64 p1)] =
  (bif szB p0 then
  (bif szB p1 then
  some ([.agg [((.ints .i64 p0), true), ((.ints .i64 p1), true)]], [])
  else
  none)
  else
  none) := by kernel_rfl
end spec_make1
theorem spec_make1.ok_of (hX : ∀ E ∈ spec_make1.X, CallSpec Try.prog E) (h : ∀ (sh : List Int) (da : List Int), (szB sh && szB da) = true → ∃ fuel, runF Try.prog spec_make1.X spec_make1.I 0 fuel 60 Try.f60 [.d (.ints .i64 sh), .d (.ints .i64 da)] = some ([.agg [((.ints .i64 sh), true), ((.ints .i64 da), true)]], [])) : CallSpec Try.prog spec_make1.E :=
  callSpec_of (d := 0) hX (by kernel_rfl) spec_make1.I_ok (by kernel_rfl) (by kernel_rfl) (by kernel_rfl) (fun _ _ _ _ h => by dsimp only [spec_make1.E] at h; cases h) (fun xs hp => by
    dsimp only [spec_make1.E] at hp ⊢
    split at hp
    · exact h _ _ hp
    · cases hp)
theorem spec_make1.ok : CallSpec Try.prog spec_make1.E := spec_make1.ok_of (by simp [spec_make1.X, spec_copyInts.ok]) fun sh da h => ⟨0, by
  simp only [Bool.and_eq_true] at h
  rw [spec_make1.e, h.1, h.2]
  rfl⟩

namespace spec_fill
noncomputable def E : Entry := ⟨77, false, false, fun | [.box [(.ints .u8 bs), (.int .i64 p)], .d (.ints .i64 sh)] => rdOk bs p && decide ((p : Int) ≤ 2000000) && validS sh | _ => false, fun | [.box [(.ints .u8 bs), (.int .i64 p)], .d (.ints .i64 sh)] => ([.agg [((.ints .i64 sh), true), ((.ints .i64 (fillV bs p sh)), true)]], [[(.ints .u8 bs), (.int .i64 (p + volW sh))]]) | _ => ([], []), fun _ => [], false, fun _ => none⟩
end spec_fill
namespace spec_fill
noncomputable def X : List Entry := [spec_volume.E, spec_someNum.E, spec_make1.E]
noncomputable def I : List Inl := [⟨77, Try.f77, ⟨[21], [(1000003, [2, 3, 7, 8, 9, 10, 11, 12, 13, 14, 15, 16, 17, 18, 19, 20, 21])], [], [], [], []⟩⟩]
theorem I_ok : ∀ i ∈ I, Try.prog.funcs[i.f]? = some i.fn ∧ (i.fn.name == "runtime.NumGoroutine") = false := by
  intro i hi
  simp only [I, List.mem_cons, List.not_mem_nil, or_false] at hi
  subst hi
  exact ⟨by kernel_rfl, by kernel_rfl⟩
noncomputable abbrev L0 (fuel n : Nat) (s : St) (k : Kont) := lAt Try.prog X I fuel false 0 false 77 (bodyOf Try.f77) [1, 1, 0, 1, 0] n s k
noncomputable abbrev k0  (fuel : Nat) : Kont := (kAt Try.prog X I fuel false 0 false 77 (bodyOf Try.f77) [1, 1, 0, 1, 0] [] (endK Try.prog Try.f77))
noncomputable def t0 (p1 : List Int) (p0q0 : List Int) (x0q1 : Int) (x0q3 : Int) (x0q4 : List Int) : St := ⟨[(.ptr 1000000000 0 0), (.imm (.ints .i64 p1)), .dead, .dead, (.ptr 1000000001 0 0), (.all 1000000002 1), (.imm (.int .i64 x0q1)), .dead, .dead, .dead, .dead, .dead, .dead, .dead, .dead, .dead, .dead, .dead, .dead, .dead, .dead, .dead], hOf [(1000000000, (.box [(.imm (.ints .u8 p0q0)), (.imm (.int .i64 x0q3))])), (1000000001, (.box [(.imm .nils), (.imm .nils)])), (1000000002, (.ints .i64 x0q4))], [(.ptr 1000000000 0 0)], []⟩
theorem e (fuel : Nat) (p0q0 : List Int) (p0q1 : Int) (p1 : List Int) : runF Try.prog X I 0 fuel 77 Try.f77 [.box [(.ints .u8 p0q0), (.int .i64 p0q1)], .d (.ints .i64 p1)] =
  L0 fuel fuel (t0 p1 p0q0 0 p0q1 ([])) (k0  fuel) := by kernel_rfl
theorem s0 (fuel n0 : Nat) (p1 : List Int) (p0q0 : List Int) (x0q1 : Int) (x0q3 : Int) (x0q4 : List Int) : L0 fuel (n0 + 1) (t0 p1 p0q0 x0q1 x0q3 x0q4) (k0  fuel) =
  (bif decide (p1.length < 9223372036854775808) then
  (bif (decide ((x0q1 : Int) < (volW p1))) then
  (bif rdOk p0q0 x0q3 then
  (bif fits (x0q4.length + ([(oneV p0q0 x0q3 someL)] : List Int).length) 8 then
  L0 fuel n0 (t0 p1 p0q0 ((IntKind.wrap .i64 (x0q1 + 1))) ((x0q3 + 1)) ((x0q4 ++ [(oneV p0q0 x0q3 someL)]))) (k0  fuel)
  else
  none)
  else
  none)
  else
  (bif szB p1 && szB x0q4 then
  some ([.agg [((.ints .i64 p1), true), ((.ints .i64 x0q4), true)]], [[(.ints .u8 p0q0), (.int .i64 x0q3)]])
  else
  none))
  else
  none) := by kernel_rfl
end spec_fill
theorem spec_fill.ok_of (hX : ∀ E ∈ spec_fill.X, CallSpec Try.prog E) (h : ∀ (bs : List Int) (p : Int) (sh : List Int), (rdOk bs p && decide ((p : Int) ≤ 2000000) && validS sh) = true → ∃ fuel, runF Try.prog spec_fill.X spec_fill.I 0 fuel 77 Try.f77 [.box [(.ints .u8 bs), (.int .i64 p)], .d (.ints .i64 sh)] = some ([.agg [((.ints .i64 sh), true), ((.ints .i64 (fillV bs p sh)), true)]], [[(.ints .u8 bs), (.int .i64 (p + volW sh))]])) : CallSpec Try.prog spec_fill.E :=
  callSpec_of (d := 0) hX (by kernel_rfl) spec_fill.I_ok (by kernel_rfl) (by kernel_rfl) (by kernel_rfl) (fun _ _ _ _ h => by dsimp only [spec_fill.E] at h; cases h) (fun xs hp => by
    dsimp only [spec_fill.E] at hp ⊢
    split at hp
    · exact h _ _ _ hp
    · cases hp)
theorem spec_fill.loop (fuel : Nat) (bs : List Int) (p : Int) (sh : List Int) (h : rdOk bs p = true) (hp : p ≤ 2000000) (hv : validS sh = true) : ∀ (m n j : Nat) (out : List Int), (volW sh).toNat - j = m → m < n → j ≤ (volW sh).toNat → out = tab j (fun i => oneV bs (p + ((i : Nat) : Int)) someL) →
    spec_fill.L0 fuel n (spec_fill.t0 sh bs (j : Int) (p + (j : Int)) out) (spec_fill.k0 fuel) = some ([.agg [(.ints .i64 sh, true), (.ints .i64 (fillV bs p sh), true)]], [[(.ints .u8 bs), (.int .i64 (p + volW sh))]]) := by
  have hl := (validS_inv hv).1
  have hb := vol_bd hv
  intro m
  induction m with
  | zero =>
    intro n j out h1 h2 h3 h4
    obtain ⟨n, rfl⟩ : ∃ n', n = n' + 1 := ⟨n - 1, by omega⟩
    have ho : out.length = j := by rw [h4, tab_length]
    rw [spec_fill.s0, decide_eq_true (p := sh.length < 9223372036854775808) (by omega), decide_eq_false (p := (j : Int) < volW sh) (by omega), szB_of (xs := sh) (by omega), szB_of (xs := out) (by omega), h4, show p + (j : Int) = p + volW sh by omega, show j = (volW sh).toNat by omega]
    rfl
  | succ m ih =>
    intro n j out h1 h2 h3 h4
    obtain ⟨n, rfl⟩ : ∃ n', n = n' + 1 := ⟨n - 1, by omega⟩
    have ho : out.length = j := by rw [h4, tab_length]
    rw [spec_fill.s0, decide_eq_true (p := sh.length < 9223372036854775808) (by omega), decide_eq_true (p := (j : Int) < volW sh) (by omega), rd_le (q := p + (j : Int)) h (by omega) (by omega), fitsOk (by simp; omega), w1 (by omega), show p + (j : Int) + 1 = p + ((j + 1 : Nat) : Int) by omega]
    exact ih n (j + 1) _ (by omega) (by omega) (by omega) (by rw [tab_succ, h4])
theorem spec_fill.ok : CallSpec Try.prog spec_fill.E := spec_fill.ok_of (by simp [spec_fill.X, spec_volume.ok, spec_someNum.ok, spec_make1.ok]) fun bs p sh h => by
  simp only [Bool.and_eq_true, decide_eq_true_eq] at h
  have hb := vol_bd h.2
  obtain ⟨F, hF⟩ : ∃ F : Nat, 60 < F := ⟨61, by omega⟩
  refine ⟨F, ?_⟩
  have := spec_fill.loop F bs p sh h.1.1 h.1.2 h.2 _ F 0 [] rfl (by omega) (by omega) rfl
  rw [spec_fill.e]
  rw [show p + ((0 : Nat) : Int) = p by omega] at this
  exact this

namespace spec_someArray
noncomputable def E : Entry := ⟨58, false, false, fun | [.box [(.ints .u8 bs), (.int .i64 p)]] => rdOk bs p && decide ((p : Int) ≤ 1000000) | _ => false, fun | [.box [(.ints .u8 bs), (.int .i64 p)]] => ([.agg [((.ints .i64 (sShV bs p)), true), ((.ints .i64 (sDaV bs p)), true)]], [[(.ints .u8 bs), (.int .i64 (sDaP bs p))]]) | _ => ([], []), fun _ => [], false, fun _ => none⟩
end spec_someArray
namespace spec_someArray
noncomputable def X : List Entry := [spec_someShape.E, spec_fill.E]
noncomputable def I : List Inl := [⟨58, Try.f58, ⟨[6], [], [], [], [], []⟩⟩]
theorem I_ok : ∀ i ∈ I, Try.prog.funcs[i.f]? = some i.fn ∧ (i.fn.name == "runtime.NumGoroutine") = false := by
  intro i hi
  simp only [I, List.mem_cons, List.not_mem_nil, or_false] at hi
  subst hi
  exact ⟨by kernel_rfl, by kernel_rfl⟩
theorem e (fuel : Nat) (p0q0 : List Int) (p0q1 : Int) : runF Try.prog X I 0 fuel 58 Try.f58 [.box [(.ints .u8 p0q0), (.int .i64 p0q1)]] =
  (bif rdOk p0q0 p0q1 && decide ((p0q1 : Int) ≤ 2000000) then
  (bif rdOk p0q0 ((sShP p0q0 p0q1)) && decide ((((sShP p0q0 p0q1)) : Int) ≤ 2000000) && validS ((sShV p0q0 p0q1)) then
  some ([.agg [((.ints .i64 ((sShV p0q0 p0q1))), true), ((.ints .i64 (fillV p0q0 ((sShP p0q0 p0q1)) ((sShV p0q0 p0q1)))), true)]], [[(.ints .u8 p0q0), (.int .i64 (((sShP p0q0 p0q1)) + volW ((sShV p0q0 p0q1))))]])
  else
  none)
  else
  none) := by kernel_rfl
end spec_someArray
theorem spec_someArray.ok_of (hX : ∀ E ∈ spec_someArray.X, CallSpec Try.prog E) (h : ∀ (bs : List Int) (p : Int), (rdOk bs p && decide ((p : Int) ≤ 1000000)) = true → ∃ fuel, runF Try.prog spec_someArray.X spec_someArray.I 0 fuel 58 Try.f58 [.box [(.ints .u8 bs), (.int .i64 p)]] = some ([.agg [((.ints .i64 (sShV bs p)), true), ((.ints .i64 (sDaV bs p)), true)]], [[(.ints .u8 bs), (.int .i64 (sDaP bs p))]])) : CallSpec Try.prog spec_someArray.E :=
  callSpec_of (d := 0) hX (by kernel_rfl) spec_someArray.I_ok (by kernel_rfl) (by kernel_rfl) (by kernel_rfl) (fun _ _ _ _ h => by dsimp only [spec_someArray.E] at h; cases h) (fun xs hp => by
    dsimp only [spec_someArray.E] at hp ⊢
    split at hp
    · exact h _ _ hp
    · cases hp)
theorem spec_someArray.ok : CallSpec Try.prog spec_someArray.E := spec_someArray.ok_of (by simp [spec_someArray.X, spec_someShape.ok, spec_fill.ok]) fun bs p h => ⟨0, by
  simp only [Bool.and_eq_true, decide_eq_true_eq] at h
  have b := sShP_bd bs p
  have hs := sShV_ok h.1 (by omega)
  rw [spec_someArray.e, h.1, rd_le (q := sShP bs p) h.1 (by omega) (by omega), decide_eq_true (p := p ≤ 2000000) (by omega), decide_eq_true (p := sShP bs p ≤ 2000000) (by omega), hs]
  rfl⟩

namespace spec_anyShape
noncomputable def E : Entry := ⟨64, false, false, fun | [.box [(.ints .u8 bs), (.int .i64 p)]] => rdOk bs p && decide ((p : Int) ≤ 2000000) | _ => false, fun | [.box [(.ints .u8 bs), (.int .i64 p)]] => ([.one ((.ints .i64 (aShV bs p)), true)], [[(.ints .u8 bs), (.int .i64 (sShP bs p + 1))]]) | _ => ([], []), fun _ => [], false, fun _ => none⟩
end spec_anyShape
namespace spec_anyShape
noncomputable def X : List Entry := [spec_someShape.E, spec_reader_pick.E]
noncomputable def I : List Inl := [⟨64, Try.f64, ⟨[5], [], [], [], [], []⟩⟩]
theorem I_ok : ∀ i ∈ I, Try.prog.funcs[i.f]? = some i.fn ∧ (i.fn.name == "runtime.NumGoroutine") = false := by
  intro i hi
  simp only [I, List.mem_cons, List.not_mem_nil, or_false] at hi
  subst hi
  exact ⟨by kernel_rfl, by kernel_rfl⟩
theorem e (fuel : Nat) (p0q0 : List Int) (p0q1 : Int) : runF Try.prog X I 0 fuel 64 Try.f64 [.box [(.ints .u8 p0q0), (.int .i64 p0q1)]] =
  (bif rdOk p0q0 p0q1 && decide ((p0q1 : Int) ≤ 2000000) then
  (bif rdOk p0q0 ((sShP p0q0 p0q1)) && decide ((24 : Int) ≤ 1048576) then
  (bif (((pickV p0q0 ((sShP p0q0 p0q1)) 24) : Int) == 0) then
  (bif fits ((sShV p0q0 p0q1).length + ([61] : List Int).length) 8 then
  some ([.one ((.ints .i64 ((sShV p0q0 p0q1) ++ [61])), true)], [[(.ints .u8 p0q0), (.int .i64 (((sShP p0q0 p0q1)) + 1))]])
  else
  none)
  else
  (bif (((pickV p0q0 ((sShP p0q0 p0q1)) 24) : Int) == 1) then
  some ([.one ((.ints .i64 [4, 4, 4]), true)], [[(.ints .u8 p0q0), (.int .i64 (((sShP p0q0 p0q1)) + 1))]])
  else
  (bif (((pickV p0q0 ((sShP p0q0 p0q1)) 24) : Int) == 2) then
  some ([.one ((.ints .i64 [1, 1, 1, 1]), true)], [[(.ints .u8 p0q0), (.int .i64 (((sShP p0q0 p0q1)) + 1))]])
  else
  (bif (((pickV p0q0 ((sShP p0q0 p0q1)) 24) : Int) == 3) then
  (bif fits ((sShV p0q0 p0q1).length + ([(-1)] : List Int).length) 8 then
  some ([.one ((.ints .i64 ((sShV p0q0 p0q1) ++ [(-1)])), true)], [[(.ints .u8 p0q0), (.int .i64 (((sShP p0q0 p0q1)) + 1))]])
  else
  none)
  else
  some ([.one ((.ints .i64 (sShV p0q0 p0q1)), true)], [[(.ints .u8 p0q0), (.int .i64 (((sShP p0q0 p0q1)) + 1))]])))))
  else
  none)
  else
  none) := by kernel_rfl
end spec_anyShape
theorem spec_anyShape.ok_of (hX : ∀ E ∈ spec_anyShape.X, CallSpec Try.prog E) (h : ∀ (bs : List Int) (p : Int), (rdOk bs p && decide ((p : Int) ≤ 2000000)) = true → ∃ fuel, runF Try.prog spec_anyShape.X spec_anyShape.I 0 fuel 64 Try.f64 [.box [(.ints .u8 bs), (.int .i64 p)]] = some ([.one ((.ints .i64 (aShV bs p)), true)], [[(.ints .u8 bs), (.int .i64 (sShP bs p + 1))]])) : CallSpec Try.prog spec_anyShape.E :=
  callSpec_of (d := 0) hX (by kernel_rfl) spec_anyShape.I_ok (by kernel_rfl) (by kernel_rfl) (by kernel_rfl) (fun _ _ _ _ h => by dsimp only [spec_anyShape.E] at h; cases h) (fun xs hp => by
    dsimp only [spec_anyShape.E] at hp ⊢
    split at hp
    · exact h _ _ hp
    · cases hp)
theorem spec_anyShape.ok : CallSpec Try.prog spec_anyShape.E := spec_anyShape.ok_of (by simp [spec_anyShape.X, spec_someShape.ok, spec_reader_pick.ok]) fun bs p h => ⟨0, by
  have h' := h
  simp only [Bool.and_eq_true, decide_eq_true_eq] at h'
  have b := sShP_bd bs p
  have r1 := rd_le (q := sShP bs p) h'.1 (by omega) (by omega)
  have l := (validS_inv (sShV_ok h'.1 h'.2)).1
  rw [spec_anyShape.e, h, r1, fitsOk (by simp; omega), fitsOk (by simp; omega)]
  unfold aShV
  cases pickV bs (sShP bs p) 24 == 0 <;> cases pickV bs (sShP bs p) 24 == 1 <;> cases pickV bs (sShP bs p) 24 == 2 <;> cases pickV bs (sShP bs p) 24 == 3 <;> rfl⟩

namespace spec_reader_spoil
noncomputable def E : Entry := ⟨36, false, false, fun | [.box [(.ints .u8 bs), (.int .i64 p)], .d (.ints .i64 xs), .d (.int .i64 n)] => rdOk bs p && decide ((p : Int) ≤ 2000000) && decide ((xs : List Int).length ≤ 1000000) | _ => false, fun | [.box [(.ints .u8 bs), (.int .i64 p)], .d (.ints .i64 xs), .d (.int .i64 n)] => ([.one ((.ints .i64 (spV bs p xs n)), false)], [[(.ints .u8 bs), (.int .i64 (spP bs p xs))]]) | _ => ([], []), fun _ => [], false, fun _ => none⟩
end spec_reader_spoil
namespace spec_reader_spoil
noncomputable def X : List Entry := [spec_copyInts.E, spec_reader_pick.E, spec_reader_one.E]
noncomputable def I : List Inl := [⟨36, Try.f36, ⟨[9], [], [(7, [7]), (11, [7])], [], [37], []⟩⟩]
theorem I_ok : ∀ i ∈ I, Try.prog.funcs[i.f]? = some i.fn ∧ (i.fn.name == "runtime.NumGoroutine") = false := by
  intro i hi
  simp only [I, List.mem_cons, List.not_mem_nil, or_false] at hi
  subst hi
  exact ⟨by kernel_rfl, by kernel_rfl⟩
theorem e (fuel : Nat) (p0q0 : List Int) (p0q1 : Int) (p1 : List Int) (p2 : Int) : runF Try.prog X I 0 fuel 36 Try.f36 [.box [(.ints .u8 p0q0), (.int .i64 p0q1)], .d (.ints .i64 p1), .d (.int .i64 p2)] =
  (bif szB p1 then
  (bif rdOk p0q0 p0q1 && decide ((20 : Int) ≤ 1048576) then
  (bif (((pickV p0q0 p0q1 20) : Int) == 0) then
  (bif fits (p1.length + ([p2] : List Int).length) 8 then
  some ([.one ((.ints .i64 (p1 ++ [p2])), false)], [[(.ints .u8 p0q0), (.int .i64 (p0q1 + 1))]])
  else
  none)
  else
  (bif (((pickV p0q0 p0q1 20) : Int) == 1) then
  (bif (decide ((((p1.length : Nat) : Int) : Int) > 0)) then
  (cutEnds p1.length (some (.imm (.int .i64 1))) (none)).bind fun cq1 =>
  some ([.one ((.ints .i64 ((p1.drop cq1.1).take (cq1.2 - cq1.1))), false)], [[(.ints .u8 p0q0), (.int .i64 (p0q1 + 1))]])
  else
  some ([.one ((.ints .i64 p1), false)], [[(.ints .u8 p0q0), (.int .i64 (p0q1 + 1))]]))
  else
  (bif (((pickV p0q0 p0q1 20) : Int) == 2) then
  (bif (decide ((((p1.length : Nat) : Int) : Int) > 0)) then
  (bif rdOk p0q0 ((p0q1 + 1)) && decide (((((p1.length : Nat) : Int)) : Int) ≤ 1048576) then
  (bif rdOk p0q0 ((((p0q1 + 1)) + 1)) && decide (0 < ((([(-1), p2, 0, 1] : List Int)) : List Int).length) && decide (((([(-1), p2, 0, 1] : List Int)) : List Int).length ≤ 1048576) then
  (idx (pickV p0q0 ((p0q1 + 1)) (((p1.length : Nat) : Int))) p1.length).bind fun j2 =>
  (bif decide (j2 < p1.length) then
  some ([.one ((.ints .i64 (p1.set j2 (oneV p0q0 ((((p0q1 + 1)) + 1)) (([(-1), p2, 0, 1] : List Int))))), false)], [[(.ints .u8 p0q0), (.int .i64 (((((p0q1 + 1)) + 1)) + 1))]])
  else
  none)
  else
  none)
  else
  none)
  else
  some ([.one ((.ints .i64 p1), false)], [[(.ints .u8 p0q0), (.int .i64 (p0q1 + 1))]]))
  else
  some ([.one ((.ints .i64 p1), false)], [[(.ints .u8 p0q0), (.int .i64 (p0q1 + 1))]]))))
  else
  none)
  else
  none) := by kernel_rfl
end spec_reader_spoil
theorem spec_reader_spoil.ok_of (hX : ∀ E ∈ spec_reader_spoil.X, CallSpec Try.prog E) (h : ∀ (bs : List Int) (p : Int) (xs : List Int) (n : Int), (rdOk bs p && decide ((p : Int) ≤ 2000000) && decide ((xs : List Int).length ≤ 1000000)) = true → ∃ fuel, runF Try.prog spec_reader_spoil.X spec_reader_spoil.I 0 fuel 36 Try.f36 [.box [(.ints .u8 bs), (.int .i64 p)], .d (.ints .i64 xs), .d (.int .i64 n)] = some ([.one ((.ints .i64 (spV bs p xs n)), false)], [[(.ints .u8 bs), (.int .i64 (spP bs p xs))]])) : CallSpec Try.prog spec_reader_spoil.E :=
  callSpec_of (d := 0) hX (by kernel_rfl) spec_reader_spoil.I_ok (by kernel_rfl) (by kernel_rfl) (by kernel_rfl) (fun _ _ _ _ h => by dsimp only [spec_reader_spoil.E] at h; cases h) (fun xs hp => by
    dsimp only [spec_reader_spoil.E] at hp ⊢
    split at hp
    · exact h _ _ _ _ hp
    · cases hp)
theorem spec_reader_spoil.ok : CallSpec Try.prog spec_reader_spoil.E := spec_reader_spoil.ok_of (by simp [spec_reader_spoil.X, spec_copyInts.ok, spec_reader_pick.ok, spec_reader_one.ok]) fun bs p xs n h => ⟨0, by
  simp only [Bool.and_eq_true, decide_eq_true_eq] at h
  obtain ⟨⟨h1, h2⟩, h3⟩ := h
  have r1 := rd_le (q := p + 1) h1 (by omega) (by omega)
  have r2 := rd_le (q := p + 1 + 1) h1 (by omega) (by omega)
  rw [spec_reader_spoil.e, szB_of (by omega), h1]
  unfold spV spP
  simp only [Bool.true_and, cond_true]
  rw [decide_eq_true (p := (20 : Int) ≤ 1048576) (by omega), cond_true]
  cases pickV bs p 20 == 0 with
  | true => rw [fitsOk (by simp only [List.length_cons, List.length_nil]; omega)]; rfl
  | false =>
    cases pickV bs p 20 == 1 with
    | true =>
      simp only [cond_true, cond_false]
      by_cases h0 : xs.length = 0
      · have e := List.length_eq_zero_iff.mp h0
        subst e
        rfl
      · rw [decide_eq_true (p := ((xs.length : Nat) : Int) > 0) (by omega), cond_true, cut_one (by omega)]
        simp only [Option.bind_some]
        rw [drop_take]
    | false =>
      cases pickV bs p 20 == 2 with
      | false => rfl
      | true =>
        simp only [cond_true, cond_false]
        by_cases h0 : xs.length = 0
        · have e := List.length_eq_zero_iff.mp h0
          subst e
          rfl
        · have pb := pick_bd (n := ((xs.length : Nat) : Int)) r1 (by omega)
          have hi : idx (pickV bs (p + 1) ((xs.length : Nat) : Int)) xs.length = some (pickV bs (p + 1) ((xs.length : Nat) : Int)).toNat := by
            simp only [idx]
            rw [if_pos (by omega)]
          rw [decide_eq_true (p := ((xs.length : Nat) : Int) > 0) (by omega), cond_true, r1, r2, decide_eq_true (p := ((xs.length : Nat) : Int) ≤ 1048576) (by omega), hi, decide_eq_true (p := 0 < xs.length) (by omega)]
          simp only [Bool.true_and, cond_true, Option.bind_some]
          rw [decide_eq_true (p := (pickV bs (p + 1) ((xs.length : Nat) : Int)).toNat < xs.length) (by omega)]
          rfl⟩

namespace spec_anyArray
noncomputable def E : Entry := ⟨32, false, false, fun | [.box [(.ints .u8 bs), (.int .i64 p)]] => rdOk bs p && decide ((p : Int) ≤ 1000000) | _ => false, fun | [.box [(.ints .u8 bs), (.int .i64 p)]] => ([.agg [((.ints .i64 (aArS bs p)), false), ((.ints .i64 (aArD bs p)), false)]], [[(.ints .u8 bs), (.int .i64 (aArP bs p))]]) | _ => ([], []), fun _ => [], false, fun _ => none⟩
end spec_anyArray
namespace spec_anyArray
noncomputable def X : List Entry := [spec_someArray.E, spec_reader_pick.E, spec_anyShape.E, spec_reader_spoil.E]
noncomputable def I : List Inl := [⟨32, Try.f32, ⟨[5, 11, 20], [], [(7, [3, 3]), (3000020, [19])], [], [], [20]⟩⟩]
theorem I_ok : ∀ i ∈ I, Try.prog.funcs[i.f]? = some i.fn ∧ (i.fn.name == "runtime.NumGoroutine") = false := by
  intro i hi
  simp only [I, List.mem_cons, List.not_mem_nil, or_false] at hi
  subst hi
  exact ⟨by kernel_rfl, by kernel_rfl⟩
theorem e (fuel : Nat) (p0q0 : List Int) (p0q1 : Int) : runF Try.prog X I 0 fuel 32 Try.f32 [.box [(.ints .u8 p0q0), (.int .i64 p0q1)]] =
  (bif rdOk p0q0 p0q1 && decide ((p0q1 : Int) ≤ 1000000) then
  (bif rdOk p0q0 ((sDaP p0q0 p0q1)) && decide ((30 : Int) ≤ 1048576) then
  (bif (((pickV p0q0 ((sDaP p0q0 p0q1)) 30) : Int) == 0) then
  (bif rdOk p0q0 ((((sDaP p0q0 p0q1)) + 1)) && decide ((((((sDaP p0q0 p0q1)) + 1)) : Int) ≤ 2000000) then
  some ([.agg [((.ints .i64 (aShV p0q0 ((((sDaP p0q0 p0q1)) + 1)))), false), ((.ints .i64 (sDaV p0q0 p0q1)), false)]], [[(.ints .u8 p0q0), (.int .i64 (sShP p0q0 ((((sDaP p0q0 p0q1)) + 1)) + 1))]])
  else
  none)
  else
  (bif (((pickV p0q0 ((sDaP p0q0 p0q1)) 30) : Int) == 1) then
  (bif fits ((sDaV p0q0 p0q1).length + ([5] : List Int).length) 8 then
  (bif rdOk p0q0 ((((sDaP p0q0 p0q1)) + 1)) && decide ((((((sDaP p0q0 p0q1)) + 1)) : Int) ≤ 2000000) && decide (((((sDaV p0q0 p0q1) ++ [5])) : List Int).length ≤ 1000000) then
  some ([.agg [((.ints .i64 (sShV p0q0 p0q1)), false), ((.ints .i64 (spV p0q0 ((((sDaP p0q0 p0q1)) + 1)) (((sDaV p0q0 p0q1) ++ [5])) 1000001)), false)]], [[(.ints .u8 p0q0), (.int .i64 (spP p0q0 ((((sDaP p0q0 p0q1)) + 1)) (((sDaV p0q0 p0q1) ++ [5]))))]])
  else
  none)
  else
  none)
  else
  some ([.agg [((.ints .i64 (sShV p0q0 p0q1)), false), ((.ints .i64 (sDaV p0q0 p0q1)), false)]], [[(.ints .u8 p0q0), (.int .i64 (((sDaP p0q0 p0q1)) + 1))]])))
  else
  none)
  else
  none) := by kernel_rfl
end spec_anyArray
theorem spec_anyArray.ok_of (hX : ∀ E ∈ spec_anyArray.X, CallSpec Try.prog E) (h : ∀ (bs : List Int) (p : Int), (rdOk bs p && decide ((p : Int) ≤ 1000000)) = true → ∃ fuel, runF Try.prog spec_anyArray.X spec_anyArray.I 0 fuel 32 Try.f32 [.box [(.ints .u8 bs), (.int .i64 p)]] = some ([.agg [((.ints .i64 (aArS bs p)), false), ((.ints .i64 (aArD bs p)), false)]], [[(.ints .u8 bs), (.int .i64 (aArP bs p))]])) : CallSpec Try.prog spec_anyArray.E :=
  callSpec_of (d := 0) hX (by kernel_rfl) spec_anyArray.I_ok (by kernel_rfl) (by kernel_rfl) (by kernel_rfl) (fun _ _ _ _ h => by dsimp only [spec_anyArray.E] at h; cases h) (fun xs hp => by
    dsimp only [spec_anyArray.E] at hp ⊢
    split at hp
    · exact h _ _ hp
    · cases hp)
theorem spec_anyArray.ok : CallSpec Try.prog spec_anyArray.E := spec_anyArray.ok_of (by simp [spec_anyArray.X, spec_someArray.ok, spec_reader_pick.ok, spec_anyShape.ok, spec_reader_spoil.ok]) fun bs p h => ⟨0, by
  simp only [Bool.and_eq_true, decide_eq_true_eq] at h
  obtain ⟨h1, h2, h3⟩ := sDa_bd h.1 (by omega)
  have r1 := rd_le (q := sDaP bs p) h.1 (by omega) (by omega)
  have r2 := rd_le (q := sDaP bs p + 1) h.1 (by omega) (by omega)
  have hz : (sDaV bs p ++ [5]).length ≤ 1000000 := by rw [List.length_append]; simp; omega
  rw [spec_anyArray.e, h.1, r1, r2, decide_eq_true (p := p ≤ 1000000) h.2, decide_eq_true (p := (30 : Int) ≤ 1048576) (by omega), decide_eq_true (p := sDaP bs p + 1 ≤ 2000000) (by omega), fitsOk (by simp only [List.length_cons, List.length_nil]; omega), decide_eq_true hz]
  unfold aArS aArD aArP
  cases pickV bs (sDaP bs p) 30 == 0 with
  | true => rfl
  | false =>
    cases pickV bs (sDaP bs p) 30 == 1 with
    | true => rfl
    | false => rfl⟩

namespace spec_anyAxis
noncomputable def E : Entry := ⟨33, false, false, fun | [.box [(.ints .u8 bs), (.int .i64 p)], .d (.agg [(.ints .i64 sh), (.ints .i64 da)])] => rdOk bs p && decide ((p : Int) ≤ 2000000) && decide ((sh : List Int).length ≤ 1000) | _ => false, fun | [.box [(.ints .u8 bs), (.int .i64 p)], .d (.agg [(.ints .i64 sh), (.ints .i64 da)])] => ([.one ((.int .i64 (aAx bs p sh)), false)], [[(.ints .u8 bs), (.int .i64 (aAxP p sh))]]) | _ => ([], []), fun _ => [], false, fun _ => none⟩
end spec_anyAxis
namespace spec_anyAxis
noncomputable def X : List Entry := [spec_reader_pick.E, spec_reader_one.E]
noncomputable def I : List Inl := [⟨33, Try.f33, ⟨[], [], [], [], [20], []⟩⟩]
theorem I_ok : ∀ i ∈ I, Try.prog.funcs[i.f]? = some i.fn ∧ (i.fn.name == "runtime.NumGoroutine") = false := by
  intro i hi
  simp only [I, List.mem_cons, List.not_mem_nil, or_false] at hi
  subst hi
  exact ⟨by kernel_rfl, by kernel_rfl⟩
theorem e (fuel : Nat) (p0q0 : List Int) (p0q1 : Int) (p1q0 : List Int) (p1q1 : List Int) : runF Try.prog X I 0 fuel 33 Try.f33 [.box [(.ints .u8 p0q0), (.int .i64 p0q1)], .d (.agg [(.ints .i64 p1q0), (.ints .i64 p1q1)])] =
  (bif (decide ((((p1q0.length : Nat) : Int) : Int) > 0)) then
  (bif rdOk p0q0 p0q1 && decide ((8 : Int) ≤ 1048576) then
  (bif (decide (((pickV p0q0 p0q1 8) : Int) > 0)) then
  (bif rdOk p0q0 ((p0q1 + 1)) && decide (((((p1q0.length : Nat) : Int)) : Int) ≤ 1048576) then
  some ([.one ((.int .i64 (pickV p0q0 ((p0q1 + 1)) (((p1q0.length : Nat) : Int)))), false)], [[(.ints .u8 p0q0), (.int .i64 (((p0q1 + 1)) + 1))]])
  else
  none)
  else
  (bif rdOk p0q0 ((p0q1 + 1)) && decide (0 < ((([0, 1, 3, (-1)] : List Int)) : List Int).length) && decide (((([0, 1, 3, (-1)] : List Int)) : List Int).length ≤ 1048576) then
  some ([.one ((.int .i64 (oneV p0q0 ((p0q1 + 1)) (([0, 1, 3, (-1)] : List Int)))), false)], [[(.ints .u8 p0q0), (.int .i64 (((p0q1 + 1)) + 1))]])
  else
  none))
  else
  none)
  else
  (bif rdOk p0q0 p0q1 && decide (0 < ((([0, 1, 3, (-1)] : List Int)) : List Int).length) && decide (((([0, 1, 3, (-1)] : List Int)) : List Int).length ≤ 1048576) then
  some ([.one ((.int .i64 (oneV p0q0 p0q1 (([0, 1, 3, (-1)] : List Int)))), false)], [[(.ints .u8 p0q0), (.int .i64 (p0q1 + 1))]])
  else
  none)) := by kernel_rfl
end spec_anyAxis
theorem spec_anyAxis.ok_of (hX : ∀ E ∈ spec_anyAxis.X, CallSpec Try.prog E) (h : ∀ (bs : List Int) (p : Int) (sh : List Int) (da : List Int), (rdOk bs p && decide ((p : Int) ≤ 2000000) && decide ((sh : List Int).length ≤ 1000)) = true → ∃ fuel, runF Try.prog spec_anyAxis.X spec_anyAxis.I 0 fuel 33 Try.f33 [.box [(.ints .u8 bs), (.int .i64 p)], .d (.agg [(.ints .i64 sh), (.ints .i64 da)])] = some ([.one ((.int .i64 (aAx bs p sh)), false)], [[(.ints .u8 bs), (.int .i64 (aAxP p sh))]])) : CallSpec Try.prog spec_anyAxis.E :=
  callSpec_of (d := 0) hX (by kernel_rfl) spec_anyAxis.I_ok (by kernel_rfl) (by kernel_rfl) (by kernel_rfl) (fun _ _ _ _ h => by dsimp only [spec_anyAxis.E] at h; cases h) (fun xs hp => by
    dsimp only [spec_anyAxis.E] at hp ⊢
    split at hp
    · exact h _ _ _ _ hp
    · cases hp)
theorem spec_anyAxis.ok : CallSpec Try.prog spec_anyAxis.E := spec_anyAxis.ok_of (by simp [spec_anyAxis.X, spec_reader_pick.ok, spec_reader_one.ok]) fun bs p sh da h => ⟨0, by
  simp only [Bool.and_eq_true, decide_eq_true_eq] at h
  obtain ⟨⟨h1, h2⟩, h3⟩ := h
  have r1 := rd_le (q := p + 1) h1 (by omega) (by omega)
  rw [spec_anyAxis.e, h1, r1, decide_eq_true (p := ((sh.length : Nat) : Int) ≤ 1048576) (by omega), decide_eq_true (p := (8 : Int) ≤ 1048576) (by omega)]
  unfold aAx aAxP
  by_cases h0 : 0 < sh.length
  · rw [decide_eq_true (p := ((sh.length : Nat) : Int) > 0) (by omega), decide_eq_true h0]
    cases decide (pickV bs p 8 > 0) <;> rfl
  · rw [decide_eq_false (p := ((sh.length : Nat) : Int) > 0) (by omega), decide_eq_false h0]
    rfl⟩

namespace spec_inRange
noncomputable def E : Entry := ⟨65, true, false, fun | [.d (.int .i64 v), .d (.int .i64 lo), .d (.int .i64 hi)] => true | _ => false, fun | [.d (.int .i64 v), .d (.int .i64 lo), .d (.int .i64 hi)] => ([.one ((.bool (decide (lo ≤ v) && decide (v ≤ hi))), false)], []) | _ => ([], []), fun _ => [], false, fun _ => none⟩
end spec_inRange
namespace spec_inRange
noncomputable def X : List Entry := []
noncomputable def I : List Inl := [⟨65, Try.f65, ⟨[], [], [], [], [], []⟩⟩]
theorem I_ok : ∀ i ∈ I, Try.prog.funcs[i.f]? = some i.fn ∧ (i.fn.name == "runtime.NumGoroutine") = false := by
  intro i hi
  simp only [I, List.mem_cons, List.not_mem_nil, or_false] at hi
  subst hi
  exact ⟨by kernel_rfl, by kernel_rfl⟩
theorem e (fuel : Nat) (p0 : Int) (p1 : Int) (p2 : Int) : runF Try.prog X I 0 fuel 65 Try.f65 [.d (.int .i64 p0), .d (.int .i64 p1), .d (.int .i64 p2)] =
  (bif (decide ((p1 : Int) ≤ p0)) then
  some ([.one ((.bool (decide ((p0 : Int) ≤ p2))), false)], [])
  else
  some ([.one ((.bool false), false)], [])) := by kernel_rfl
end spec_inRange
theorem spec_inRange.ok_of (hX : ∀ E ∈ spec_inRange.X, CallSpec Try.prog E) (h : ∀ (v : Int) (lo : Int) (hi : Int), (true) = true → ∃ fuel, runF Try.prog spec_inRange.X spec_inRange.I 0 fuel 65 Try.f65 [.d (.int .i64 v), .d (.int .i64 lo), .d (.int .i64 hi)] = some ([.one ((.bool (decide (lo ≤ v) && decide (v ≤ hi))), false)], [])) : CallSpec Try.prog spec_inRange.E :=
  callSpec_of (d := 0) hX (by kernel_rfl) spec_inRange.I_ok (by kernel_rfl) (by kernel_rfl) (by kernel_rfl) (fun _ _ _ _ h => by dsimp only [spec_inRange.E] at h; cases h) (fun xs hp => by
    dsimp only [spec_inRange.E] at hp ⊢
    split at hp
    · exact h _ _ _ hp
    · cases hp)
theorem spec_inRange.ok : CallSpec Try.prog spec_inRange.E := spec_inRange.ok_of (by simp [spec_inRange.X]) fun v lo hi _ => ⟨0, by
  rw [spec_inRange.e]
  cases decide (lo ≤ v) <;> rfl⟩

namespace spec_allIn
noncomputable def E : Entry := ⟨39, true, false, fun | [.d (.ints .i64 xs), .d (.int .i64 lo), .d (.int .i64 hi)] => decide (xs.length < 9223372036854775808) | _ => false, fun | [.d (.ints .i64 xs), .d (.int .i64 lo), .d (.int .i64 hi)] => ([.one ((.bool (allB xs lo hi)), false)], []) | _ => ([], []), fun _ => [], false, fun _ => none⟩
end spec_allIn
namespace spec_allIn
noncomputable def X : List Entry := [spec_inRange.E]
noncomputable def I : List Inl := [⟨39, Try.f39, ⟨[], [(1000002, [3, 4, 5, 6, 8, 9, 10, 11, 12, 13, 14, 15, 16, 17, 18, 19, 20, 21])], [], [], [], []⟩⟩]
theorem I_ok : ∀ i ∈ I, Try.prog.funcs[i.f]? = some i.fn ∧ (i.fn.name == "runtime.NumGoroutine") = false := by
  intro i hi
  simp only [I, List.mem_cons, List.not_mem_nil, or_false] at hi
  subst hi
  exact ⟨by kernel_rfl, by kernel_rfl⟩
noncomputable abbrev L0 (fuel n : Nat) (s : St) (k : Kont) := lAt Try.prog X I fuel true 0 false 39 (bodyOf Try.f39) [1, 0, 1, 0] n s k
noncomputable abbrev k0  (fuel : Nat) : Kont := (kAt Try.prog X I fuel true 0 false 39 (bodyOf Try.f39) [1, 0, 1, 0] [] (endK Try.prog Try.f39))
noncomputable def t0 (p0 : List Int) (p1 : Int) (p2 : Int) (x0q3 : Int) : St := ⟨[(.imm (.ints .i64 p0)), (.imm (.int .i64 p1)), (.imm (.int .i64 p2)), .dead, .dead, .dead, .dead, (.imm (.int .i64 x0q3)), .dead, .dead, .dead, .dead, .dead, .dead, .dead, .dead, .dead, .dead, .dead, .dead, .dead, .dead], hOf [], [], []⟩
theorem e (fuel : Nat) (p0 : List Int) (p1 : Int) (p2 : Int) : runF Try.prog X I 0 fuel 39 Try.f39 [.d (.ints .i64 p0), .d (.int .i64 p1), .d (.int .i64 p2)] =
  L0 fuel fuel (t0 p0 p1 p2 0) (k0  fuel) := by kernel_rfl
theorem s0 (fuel n0 : Nat) (p0 : List Int) (p1 : Int) (p2 : Int) (x0q3 : Int) : L0 fuel (n0 + 1) (t0 p0 p1 p2 x0q3) (k0  fuel) =
  (bif (decide ((x0q3 : Int) < ((p0.length : Nat) : Int))) then
  (idx x0q3 p0.length).bind fun j5 =>
  (p0[j5]?).bind fun v6 =>
  (bif (!(decide (p1 ≤ v6) && decide (v6 ≤ p2))) then
  some ([.one ((.bool false), false)], [])
  else
  L0 fuel n0 (t0 p0 p1 p2 ((IntKind.wrap .i64 (x0q3 + 1)))) (k0  fuel))
  else
  some ([.one ((.bool true), false)], [])) := by kernel_rfl
end spec_allIn
theorem spec_allIn.ok_of (hX : ∀ E ∈ spec_allIn.X, CallSpec Try.prog E) (h : ∀ (xs : List Int) (lo : Int) (hi : Int), (decide (xs.length < 9223372036854775808)) = true → ∃ fuel, runF Try.prog spec_allIn.X spec_allIn.I 0 fuel 39 Try.f39 [.d (.ints .i64 xs), .d (.int .i64 lo), .d (.int .i64 hi)] = some ([.one ((.bool (allB xs lo hi)), false)], [])) : CallSpec Try.prog spec_allIn.E :=
  callSpec_of (d := 0) hX (by kernel_rfl) spec_allIn.I_ok (by kernel_rfl) (by kernel_rfl) (by kernel_rfl) (fun _ _ _ _ h => by dsimp only [spec_allIn.E] at h; cases h) (fun xs hp => by
    dsimp only [spec_allIn.E] at hp ⊢
    split at hp
    · exact h _ _ _ hp
    · cases hp)
theorem spec_allIn.loop (fuel : Nat) (xs : List Int) (lo hi : Int) (hx : xs.length < 9223372036854775808) : ∀ (m n j : Nat), xs.length - j = m → m < n → j ≤ xs.length →
    spec_allIn.L0 fuel n (spec_allIn.t0 xs lo hi (j : Int)) (spec_allIn.k0 fuel) = some ([.one (.bool (allB (xs.drop j) lo hi), false)], []) := by
  intro m
  induction m with
  | zero =>
    intro n j h1 h2 h3
    obtain ⟨n, rfl⟩ : ∃ n', n = n' + 1 := ⟨n - 1, by omega⟩
    have hj : ¬ j < xs.length := by omega
    rw [spec_allIn.s0, dge hj, dropE hj]
    rfl
  | succ m ih =>
    intro n j h1 h2 h3
    obtain ⟨n, rfl⟩ : ∃ n', n = n' + 1 := ⟨n - 1, by omega⟩
    have hj : j < xs.length := by omega
    rw [spec_allIn.s0, dlt hj, idx_nat hj, w1 (by omega), dropS hj]
    simp only [cond_true, Option.bind_some, getS hj, allB_cons]
    rw [ih n (j + 1) (by omega) (by omega) (by omega)]
    cases decide (lo ≤ xs[j]) && decide (xs[j] ≤ hi) <;> rfl

theorem spec_allIn.ok : CallSpec Try.prog spec_allIn.E := spec_allIn.ok_of (by simp [spec_allIn.X, spec_inRange.ok]) fun xs lo hi h => by
  simp only [decide_eq_true_eq] at h
  refine ⟨xs.length + 1, ?_⟩
  rw [spec_allIn.e]
  exact spec_allIn.loop (xs.length + 1) xs lo hi h xs.length (xs.length + 1) 0 (by omega) (by omega) (by omega)

namespace spec_validShape
noncomputable def E : Entry := ⟨41, true, false, fun | [.d (.ints .i64 sh)] => decide (sh.length < 9223372036854775808) | _ => false, fun | [.d (.ints .i64 sh)] => ([.one ((.bool (validS sh)), false)], []) | _ => ([], []), fun _ => [], false, fun _ => none⟩
end spec_validShape
namespace spec_validShape
noncomputable def X : List Entry := [spec_allIn.E, spec_volume.E]
noncomputable def I : List Inl := [⟨41, Try.f41, ⟨[], [], [], [], [], []⟩⟩]
theorem I_ok : ∀ i ∈ I, Try.prog.funcs[i.f]? = some i.fn ∧ (i.fn.name == "runtime.NumGoroutine") = false := by
  intro i hi
  simp only [I, List.mem_cons, List.not_mem_nil, or_false] at hi
  subst hi
  exact ⟨by kernel_rfl, by kernel_rfl⟩
theorem e (fuel : Nat) (p0 : List Int) : runF Try.prog X I 0 fuel 41 Try.f41 [.d (.ints .i64 p0)] =
  (bif (decide ((((p0.length : Nat) : Int) : Int) ≤ 3)) then
  (bif decide (p0.length < 9223372036854775808) then
  (bif (allB p0 0 60) then
  (bif decide (p0.length < 9223372036854775808) then
  some ([.one ((.bool (decide (((volW p0) : Int) ≤ 60))), false)], [])
  else
  none)
  else
  some ([.one ((.bool false), false)], []))
  else
  none)
  else
  some ([.one ((.bool false), false)], [])) := by kernel_rfl
end spec_validShape
theorem spec_validShape.ok_of (hX : ∀ E ∈ spec_validShape.X, CallSpec Try.prog E) (h : ∀ (sh : List Int), (decide (sh.length < 9223372036854775808)) = true → ∃ fuel, runF Try.prog spec_validShape.X spec_validShape.I 0 fuel 41 Try.f41 [.d (.ints .i64 sh)] = some ([.one ((.bool (validS sh)), false)], [])) : CallSpec Try.prog spec_validShape.E :=
  callSpec_of (d := 0) hX (by kernel_rfl) spec_validShape.I_ok (by kernel_rfl) (by kernel_rfl) (by kernel_rfl) (fun _ _ _ _ h => by dsimp only [spec_validShape.E] at h; cases h) (fun xs hp => by
    dsimp only [spec_validShape.E] at hp ⊢
    split at hp
    · exact h _ hp
    · cases hp)
theorem spec_validShape.ok : CallSpec Try.prog spec_validShape.E := spec_validShape.ok_of (by simp [spec_validShape.X, spec_allIn.ok, spec_volume.ok]) fun sh h => ⟨0, by
  rw [spec_validShape.e, h]
  unfold validS
  cases decide (((sh.length : Nat) : Int) ≤ 3) <;> cases allB sh 0 60 <;> rfl⟩

namespace spec_valid
noncomputable def E : Entry := ⟨59, true, false, fun | [.d (.agg [(.ints .i64 sh), (.ints .i64 da)])] => decide (sh.length < 9223372036854775808) && decide (da.length < 9223372036854775808) | _ => false, fun | [.d (.agg [(.ints .i64 sh), (.ints .i64 da)])] => ([.one ((.bool (validA sh da)), false)], []) | _ => ([], []), fun _ => [], false, fun _ => none⟩
end spec_valid
namespace spec_valid
noncomputable def X : List Entry := [spec_validShape.E, spec_volume.E, spec_allIn.E]
noncomputable def I : List Inl := [⟨59, Try.f59, ⟨[], [], [], [(1, [0, 1, 2, 3, 4, 7, 5, 6, 8, 9, 10, 11, 12, 13, 14, 15, 16, 17])], [], []⟩⟩]
theorem I_ok : ∀ i ∈ I, Try.prog.funcs[i.f]? = some i.fn ∧ (i.fn.name == "runtime.NumGoroutine") = false := by
  intro i hi
  simp only [I, List.mem_cons, List.not_mem_nil, or_false] at hi
  subst hi
  exact ⟨by kernel_rfl, by kernel_rfl⟩
theorem e (fuel : Nat) (p0q0 : List Int) (p0q1 : List Int) : runF Try.prog X I 0 fuel 59 Try.f59 [.d (.agg [(.ints .i64 p0q0), (.ints .i64 p0q1)])] =
  (bif decide (p0q0.length < 9223372036854775808) then
  (bif (validS p0q0) then
  (bif decide (p0q0.length < 9223372036854775808) then
  (bif ((((p0q1.length : Nat) : Int) : Int) == (volW p0q0)) then
  (bif decide (p0q1.length < 9223372036854775808) then
  some ([.one ((.bool (allB p0q1 ((-1000000)) 1000000)), false)], [])
  else
  none)
  else
  some ([.one ((.bool false), false)], []))
  else
  none)
  else
  some ([.one ((.bool false), false)], []))
  else
  none) := by kernel_rfl
end spec_valid
theorem spec_valid.ok_of (hX : ∀ E ∈ spec_valid.X, CallSpec Try.prog E) (h : ∀ (sh : List Int) (da : List Int), (decide (sh.length < 9223372036854775808) && decide (da.length < 9223372036854775808)) = true → ∃ fuel, runF Try.prog spec_valid.X spec_valid.I 0 fuel 59 Try.f59 [.d (.agg [(.ints .i64 sh), (.ints .i64 da)])] = some ([.one ((.bool (validA sh da)), false)], [])) : CallSpec Try.prog spec_valid.E :=
  callSpec_of (d := 0) hX (by kernel_rfl) spec_valid.I_ok (by kernel_rfl) (by kernel_rfl) (by kernel_rfl) (fun _ _ _ _ h => by dsimp only [spec_valid.E] at h; cases h) (fun xs hp => by
    dsimp only [spec_valid.E] at hp ⊢
    split at hp
    · exact h _ _ hp
    · cases hp)
theorem spec_valid.ok : CallSpec Try.prog spec_valid.E := spec_valid.ok_of (by simp [spec_valid.X, spec_validShape.ok, spec_volume.ok, spec_allIn.ok]) fun sh da h => ⟨0, by
  simp only [Bool.and_eq_true] at h
  rw [spec_valid.e, h.1, h.2]
  unfold validA
  cases validS sh <;> cases (((da.length : Nat) : Int) == volW sh) <;> rfl⟩

namespace spec_isAxis
noncomputable def E : Entry := ⟨34, true, false, fun | [.d (.agg [(.ints .i64 sh), (.ints .i64 da)]), .d (.int .i64 k)] => decide (sh.length < 9223372036854775808) && decide (da.length < 9223372036854775808) | _ => false, fun | [.d (.agg [(.ints .i64 sh), (.ints .i64 da)]), .d (.int .i64 k)] => ([.one ((.bool (axB sh da k)), false)], []) | _ => ([], []), fun _ => [], false, fun _ => none⟩
end spec_isAxis
namespace spec_isAxis
noncomputable def X : List Entry := [spec_valid.E, spec_inRange.E]
noncomputable def I : List Inl := [⟨34, Try.f34, ⟨[], [], [], [], [], []⟩⟩]
theorem I_ok : ∀ i ∈ I, Try.prog.funcs[i.f]? = some i.fn ∧ (i.fn.name == "runtime.NumGoroutine") = false := by
  intro i hi
  simp only [I, List.mem_cons, List.not_mem_nil, or_false] at hi
  subst hi
  exact ⟨by kernel_rfl, by kernel_rfl⟩
theorem e (fuel : Nat) (p0q0 : List Int) (p0q1 : List Int) (p1 : Int) : runF Try.prog X I 0 fuel 34 Try.f34 [.d (.agg [(.ints .i64 p0q0), (.ints .i64 p0q1)]), .d (.int .i64 p1)] =
  (bif decide (p0q0.length < 9223372036854775808) && decide (p0q1.length < 9223372036854775808) then
  (bif (validA p0q0 p0q1) then
  some ([.one ((.bool (decide (0 ≤ p1) && decide (p1 ≤ ((IntKind.wrap .i64 (((p0q0.length : Nat) : Int) - 1)))))), false)], [])
  else
  some ([.one ((.bool false), false)], []))
  else
  none) := by kernel_rfl
end spec_isAxis
theorem spec_isAxis.ok_of (hX : ∀ E ∈ spec_isAxis.X, CallSpec Try.prog E) (h : ∀ (sh : List Int) (da : List Int) (k : Int), (decide (sh.length < 9223372036854775808) && decide (da.length < 9223372036854775808)) = true → ∃ fuel, runF Try.prog spec_isAxis.X spec_isAxis.I 0 fuel 34 Try.f34 [.d (.agg [(.ints .i64 sh), (.ints .i64 da)]), .d (.int .i64 k)] = some ([.one ((.bool (axB sh da k)), false)], [])) : CallSpec Try.prog spec_isAxis.E :=
  callSpec_of (d := 0) hX (by kernel_rfl) spec_isAxis.I_ok (by kernel_rfl) (by kernel_rfl) (by kernel_rfl) (fun _ _ _ _ h => by dsimp only [spec_isAxis.E] at h; cases h) (fun xs hp => by
    dsimp only [spec_isAxis.E] at hp ⊢
    split at hp
    · exact h _ _ _ hp
    · cases hp)
theorem spec_isAxis.ok : CallSpec Try.prog spec_isAxis.E := spec_isAxis.ok_of (by simp [spec_isAxis.X, spec_valid.ok, spec_inRange.ok]) fun sh da k h => ⟨0, by
  rw [spec_isAxis.e, h]
  simp only [Bool.and_eq_true, decide_eq_true_eq] at h
  unfold axB axOk
  rw [wS (by omega) (by omega)]
  cases hv : validA sh da with
  | false => rfl
  | true =>
    have : decide (k ≤ ((sh.length : Nat) : Int) - 1) = decide (k < ((sh.length : Nat) : Int)) := decide_eq_decide.2 (by omega)
    simp only [this, Bool.true_and, cond_true]⟩

namespace spec_DrawExpandAxis
noncomputable def E : Entry := ⟨9, false, false, fun | [.d (.ints .u8 bs)] => bytesB bs | _ => false, fun | [.d (.ints .u8 bs)] => ([.agg [((.ints .i64 (aArS (cutC bs) 0)), false), ((.ints .i64 (aArD (cutC bs) 0)), false)], .one ((.int .i64 (dAx (cutC bs))), false), .one ((.ints .i64 (deT (cutC bs))), false)], []) | _ => ([], []), fun _ => [], true, fun _ => none⟩
end spec_DrawExpandAxis
namespace spec_DrawExpandAxis
noncomputable def X : List Entry := [spec_newReader.E, spec_anyArray.E, spec_anyAxis.E, spec_isAxis.E, spec_reader_pick.E, spec_reader_spoil.E]
noncomputable def I : List Inl := [⟨9, Try.f9, ⟨[13, 50], [(1000006, [0, 1, 3, 4, 10, 11, 12, 13, 14, 15, 16, 17, 18, 19, 20, 21, 22, 23, 24, 25, 26, 27, 28, 29, 30, 31, 32, 33, 34, 35, 36, 37, 38, 39, 40, 41, 42, 43, 44, 45, 46, 47, 48, 49, 50]), (1000008, [0, 1, 3, 4, 10, 11, 12, 13, 14, 15, 16, 17, 18, 19, 20, 21, 22, 23, 24, 25, 26, 27, 28, 29, 30, 31, 32, 33, 34, 35, 36, 37, 38, 39, 40, 41, 42, 43, 44, 45, 46, 47, 48, 49, 50])], [(11, [8, 6])], [], [46], []⟩⟩]
theorem I_ok : ∀ i ∈ I, Try.prog.funcs[i.f]? = some i.fn ∧ (i.fn.name == "runtime.NumGoroutine") = false := by
  intro i hi
  simp only [I, List.mem_cons, List.not_mem_nil, or_false] at hi
  subst hi
  exact ⟨by kernel_rfl, by kernel_rfl⟩
noncomputable abbrev L0 (fuel n : Nat) (s : St) (k : Kont) := lAt Try.prog X I fuel true 0 false 9 (bodyOf Try.f9) [1, 1, 1, 1, 1, 0, 1, 0] n s k
noncomputable abbrev k0  (fuel : Nat) : Kont := (kAt Try.prog X I fuel true 0 false 9 (bodyOf Try.f9) [1, 1, 1, 1, 1, 0, 1, 0] [] (endK Try.prog Try.f9))
noncomputable def t0 (p0 : List Int) (x0q1 : Int) (x0q2 : List Int) (x0q3 : Int) (x0q6 : List Int) : St := ⟨[.dead, .dead, (.ptr 1000000000 0 0), .dead, .dead, (.ptr 1000000001 0 0), (.ptr 1000000002 0 0), (.imm (.int .i64 (aAx (((cutC p0))) ((aArP ((cutC p0)) 0)) ((aArS ((cutC p0)) 0))))), (.all 1000000003 1), (.imm (.int .i64 x0q1)), .dead, .dead, .dead, .dead, .dead, .dead, .dead, .dead, .dead, .dead, .dead, .dead, .dead, .dead, .dead, .dead, .dead, .dead, .dead, .dead, .dead, .dead, .dead, .dead, .dead, .dead, .dead, .dead, .dead, .dead, .dead, .dead, .dead, .dead, .dead, .dead, .dead, .dead, .dead, .dead, .dead], hOf [(1000000000, (.box [(.imm .nils), (.imm .nils)])), (1000000001, (.box [(.imm (.ints .u8 x0q2)), (.imm (.int .i64 x0q3))])), (1000000002, (.box [(.imm (.ints .i64 (aArS ((cutC p0)) 0))), (.imm (.ints .i64 (aArD ((cutC p0)) 0)))])), (1000000003, (.ints .i64 x0q6))], [], []⟩
noncomputable abbrev L1 (fuel n : Nat) (s : St) (k : Kont) := lAt Try.prog X I fuel true 0 false 9 (bodyOf Try.f9) [1, 1, 1, 1, 1, 0, 1, 0, 0, 1, 0, 0, 0, 0] n s k
noncomputable abbrev k1 (n0 : Nat) (fuel : Nat) : Kont := (kAt Try.prog X I fuel true 0 false 9 (bodyOf Try.f9) [1, 1, 1, 1, 1, 0, 1, 0, 0, 1, 0, 0, 0, 0] [n0] (endK Try.prog Try.f9))
noncomputable def t1 (p0 : List Int) (x0q1 : Int) (x1q2 : List Int) (x1q3 : Int) (x1q6 : List Int) : St := ⟨[.dead, .dead, (.ptr 1000000000 0 0), .dead, .dead, (.ptr 1000000001 0 0), (.ptr 1000000002 0 0), (.imm (.int .i64 (aAx (((cutC p0))) ((aArP ((cutC p0)) 0)) ((aArS ((cutC p0)) 0))))), (.all 1000000003 1), (.imm (.int .i64 x0q1)), .dead, .dead, .dead, .dead, .dead, .dead, .dead, .dead, .dead, .dead, .dead, .dead, .dead, .dead, .dead, .dead, .dead, .dead, .dead, .dead, .dead, .dead, .dead, .dead, .dead, .dead, .dead, .dead, .dead, .dead, .dead, .dead, .dead, .dead, .dead, .dead, .dead, .dead, .dead, .dead, .dead], hOf [(1000000000, (.box [(.imm .nils), (.imm .nils)])), (1000000001, (.box [(.imm (.ints .u8 x1q2)), (.imm (.int .i64 x1q3))])), (1000000002, (.box [(.imm (.ints .i64 (aArS ((cutC p0)) 0))), (.imm (.ints .i64 (aArD ((cutC p0)) 0)))])), (1000000003, (.ints .i64 x1q6))], [], []⟩
theorem e (fuel : Nat) (p0 : List Int) : runF Try.prog X I 0 fuel 9 Try.f9 [.d (.ints .u8 p0)] =
  (bif rdOk ((cutC p0)) 0 && decide ((0 : Int) ≤ 1000000) then
  (bif rdOk (((cutC p0))) ((aArP ((cutC p0)) 0)) && decide ((((aArP ((cutC p0)) 0)) : Int) ≤ 2000000) && decide ((((aArS ((cutC p0)) 0)) : List Int).length ≤ 1000) then
  L0 fuel fuel (t0 p0 0 ((((cutC p0)))) ((aAxP ((aArP ((cutC p0)) 0)) ((aArS ((cutC p0)) 0)))) ([])) (k0  fuel)
  else
  none)
  else
  none) := by kernel_rfl
theorem s0 (fuel n0 : Nat) (p0 : List Int) (x0q1 : Int) (x0q2 : List Int) (x0q3 : Int) (x0q6 : List Int) : L0 fuel (n0 + 1) (t0 p0 x0q1 x0q2 x0q3 x0q6) (k0  fuel) =
  (bif decide (((aArS ((cutC p0)) 0)).length < 9223372036854775808) && decide (((aArD ((cutC p0)) 0)).length < 9223372036854775808) then
  (bif (axB ((aArS ((cutC p0)) 0)) ((aArD ((cutC p0)) 0)) ((aAx (((cutC p0))) ((aArP ((cutC p0)) 0)) ((aArS ((cutC p0)) 0))))) then
  (idx (aAx (((cutC p0))) ((aArP ((cutC p0)) 0)) ((aArS ((cutC p0)) 0))) (aArS ((cutC p0)) 0).length).bind fun j5 =>
  ((aArS ((cutC p0)) 0)[j5]?).bind fun v6 =>
  (bif (decide ((x0q1 : Int) < v6)) then
  L1 fuel fuel (t1 p0 x0q1 x0q2 x0q3 x0q6) (k1 n0 fuel)
  else
  (bif rdOk x0q2 x0q3 && decide ((x0q3 : Int) ≤ 2000000) && decide ((x0q6 : List Int).length ≤ 1000000) then
  some ([.agg [((.ints .i64 (aArS ((cutC p0)) 0)), false), ((.ints .i64 (aArD ((cutC p0)) 0)), false)], .one ((.int .i64 (aAx (((cutC p0))) ((aArP ((cutC p0)) 0)) ((aArS ((cutC p0)) 0)))), false), .one ((.ints .i64 (spV x0q2 x0q3 x0q6 2)), false)], [])
  else
  none))
  else
  (bif rdOk x0q2 x0q3 && decide ((x0q3 : Int) ≤ 2000000) && decide ((x0q6 : List Int).length ≤ 1000000) then
  some ([.agg [((.ints .i64 (aArS ((cutC p0)) 0)), false), ((.ints .i64 (aArD ((cutC p0)) 0)), false)], .one ((.int .i64 (aAx (((cutC p0))) ((aArP ((cutC p0)) 0)) ((aArS ((cutC p0)) 0)))), false), .one ((.ints .i64 (spV x0q2 x0q3 x0q6 2)), false)], [])
  else
  none))
  else
  none) := by kernel_rfl
theorem s1 (fuel n0 n1 : Nat) (p0 : List Int) (x0q1 : Int) (x1q2 : List Int) (x1q3 : Int) (x1q6 : List Int) : L1 fuel (n1 + 1) (t1 p0 x0q1 x1q2 x1q3 x1q6) (k1 n0 fuel) =
  (bif rdOk x1q2 x1q3 && decide ((3 : Int) ≤ 1048576) then
  (bif (((pickV x1q2 x1q3 3) : Int) == 0) then
  (bif (decide ((((x1q6.length : Nat) : Int) : Int) < 20)) then
  (bif fits (x1q6.length + ([0] : List Int).length) 8 then
  L1 fuel n1 (t1 p0 x0q1 x1q2 ((x1q3 + 1)) ((x1q6 ++ [0]))) (k1 n0 fuel)
  else
  none)
  else
  (bif fits (x1q6.length + ([1] : List Int).length) 8 then
  L0 fuel n0 (t0 p0 ((IntKind.wrap .i64 (x0q1 + 1))) x1q2 ((x1q3 + 1)) ((x1q6 ++ [1]))) (k0  fuel)
  else
  none))
  else
  (bif fits (x1q6.length + ([1] : List Int).length) 8 then
  L0 fuel n0 (t0 p0 ((IntKind.wrap .i64 (x0q1 + 1))) x1q2 ((x1q3 + 1)) ((x1q6 ++ [1]))) (k0  fuel)
  else
  none))
  else
  none) := by kernel_rfl
end spec_DrawExpandAxis
theorem spec_DrawExpandAxis.ok_of (hX : ∀ E ∈ spec_DrawExpandAxis.X, CallSpec Try.prog E) (h : ∀ (bs : List Int), (bytesB bs) = true → ∃ fuel, runF Try.prog spec_DrawExpandAxis.X spec_DrawExpandAxis.I 0 fuel 9 Try.f9 [.d (.ints .u8 bs)] = some ([.agg [((.ints .i64 (aArS (cutC bs) 0)), false), ((.ints .i64 (aArD (cutC bs) 0)), false)], .one ((.int .i64 (dAx (cutC bs))), false), .one ((.ints .i64 (deT (cutC bs))), false)], [])) : CallSpec Try.prog spec_DrawExpandAxis.E :=
  callSpec_of (d := 0) hX (by kernel_rfl) spec_DrawExpandAxis.I_ok (by kernel_rfl) (by kernel_rfl) (by kernel_rfl) (fun _ _ _ _ h => by dsimp only [spec_DrawExpandAxis.E] at h; cases h) (fun xs hp => by
    dsimp only [spec_DrawExpandAxis.E] at hp ⊢
    split at hp
    · exact h _ hp
    · cases hp)
theorem spec_DrawExpandAxis.inner {bs cs : List Int} {F N j : Nat} (r0 : rdOk cs 0 = true) : ∀ (n m : Nat) (q : Int) (out : List Int), 20 - out.length = n → n < m → 0 ≤ q → q + (n : Int) ≤ 1000000 → out.length ≤ 1000 →
    spec_DrawExpandAxis.L1 F m (spec_DrawExpandAxis.t1 bs (j : Int) cs q out) (spec_DrawExpandAxis.k1 N F) = spec_DrawExpandAxis.L0 F N (spec_DrawExpandAxis.t0 bs (IntKind.wrap .i64 ((j : Int) + 1)) cs (zeR cs n q out).1 (zeR cs n q out).2) (spec_DrawExpandAxis.k0 F) := by
  intro n
  induction n with
  | zero =>
    intro m q out h1 h2 h3 h4 h5
    obtain ⟨m, rfl⟩ : ∃ k, m = k + 1 := ⟨m - 1, by omega⟩
    have r1 := rd_le (q := q) r0 (by omega) (by omega)
    have f1 : fits (out.length + ([1] : List Int).length) 8 = true := fitsOk (by simp only [List.length_cons, List.length_nil]; omega)
    rw [spec_DrawExpandAxis.s1, r1, decide_eq_false (p := ((out.length : Nat) : Int) < 20) (by omega), f1]
    cases pickV cs q 3 == 0 <;> rfl
  | succ n ih =>
    intro m q out h1 h2 h3 h4 h5
    obtain ⟨m, rfl⟩ : ∃ k, m = k + 1 := ⟨m - 1, by omega⟩
    have r1 := rd_le (q := q) r0 (by omega) (by omega)
    have f1 : fits (out.length + ([1] : List Int).length) 8 = true := fitsOk (by simp only [List.length_cons, List.length_nil]; omega)
    have f0 : fits (out.length + ([0] : List Int).length) 8 = true := fitsOk (by simp only [List.length_cons, List.length_nil]; omega)
    rw [spec_DrawExpandAxis.s1, r1, decide_eq_true (p := ((out.length : Nat) : Int) < 20) (by omega), f0, f1]
    simp only [zeR]
    cases pickV cs q 3 == 0 with
    | true =>
      simp only [cond_true]
      exact ih m (q + 1) (out ++ [0]) (by rw [List.length_append, List.length_singleton]; omega) (by omega) (by omega) (by omega) (by rw [List.length_append, List.length_singleton]; omega)
    | false => rfl
theorem spec_DrawExpandAxis.ok : CallSpec Try.prog spec_DrawExpandAxis.E := spec_DrawExpandAxis.ok_of (by simp [spec_DrawExpandAxis.X, spec_newReader.ok, spec_anyArray.ok, spec_anyAxis.ok, spec_isAxis.ok, spec_reader_pick.ok, spec_reader_spoil.ok]) fun bs h => by
  obtain ⟨F, hF⟩ : ∃ F : Nat, 1000 < F := ⟨1001, by omega⟩
  refine ⟨F, ?_⟩
  have r0 := cut_ok h (p := 0) (by omega) (by omega)
  obtain ⟨_, _, a1, a2, p1, p2⟩ := dj_bd r0
  obtain ⟨_, _, a3, a4⟩ := aAr_bd r0 (by omega)
  have hN := drN_bd (bs := cutC bs)
  have e1 : aAxP (aArP (cutC bs) 0) (aArS (cutC bs) 0) = dAxP (cutC bs) := rfl
  have e2 : aAx (cutC bs) (aArP (cutC bs) 0) (aArS (cutC bs) 0) = dAx (cutC bs) := rfl
  have g1 := lt_of (xs := aArS (cutC bs) 0) (by omega)
  have g2 := lt_of (xs := aArD (cutC bs) 0) (by omega)
  rw [spec_DrawExpandAxis.e, e1, r0, rd_le (q := aArP (cutC bs) 0) r0 (by omega) (by omega), decide_eq_true (p := aArP (cutC bs) 0 ≤ 2000000) (by omega), decide_eq_true (p := (aArS (cutC bs) 0).length ≤ 1000) (by omega)]
  show spec_DrawExpandAxis.L0 F F _ _ = _
  refine run_loop (N := drN (cutC bs)) (fun n j (st : Int × List Int) => spec_DrawExpandAxis.L0 F n (spec_DrawExpandAxis.t0 bs (j : Int) (cutC bs) st.1 st.2) (spec_DrawExpandAxis.k0 F)) (fun j st => st = exR (cutC bs) (dAxP (cutC bs)) j) ?_ ?_ F 0 (dAxP (cutC bs), []) (by omega) (by omega) rfl
  · rintro n st rfl
    have hx := exR_bd (cutC bs) (dAxP (cutC bs)) (drN (cutC bs))
    have r1 := rd_le (q := (exR (cutC bs) (dAxP (cutC bs)) (drN (cutC bs))).1) r0 (by omega) (by omega)
    rw [spec_DrawExpandAxis.s0, e2, g1, g2, r1, decide_eq_true (p := (exR (cutC bs) (dAxP (cutC bs)) (drN (cutC bs))).1 ≤ 2000000) (by omega), decide_eq_true (p := (exR (cutC bs) (dAxP (cutC bs)) (drN (cutC bs))).2.length ≤ 1000000) (by omega)]
    cases hb : axB (aArS (cutC bs) 0) (aArD (cutC bs) 0) (dAx (cutC bs)) with
    | false => rfl
    | true =>
      obtain ⟨k, hk, hk2, hv, ax, hd, hl⟩ := axB_inv hb
      have hn : drN (cutC bs) = lenN (aArS (cutC bs) 0) k := by
        have hb2 := hb
        rw [hk] at hb2
        simp only [drN, djB1, hk, hb2, cond_true, lenK, Int.toNat_natCast]
      rw [hk, idx_nat hk2]
      simp only [Option.bind_some, getD_get hk2, ax.len]
      rw [← hk, decide_eq_false (by omega)]
      rfl
  · rintro n j st hj rfl
    have hx := exR_bd (cutC bs) (dAxP (cutC bs)) j
    cases hb : axB (aArS (cutC bs) 0) (aArD (cutC bs) 0) (dAx (cutC bs)) with
    | false =>
      have : drN (cutC bs) = 0 := by simp only [drN, djB1, hb, cond_false]
      omega
    | true =>
      obtain ⟨k, hk, hk2, hv, ax, hd, hl⟩ := axB_inv hb
      have hn : drN (cutC bs) = lenN (aArS (cutC bs) 0) k := by
        have hb2 := hb
        rw [hk] at hb2
        simp only [drN, djB1, hk, hb2, cond_true, lenK, Int.toNat_natCast]
      refine ⟨exR (cutC bs) (dAxP (cutC bs)) (j + 1), rfl, ?_⟩
      rw [spec_DrawExpandAxis.s0, e2, g1, g2, hb, hk, idx_nat hk2]
      simp only [Option.bind_some, getD_get hk2, ax.len, Bool.and_self, cond_true]
      rw [decide_eq_true (by omega), cond_true, spec_DrawExpandAxis.inner r0 (20 - (exR (cutC bs) (dAxP (cutC bs)) j).2.length) F _ _ rfl (by omega) (by omega) (by omega) (by omega), w1 (by omega)]
      rfl

namespace impl_layoutOf
noncomputable def E : Entry := ⟨53, false, false, fun | [.d (.ints .i64 sh)] => decide (sh.length < 9223372036854775808) | _ => false, fun | [.d (.ints .i64 sh)] => ([.agg [((.ints .i64 nilI), true), ((.int .i64 0), false), ((.int .i64 0), false), ((.int .i64 0), false), ((.int .i64 0), false)], .one ((.bool false), false)], []) | _ => ([], []), fun | [.d (.ints .i64 sh)] => [(validS sh, ([.agg [((.ints .i64 sh), false), ((.int .i64 (strd sh 0)), false), ((.int .i64 (strd sh 1)), false), ((.int .i64 (strd sh 2)), false), ((.int .i64 (volW sh)), false)], .one ((.bool true), false)], []))] | _ => [], true, fun _ => none⟩
end impl_layoutOf
namespace impl_layoutOf
noncomputable def X : List Entry := []
noncomputable def I : List Inl := [⟨53, Try.f53, ⟨[], [(1000005, [1, 3, 6, 7, 8, 9, 10, 11, 12, 13, 14, 15, 16, 17, 18, 19, 20, 21, 22, 23, 24, 25, 26, 27, 28, 29, 30, 31, 32, 33, 34, 35, 36, 37, 38, 39, 40, 41, 42, 43, 44, 45, 46, 47, 48, 49])], [], [(10, [0, 2, 3, 1, 4, 5, 6, 7, 8])], [], []⟩⟩]
theorem I_ok : ∀ i ∈ I, Try.prog.funcs[i.f]? = some i.fn ∧ (i.fn.name == "runtime.NumGoroutine") = false := by
  intro i hi
  simp only [I, List.mem_cons, List.not_mem_nil, or_false] at hi
  subst hi
  exact ⟨by kernel_rfl, by kernel_rfl⟩
noncomputable abbrev L0 (fuel n : Nat) (s : St) (k : Kont) := lAt Try.prog X I fuel true 0 false 53 (bodyOf Try.f53) [1, 1, 1, 0, 1, 0] n s k
noncomputable abbrev k0  (fuel : Nat) : Kont := (kAt Try.prog X I fuel true 0 false 53 (bodyOf Try.f53) [1, 1, 1, 0, 1, 0] [] (endK Try.prog Try.f53))
noncomputable def t0 (p0 : List Int) (x0q1 : Int) (x0q7 : Int) (x0q8 : Int) (x0q9 : Int) (x0q10 : Int) : St := ⟨[(.imm (.ints .i64 p0)), .dead, (.ptr 1000000000 0 0), .dead, (.ptr 1000000001 0 0), (.imm (.int .i64 x0q1)), .dead, .dead, .dead, .dead, .dead, .dead, .dead, .dead, .dead, .dead, .dead, .dead, .dead, .dead, .dead, .dead, .dead, .dead, .dead, .dead, .dead, .dead, .dead, .dead, .dead, .dead, .dead, .dead, .dead, .dead, .dead, .dead, .dead, .dead, .dead, .dead, .dead, .dead, .dead, .dead, .dead, .dead, .dead, .dead], hOf [(1000000000, (.box [(.imm .nils), (.imm (.int .i64 0)), (.imm (.int .i64 0)), (.imm (.int .i64 0)), (.imm (.int .i64 0))])), (1000000001, (.box [(.imm (.ints .i64 p0)), (.imm (.int .i64 x0q7)), (.imm (.int .i64 x0q8)), (.imm (.int .i64 x0q9)), (.imm (.int .i64 x0q10))]))], [], []⟩
theorem e (fuel : Nat) (p0 : List Int) : runF Try.prog X I 0 fuel 53 Try.f53 [.d (.ints .i64 p0)] =
  (bif (decide ((((p0.length : Nat) : Int) : Int) > 3)) then
  some ([.agg [((.ints .i64 []), true), ((.int .i64 0), false), ((.int .i64 0), false), ((.int .i64 0), false), ((.int .i64 0), false)], .one ((.bool false), false)], [])
  else
  L0 fuel fuel (t0 p0 ((IntKind.wrap .i64 (((p0.length : Nat) : Int) - 1))) 0 0 0 1) (k0  fuel)) := by kernel_rfl
theorem s0 (fuel n0 : Nat) (p0 : List Int) (x0q1 : Int) (x0q7 : Int) (x0q8 : Int) (x0q9 : Int) (x0q10 : Int) : L0 fuel (n0 + 1) (t0 p0 x0q1 x0q7 x0q8 x0q9 x0q10) (k0  fuel) =
  (bif (decide ((x0q1 : Int) ≥ 0)) then
  (idx x0q1 p0.length).bind fun j21 =>
  (p0[j21]?).bind fun v22 =>
  (bif (decide ((v22 : Int) < 0)) then
  some ([.agg [((.ints .i64 []), true), ((.int .i64 0), false), ((.int .i64 0), false), ((.int .i64 0), false), ((.int .i64 0), false)], .one ((.bool false), false)], [])
  else
  (idx x0q1 p0.length).bind fun j23 =>
  (p0[j23]?).bind fun v24 =>
  (bif (decide ((v24 : Int) > 60)) then
  some ([.agg [((.ints .i64 []), true), ((.int .i64 0), false), ((.int .i64 0), false), ((.int .i64 0), false), ((.int .i64 0), false)], .one ((.bool false), false)], [])
  else
  (bif decide (x0q1 = ((0 : Nat) : Int)) then
  (idx x0q1 p0.length).bind fun j29 =>
  (p0[j29]?).bind fun v30 =>
  L0 fuel n0 (t0 p0 ((IntKind.wrap .i64 (x0q1 - 1))) x0q10 x0q8 x0q9 ((IntKind.wrap .i64 (x0q10 * v30)))) (k0  fuel)
  else
  (bif decide (x0q1 = ((1 : Nat) : Int)) then
  (idx x0q1 p0.length).bind fun j27 =>
  (p0[j27]?).bind fun v28 =>
  L0 fuel n0 (t0 p0 ((IntKind.wrap .i64 (x0q1 - 1))) x0q7 x0q10 x0q9 ((IntKind.wrap .i64 (x0q10 * v28)))) (k0  fuel)
  else
  (bif decide (x0q1 = ((2 : Nat) : Int)) then
  (idx x0q1 p0.length).bind fun j25 =>
  (p0[j25]?).bind fun v26 =>
  L0 fuel n0 (t0 p0 ((IntKind.wrap .i64 (x0q1 - 1))) x0q7 x0q8 x0q10 ((IntKind.wrap .i64 (x0q10 * v26)))) (k0  fuel)
  else
  none)))))
  else
  (bif (decide ((x0q10 : Int) > 60)) then
  some ([.agg [((.ints .i64 []), true), ((.int .i64 0), false), ((.int .i64 0), false), ((.int .i64 0), false), ((.int .i64 0), false)], .one ((.bool false), false)], [])
  else
  some ([.agg [((.ints .i64 p0), false), ((.int .i64 x0q7), false), ((.int .i64 x0q8), false), ((.int .i64 x0q9), false), ((.int .i64 x0q10), false)], .one ((.bool true), false)], []))) := by kernel_rfl
end impl_layoutOf
theorem impl_layoutOf.ok_of (hX : ∀ E ∈ impl_layoutOf.X, CallSpec Try.prog E) (h : ∀ (sh : List Int), (decide (sh.length < 9223372036854775808)) = true → ∃ fuel, runF Try.prog impl_layoutOf.X impl_layoutOf.I 0 fuel 53 Try.f53 [.d (.ints .i64 sh)] = some (bif validS sh then ([.agg [((.ints .i64 sh), false), ((.int .i64 (strd sh 0)), false), ((.int .i64 (strd sh 1)), false), ((.int .i64 (strd sh 2)), false), ((.int .i64 (volW sh)), false)], .one ((.bool true), false)], []) else ([.agg [((.ints .i64 nilI), true), ((.int .i64 0), false), ((.int .i64 0), false), ((.int .i64 0), false), ((.int .i64 0), false)], .one ((.bool false), false)], []))) : CallSpec Try.prog impl_layoutOf.E :=
  callSpec_of (d := 0) hX (by kernel_rfl) impl_layoutOf.I_ok (by kernel_rfl) (by kernel_rfl) (by kernel_rfl) (fun _ _ _ _ h => by dsimp only [impl_layoutOf.E] at h; cases h) (fun xs hp => by
    dsimp only [impl_layoutOf.E] at hp ⊢
    split at hp
    · exact h _ hp
    · cases hp)
theorem impl_layoutOf.bad (fuel n : Nat) (sh : List Int) (k : Nat) (v : Int) (s0 s1 s2 z : Int) (hk : k < sh.length) (hv : sh[k]? = some v) (h : ¬ (0 ≤ v ∧ v ≤ 60)) :
    impl_layoutOf.L0 fuel (n + 1) (impl_layoutOf.t0 sh (k : Int) s0 s1 s2 z) (impl_layoutOf.k0 fuel) = some ([.agg [(.ints .i64 [], true), (.int .i64 0, false), (.int .i64 0, false), (.int .i64 0, false), (.int .i64 0, false)], .one (.bool false, false)], []) := by
  rw [impl_layoutOf.s0, decide_eq_true (by omega), idx_nat hk]
  simp only [cond_true, Option.bind_some, hv]
  by_cases h0 : v < 0
  · rw [decide_eq_true h0]; rfl
  · rw [decide_eq_false h0, decide_eq_true (by omega)]; rfl
theorem impl_layoutOf.good (fuel n : Nat) (sh : List Int) (k : Nat) (v : Int) (s0 s1 s2 z : Int) (hk : k < sh.length) (hv : sh[k]? = some v) (h : 0 ≤ v ∧ v ≤ 60) (hk3 : k < 3) :
    impl_layoutOf.L0 fuel (n + 1) (impl_layoutOf.t0 sh (k : Int) s0 s1 s2 z) (impl_layoutOf.k0 fuel) =
      impl_layoutOf.L0 fuel n (impl_layoutOf.t0 sh ((k : Int) - 1) (bif k == 0 then z else s0) (bif k == 1 then z else s1) (bif k == 2 then z else s2) (IntKind.wrap .i64 (z * v))) (impl_layoutOf.k0 fuel) := by
  rw [impl_layoutOf.s0, decide_eq_true (by omega), idx_nat hk]
  simp only [cond_true, Option.bind_some, hv]
  rw [decide_eq_false (p := v < 0) (by omega), decide_eq_false (p := v > 60) (by omega), wS (x := (k : Int) - 1) (by omega) (by omega)]
  simp only [cond_false]
  match k, hk3 with
  | 0, _ => rfl
  | 1, _ => rfl
  | 2, _ => rfl
theorem impl_layoutOf.last (fuel n : Nat) (sh : List Int) (i : Int) (s0 s1 s2 z : Int) (hi : i < 0) :
    impl_layoutOf.L0 fuel (n + 1) (impl_layoutOf.t0 sh i s0 s1 s2 z) (impl_layoutOf.k0 fuel) = 
      bif decide (z ≤ 60) then some ([.agg [(.ints .i64 sh, false), (.int .i64 s0, false), (.int .i64 s1, false), (.int .i64 s2, false), (.int .i64 z, false)], .one (.bool true, false)], [])
      else some ([.agg [(.ints .i64 [], true), (.int .i64 0, false), (.int .i64 0, false), (.int .i64 0, false), (.int .i64 0, false)], .one (.bool false, false)], []) := by
  rw [impl_layoutOf.s0, decide_eq_false (by omega)]
  simp only [cond_false]
  by_cases hz : z ≤ 60
  · rw [decide_eq_true hz, decide_eq_false (by omega)]; rfl
  · rw [decide_eq_false hz, decide_eq_true (by omega)]; rfl
theorem rng_dec {v : Int} (h : 0 ≤ v ∧ v ≤ 60) : (decide (0 ≤ v) && decide (v ≤ 60)) = true := by simp [h.1, h.2]
theorem rng_bad {v : Int} (h : ¬ (0 ≤ v ∧ v ≤ 60)) : (decide (0 ≤ v) && decide (v ≤ 60)) = false := by
  cases hb : (decide (0 ≤ v) && decide (v ≤ 60)) with
  | false => rfl
  | true => simp at hb; exact absurd hb h
theorem validS1 (a : Int) : validS [a] = ((decide (0 ≤ a) && decide (a ≤ 60)) && decide (IntKind.wrap .i64 (1 * a) ≤ 60)) := by
  simp only [validS, allB_cons, allB_nil, Bool.and_true, volW, volFrom]; rfl
theorem validS2 (a b : Int) : validS [a, b] = ((decide (0 ≤ a) && decide (a ≤ 60)) && (decide (0 ≤ b) && decide (b ≤ 60)) && decide (IntKind.wrap .i64 (IntKind.wrap .i64 (1 * a) * b) ≤ 60)) := by
  simp only [validS, allB_cons, allB_nil, Bool.and_true, volW, volFrom]; rfl
theorem validS3 (a b c : Int) : validS [a, b, c] = ((decide (0 ≤ a) && decide (a ≤ 60)) && ((decide (0 ≤ b) && decide (b ≤ 60)) && (decide (0 ≤ c) && decide (c ≤ 60))) && decide (IntKind.wrap .i64 (IntKind.wrap .i64 (IntKind.wrap .i64 (1 * a) * b) * c) ≤ 60)) := by
  simp only [validS, allB_cons, allB_nil, Bool.and_true, volW, volFrom]; rfl
theorem impl_layoutOf.ok : CallSpec Try.prog impl_layoutOf.E := impl_layoutOf.ok_of (by simp [impl_layoutOf.X]) fun sh h => by
  refine ⟨5, ?_⟩
  rw [impl_layoutOf.e]
  match sh with
  | [] => rw [show decide (((([] : List Int).length : Nat) : Int) > 3) = false from rfl, cond_false, impl_layoutOf.last _ _ _ _ _ _ _ _ (by decide)]; rfl
  | [a] =>
    rw [show decide (((([a] : List Int).length : Nat) : Int) > 3) = false from rfl, cond_false, show IntKind.wrap .i64 ((([a] : List Int).length : Nat) - 1) = ((0 : Nat) : Int) from rfl, validS1]
    by_cases h1 : 0 ≤ a ∧ a ≤ 60
    · rw [impl_layoutOf.good _ _ _ _ a _ _ _ _ (by simp) rfl h1 (by omega), impl_layoutOf.last _ _ _ _ _ _ _ _ (by decide), rng_dec h1, Int.one_mul, wS (x := a) (by omega) (by omega)]
      simp only [strd, volW, volFrom, Int.one_mul, wS (x := a) (by omega) (by omega)]
      cases decide (a ≤ 60) <;> rfl
    · rw [impl_layoutOf.bad _ _ _ _ a _ _ _ _ (by simp) rfl h1, rng_bad h1]; rfl
  | [a, b] =>
    rw [show decide (((([a, b] : List Int).length : Nat) : Int) > 3) = false from rfl, cond_false, show IntKind.wrap .i64 ((([a, b] : List Int).length : Nat) - 1) = ((1 : Nat) : Int) from rfl, validS2]
    by_cases h1 : 0 ≤ b ∧ b ≤ 60
    case neg => rw [impl_layoutOf.bad _ _ _ _ b _ _ _ _ (by simp) rfl h1, rng_bad h1, Bool.and_false]; rfl
    rw [impl_layoutOf.good _ _ _ _ b _ _ _ _ (by simp) rfl h1 (by omega), show (((1 : Nat) : Int) - 1) = ((0 : Nat) : Int) from rfl]
    by_cases h2 : 0 ≤ a ∧ a ≤ 60
    case neg => rw [impl_layoutOf.bad _ _ _ _ a _ _ _ _ (by simp) rfl h2, rng_bad h2]; rfl
    have hm := mul60 h2.1 h2.2 h1.1 h1.2
    rw [impl_layoutOf.good _ _ _ _ a _ _ _ _ (by simp) rfl h2 (by omega), impl_layoutOf.last _ _ _ _ _ _ _ _ (by decide), rng_dec h1, rng_dec h2, Int.one_mul, Int.one_mul, wS (x := a) (by omega) (by omega), wS (x := b) (by omega) (by omega), Int.mul_comm b a, wS (x := a * b) (by omega) (by omega)]
    simp only [strd, volW, volFrom, Int.one_mul, wS (x := a) (by omega) (by omega), wS (x := b) (by omega) (by omega), wS (x := a * b) (by omega) (by omega), List.drop_succ_cons, List.drop_zero]
    cases decide (a * b ≤ 60) <;> rfl
  | [a, b, c] =>
    rw [show decide (((([a, b, c] : List Int).length : Nat) : Int) > 3) = false from rfl, cond_false, show IntKind.wrap .i64 ((([a, b, c] : List Int).length : Nat) - 1) = ((2 : Nat) : Int) from rfl, validS3]
    by_cases h0 : 0 ≤ c ∧ c ≤ 60
    case neg => rw [impl_layoutOf.bad _ _ _ _ c _ _ _ _ (by simp) rfl h0, rng_bad h0, Bool.and_false, Bool.and_false]; rfl
    rw [impl_layoutOf.good _ _ _ _ c _ _ _ _ (by simp) rfl h0 (by omega), show (((2 : Nat) : Int) - 1) = ((1 : Nat) : Int) from rfl]
    by_cases h1 : 0 ≤ b ∧ b ≤ 60
    case neg => rw [impl_layoutOf.bad _ _ _ _ b _ _ _ _ (by simp) rfl h1, rng_bad h1, Bool.false_and, Bool.and_false]; rfl
    rw [impl_layoutOf.good _ _ _ _ b _ _ _ _ (by simp) rfl h1 (by omega), show (((1 : Nat) : Int) - 1) = ((0 : Nat) : Int) from rfl]
    by_cases h2 : 0 ≤ a ∧ a ≤ 60
    case neg => rw [impl_layoutOf.bad _ _ _ _ a _ _ _ _ (by simp) rfl h2, rng_bad h2]; rfl
    have hm := mul60 h2.1 h2.2 h1.1 h1.2
    have hm1 := mul60 h1.1 h1.2 h0.1 h0.2
    have hm3 := mul3600 hm.1 hm.2 h0.1 h0.2
    have hc : b * c * a = a * b * c := by rw [Int.mul_comm (b * c) a, Int.mul_assoc]
    rw [impl_layoutOf.good _ _ _ _ a _ _ _ _ (by simp) rfl h2 (by omega), impl_layoutOf.last _ _ _ _ _ _ _ _ (by decide), rng_dec h0, rng_dec h1, rng_dec h2, Int.one_mul, Int.one_mul, wS (x := a) (by omega) (by omega), wS (x := c) (by omega) (by omega), Int.mul_comm c b, wS (x := a * b) (by omega) (by omega), wS (x := b * c) (by omega) (by omega), hc, wS (x := a * b * c) (by omega) (by omega)]
    simp only [strd, volW, volFrom, Int.one_mul, wS (x := a) (by omega) (by omega), wS (x := b) (by omega) (by omega), wS (x := c) (by omega) (by omega), wS (x := a * b) (by omega) (by omega), wS (x := b * c) (by omega) (by omega), wS (x := a * b * c) (by omega) (by omega), List.drop_succ_cons, List.drop_zero]
    cases decide (a * b * c ≤ 60) <;> rfl
  | a :: b :: c :: d :: t =>
    have h1 : ((((a :: b :: c :: d :: t).length : Nat) : Int) > 3) := by simp; omega
    have h2 : ¬ ((((a :: b :: c :: d :: t).length : Nat) : Int) ≤ 3) := by omega
    have h3 : validS (a :: b :: c :: d :: t) = false := by unfold validS; rw [decide_eq_false h2]; rfl
    rw [decide_eq_true h1, h3]
    rfl

namespace impl_isNumber
noncomputable def E : Entry := ⟨54, true, false, fun | [.d (.int .i64 v)] => true | _ => false, fun | [.d (.int .i64 v)] => ([.one ((.bool (numB v)), false)], []) | _ => ([], []), fun _ => [], false, fun _ => none⟩
end impl_isNumber
namespace impl_isNumber
noncomputable def X : List Entry := []
noncomputable def I : List Inl := [⟨54, Try.f54, ⟨[], [], [], [], [], []⟩⟩]
theorem I_ok : ∀ i ∈ I, Try.prog.funcs[i.f]? = some i.fn ∧ (i.fn.name == "runtime.NumGoroutine") = false := by
  intro i hi
  simp only [I, List.mem_cons, List.not_mem_nil, or_false] at hi
  subst hi
  exact ⟨by kernel_rfl, by kernel_rfl⟩
theorem e (fuel : Nat) (p0 : Int) : runF Try.prog X I 0 fuel 54 Try.f54 [.d (.int .i64 p0)] =
  (bif (decide (((-1000000) : Int) ≤ p0)) then
  some ([.one ((.bool (decide ((p0 : Int) ≤ 1000000))), false)], [])
  else
  some ([.one ((.bool false), false)], [])) := by kernel_rfl
end impl_isNumber
theorem impl_isNumber.ok_of (hX : ∀ E ∈ impl_isNumber.X, CallSpec Try.prog E) (h : ∀ (v : Int), (true) = true → ∃ fuel, runF Try.prog impl_isNumber.X impl_isNumber.I 0 fuel 54 Try.f54 [.d (.int .i64 v)] = some ([.one ((.bool (numB v)), false)], [])) : CallSpec Try.prog impl_isNumber.E :=
  callSpec_of (d := 0) hX (by kernel_rfl) impl_isNumber.I_ok (by kernel_rfl) (by kernel_rfl) (by kernel_rfl) (fun _ _ _ _ h => by dsimp only [impl_isNumber.E] at h; cases h) (fun xs hp => by
    dsimp only [impl_isNumber.E] at hp ⊢
    split at hp
    · exact h _ hp
    · cases hp)
theorem impl_isNumber.ok : CallSpec Try.prog impl_isNumber.E := impl_isNumber.ok_of (by simp [impl_isNumber.X]) fun v _ => ⟨0, by
  rw [impl_isNumber.e]
  unfold numB
  cases decide (-1000000 ≤ v) <;> rfl⟩

namespace impl_ValidArray
noncomputable def E : Entry := ⟨20, true, false, fun | [.d (.agg [(.ints .i64 sh), (.ints .i64 da)])] => decide (sh.length < 9223372036854775808) && decide (da.length < 9223372036854775808) | _ => false, fun | [.d (.agg [(.ints .i64 sh), (.ints .i64 da)])] => ([.one ((.bool (validA sh da)), false)], []) | _ => ([], []), fun _ => [], false, fun _ => none⟩
end impl_ValidArray
namespace impl_ValidArray
noncomputable def X : List Entry := [impl_layoutOf.E, impl_isNumber.E]
noncomputable def I : List Inl := [⟨20, Try.f20, ⟨[10], [(1000005, [0, 1, 2, 3, 4, 5, 6, 7, 8, 9, 10, 11, 12, 13, 14, 15, 16, 17, 18, 19, 20, 21, 22, 23, 27, 28, 29, 30, 31, 32, 33])], [], [], [], []⟩⟩]
theorem I_ok : ∀ i ∈ I, Try.prog.funcs[i.f]? = some i.fn ∧ (i.fn.name == "runtime.NumGoroutine") = false := by
  intro i hi
  simp only [I, List.mem_cons, List.not_mem_nil, or_false] at hi
  subst hi
  exact ⟨by kernel_rfl, by kernel_rfl⟩
noncomputable abbrev L0 (fuel n : Nat) (s : St) (k : Kont) := lAt Try.prog X I fuel true 0 false 20 (bodyOf Try.f20) [1, 1, 1, 0, 1, 0] n s k
noncomputable abbrev k0  (fuel : Nat) : Kont := (kAt Try.prog X I fuel true 0 false 20 (bodyOf Try.f20) [1, 1, 1, 0, 1, 0] [] (endK Try.prog Try.f20))
noncomputable def t0 (p0q1 : List Int) (x0q2 : Int) : St := ⟨[.dead, .dead, .dead, .dead, .dead, .dead, .dead, .dead, .dead, .dead, .dead, .dead, .dead, .dead, .dead, .dead, .dead, .dead, .dead, .dead, .dead, .dead, .dead, .dead, (.imm (.ints .i64 p0q1)), (.imm (.int .i64 ((p0q1.length : Nat) : Int))), (.imm (.int .i64 x0q2)), .dead, .dead, .dead, .dead, .dead, .dead, .dead], hOf [], [], []⟩
theorem e (fuel : Nat) (p0q0 : List Int) (p0q1 : List Int) : runF Try.prog X I 0 fuel 20 Try.f20 [.d (.agg [(.ints .i64 p0q0), (.ints .i64 p0q1)])] =
  (bif decide (p0q0.length < 9223372036854775808) then
  (bif validS p0q0 then
  (bif ((((p0q1.length : Nat) : Int) : Int) != (volW p0q0)) then
  some ([.one ((.bool false), false)], [])
  else
  L0 fuel fuel (t0 p0q1 0) (k0  fuel))
  else
  some ([.one ((.bool false), false)], []))
  else
  none) := by kernel_rfl
theorem s0 (fuel n0 : Nat) (p0q1 : List Int) (x0q2 : Int) : L0 fuel (n0 + 1) (t0 p0q1 x0q2) (k0  fuel) =
  (bif (decide ((x0q2 : Int) < ((p0q1.length : Nat) : Int))) then
  (idx x0q2 p0q1.length).bind fun j5 =>
  (p0q1[j5]?).bind fun v6 =>
  (bif (!(numB v6)) then
  some ([.one ((.bool false), false)], [])
  else
  L0 fuel n0 (t0 p0q1 ((IntKind.wrap .i64 (x0q2 + 1)))) (k0  fuel))
  else
  some ([.one ((.bool true), false)], [])) := by kernel_rfl
end impl_ValidArray
theorem impl_ValidArray.ok_of (hX : ∀ E ∈ impl_ValidArray.X, CallSpec Try.prog E) (h : ∀ (sh : List Int) (da : List Int), (decide (sh.length < 9223372036854775808) && decide (da.length < 9223372036854775808)) = true → ∃ fuel, runF Try.prog impl_ValidArray.X impl_ValidArray.I 0 fuel 20 Try.f20 [.d (.agg [(.ints .i64 sh), (.ints .i64 da)])] = some ([.one ((.bool (validA sh da)), false)], [])) : CallSpec Try.prog impl_ValidArray.E :=
  callSpec_of (d := 0) hX (by kernel_rfl) impl_ValidArray.I_ok (by kernel_rfl) (by kernel_rfl) (by kernel_rfl) (fun _ _ _ _ h => by dsimp only [impl_ValidArray.E] at h; cases h) (fun xs hp => by
    dsimp only [impl_ValidArray.E] at hp ⊢
    split at hp
    · exact h _ _ hp
    · cases hp)
theorem impl_ValidArray.loop (fuel : Nat) (xs : List Int) (hx : xs.length < 9223372036854775808) : ∀ (m n j : Nat), xs.length - j = m → m < n → j ≤ xs.length →
    impl_ValidArray.L0 fuel n (impl_ValidArray.t0 xs (j : Int)) (impl_ValidArray.k0 fuel) = some ([.one (.bool (allB (xs.drop j) (-1000000) 1000000), false)], []) := by
  intro m
  induction m with
  | zero =>
    intro n j h1 h2 h3
    obtain ⟨n, rfl⟩ : ∃ n', n = n' + 1 := ⟨n - 1, by omega⟩
    have hj : ¬ j < xs.length := by omega
    rw [impl_ValidArray.s0, dge hj, dropE hj]
    rfl
  | succ m ih =>
    intro n j h1 h2 h3
    obtain ⟨n, rfl⟩ : ∃ n', n = n' + 1 := ⟨n - 1, by omega⟩
    have hj : j < xs.length := by omega
    rw [impl_ValidArray.s0, dlt hj, idx_nat hj, w1 (by omega), dropS hj]
    simp only [cond_true, Option.bind_some, getS hj, allB_cons, numB_eq]
    rw [ih n (j + 1) (by omega) (by omega) (by omega)]
    cases decide (-1000000 ≤ xs[j]) && decide (xs[j] ≤ 1000000) <;> rfl

theorem impl_ValidArray.ok : CallSpec Try.prog impl_ValidArray.E := impl_ValidArray.ok_of (by simp [impl_ValidArray.X, impl_layoutOf.ok, impl_isNumber.ok]) fun sh da h => by
  simp only [Bool.and_eq_true, decide_eq_true_eq] at h
  refine ⟨da.length + 1, ?_⟩
  rw [impl_ValidArray.e, lt_of h.1]
  have := impl_ValidArray.loop (da.length + 1) da h.2 da.length (da.length + 1) 0 (by omega) (by omega) (by omega)
  simp only [cond_true, List.drop_zero] at this ⊢
  rw [show ((0 : Nat) : Int) = 0 from rfl] at this
  rw [this]
  unfold validA
  cases validS sh
  · rfl
  · cases hb : (((da.length : Nat) : Int) == volW sh) with
    | true => simp [bne, hb]
    | false => simp [bne, hb]

namespace impl_axisLength
noncomputable def E : Entry := ⟨37, true, false, fun | [.d (.agg [(.ints .i64 sh), (.ints .i64 da)]), .d (.int .i64 k)] => decide (sh.length < 9223372036854775808) && decide (da.length < 9223372036854775808) | _ => false, fun | [.d (.agg [(.ints .i64 sh), (.ints .i64 da)]), .d (.int .i64 k)] => ([.one ((.int .i64 (axL sh da k)), false), .one ((.bool (axB sh da k)), false)], []) | _ => ([], []), fun _ => [], false, fun _ => none⟩
end impl_axisLength
namespace impl_axisLength
noncomputable def X : List Entry := [impl_ValidArray.E]
noncomputable def I : List Inl := [⟨37, Try.f37, ⟨[], [], [], [], [], []⟩⟩]
theorem I_ok : ∀ i ∈ I, Try.prog.funcs[i.f]? = some i.fn ∧ (i.fn.name == "runtime.NumGoroutine") = false := by
  intro i hi
  simp only [I, List.mem_cons, List.not_mem_nil, or_false] at hi
  subst hi
  exact ⟨by kernel_rfl, by kernel_rfl⟩
theorem e (fuel : Nat) (p0q0 : List Int) (p0q1 : List Int) (p1 : Int) : runF Try.prog X I 0 fuel 37 Try.f37 [.d (.agg [(.ints .i64 p0q0), (.ints .i64 p0q1)]), .d (.int .i64 p1)] =
  (bif decide (p0q0.length < 9223372036854775808) && decide (p0q1.length < 9223372036854775808) then
  (bif (!(validA p0q0 p0q1)) then
  some ([.one ((.int .i64 0), false), .one ((.bool false), false)], [])
  else
  (bif (decide ((p1 : Int) < 0)) then
  some ([.one ((.int .i64 0), false), .one ((.bool false), false)], [])
  else
  (bif (decide ((p1 : Int) ≥ ((p0q0.length : Nat) : Int))) then
  some ([.one ((.int .i64 0), false), .one ((.bool false), false)], [])
  else
  (idx p1 p0q0.length).bind fun j1 =>
  (p0q0[j1]?).bind fun v2 =>
  some ([.one ((.int .i64 v2), false), .one ((.bool true), false)], []))))
  else
  none) := by kernel_rfl
end impl_axisLength
theorem impl_axisLength.ok_of (hX : ∀ E ∈ impl_axisLength.X, CallSpec Try.prog E) (h : ∀ (sh : List Int) (da : List Int) (k : Int), (decide (sh.length < 9223372036854775808) && decide (da.length < 9223372036854775808)) = true → ∃ fuel, runF Try.prog impl_axisLength.X impl_axisLength.I 0 fuel 37 Try.f37 [.d (.agg [(.ints .i64 sh), (.ints .i64 da)]), .d (.int .i64 k)] = some ([.one ((.int .i64 (axL sh da k)), false), .one ((.bool (axB sh da k)), false)], [])) : CallSpec Try.prog impl_axisLength.E :=
  callSpec_of (d := 0) hX (by kernel_rfl) impl_axisLength.I_ok (by kernel_rfl) (by kernel_rfl) (by kernel_rfl) (fun _ _ _ _ h => by dsimp only [impl_axisLength.E] at h; cases h) (fun xs hp => by
    dsimp only [impl_axisLength.E] at hp ⊢
    split at hp
    · exact h _ _ _ hp
    · cases hp)
theorem impl_axisLength.ok : CallSpec Try.prog impl_axisLength.E := impl_axisLength.ok_of (by simp [impl_axisLength.X, impl_ValidArray.ok]) fun sh da k h => ⟨0, by
  rw [impl_axisLength.e, h]
  unfold axL axB
  cases hv : validA sh da with
  | false => rfl
  | true =>
    by_cases h0 : k < 0
    · rw [decide_eq_true h0, show axOk sh k = false by simp [axOk]; omega]; rfl
    by_cases h1 : k ≥ ((sh.length : Nat) : Int)
    · rw [decide_eq_false h0, decide_eq_true h1, show axOk sh k = false by simp [axOk]; omega]; rfl
    obtain ⟨j, rfl⟩ : ∃ j : Nat, k = j := ⟨k.toNat, by omega⟩
    have hj : j < sh.length := by omega
    rw [decide_eq_false h0, decide_eq_false h1, show axOk sh j = true by simp [axOk]; omega, idx_nat hj]
    simp [hj]⟩

namespace impl_withPlaces_1
noncomputable def E : Entry := ⟨66, true, false, fun | [.d (.int .i64 i), .d (.pbox [(.ints .i64 ls)])] => lsB ls i | _ => false, fun | [.d (.int .i64 i), .d (.pbox [(.ints .i64 ls)])] => ([.one ((.int .i64 (lsI ls i)), false)], []) | _ => ([], []), fun _ => [], false, fun | [(.pbox [(.ints .i64 ls)])] => some (false, (lsQ ls), (q1v (lsI ls))) | _ => none⟩
end impl_withPlaces_1
namespace impl_withPlaces_1
noncomputable def X : List Entry := []
noncomputable def I : List Inl := [⟨66, Try.f66, ⟨[], [], [], [], [], []⟩⟩]
theorem I_ok : ∀ i ∈ I, Try.prog.funcs[i.f]? = some i.fn ∧ (i.fn.name == "runtime.NumGoroutine") = false := by
  intro i hi
  simp only [I, List.mem_cons, List.not_mem_nil, or_false] at hi
  subst hi
  exact ⟨by kernel_rfl, by kernel_rfl⟩
theorem e (fuel : Nat) (p0 : Int) (f0q0 : List Int) : runF Try.prog X I 0 fuel 66 Try.f66 [.d (.int .i64 p0), .d (.pbox [(.ints .i64 f0q0)])] =
  (idx p0 f0q0.length).bind fun j1 =>
  (f0q0[j1]?).bind fun v2 =>
  some ([.one ((.int .i64 v2), false)], []) := by kernel_rfl
end impl_withPlaces_1
theorem impl_withPlaces_1.ok_of (hX : ∀ E ∈ impl_withPlaces_1.X, CallSpec Try.prog E) (hfn : ∀ ds rb dom G, impl_withPlaces_1.E.fnOf ds = some (rb, dom, G) → ∀ qs, dom qs = true → impl_withPlaces_1.E.m ((qs.map fun q => .d q.d) ++ ds.map .d) = some ([.one (fnD rb (G qs), false)], [])) (h : ∀ (i : Int) (ls : List Int), (lsB ls i) = true → ∃ fuel, runF Try.prog impl_withPlaces_1.X impl_withPlaces_1.I 0 fuel 66 Try.f66 [.d (.int .i64 i), .d (.pbox [(.ints .i64 ls)])] = some ([.one ((.int .i64 (lsI ls i)), false)], [])) : CallSpec Try.prog impl_withPlaces_1.E :=
  callSpec_of (d := 0) hX (by kernel_rfl) impl_withPlaces_1.I_ok (by kernel_rfl) (by kernel_rfl) (by kernel_rfl) hfn (fun xs hp => by
    dsimp only [impl_withPlaces_1.E] at hp ⊢
    split at hp
    · exact h _ _ hp
    · cases hp)
theorem impl_withPlaces_1.ok : CallSpec Try.prog impl_withPlaces_1.E := impl_withPlaces_1.ok_of (by simp [impl_withPlaces_1.X]) (fun ds rb dom G h qs hq => by
  dsimp only [impl_withPlaces_1.E] at h
  split at h
  case h_2 => cases h
  cases h
  match qs, hq with
  | [.i n], hq =>
    simp only [lsQ] at hq
    simp only [impl_withPlaces_1.E, Entry.m, List.map, List.cons_append, List.nil_append, Q.d, hq, cond_true, if_true]
    rfl) fun i ls h => ⟨0, by
  simp only [lsB, Bool.and_eq_true, decide_eq_true_eq] at h
  obtain ⟨j, rfl⟩ : ∃ j : Nat, i = j := ⟨i.toNat, by omega⟩
  have hj : j < ls.length := by omega
  rw [impl_withPlaces_1.e, idx_nat hj]
  simp only [Option.bind_some, getD_get hj, lsI, Int.toNat_natCast]⟩

namespace impl_copyList
noncomputable def E : Entry := ⟨56, false, false, fun | [.d (.ints .i64 xs)] => szB xs | _ => false, fun | [.d (.ints .i64 xs)] => ([.one ((.ints .i64 xs), true)], []) | _ => ([], []), fun _ => [], true, fun _ => none⟩
end impl_copyList
namespace impl_copyList
noncomputable def X : List Entry := []
noncomputable def I : List Inl := [⟨56, Try.f56, ⟨[], [], [], [], [], []⟩⟩]
theorem I_ok : ∀ i ∈ I, Try.prog.funcs[i.f]? = some i.fn ∧ (i.fn.name == "runtime.NumGoroutine") = false := by
  intro i hi
  simp only [I, List.mem_cons, List.not_mem_nil, or_false] at hi
  subst hi
  exact ⟨by kernel_rfl, by kernel_rfl⟩
theorem e (fuel : Nat) (p0 : List Int) : runF Try.prog X I 0 fuel 56 Try.f56 [.d (.ints .i64 p0)] =
  (bif decide (0 ≤ (((p0.length : Nat) : Int) : Int)) && decide ((((p0.length : Nat) : Int) : Int) ≤ ((p0.length : Nat) : Int)) && decide ((((p0.length : Nat) : Int) : Int) ≤ 1152921504606846976) && decide (((8 : Nat) : Int) * ((p0.length : Nat) : Int) ≤ 281474976710656) then
  some ([.one ((.ints .i64 (copyL (List.replicate (((p0.length : Nat) : Int)).toNat (0 : Int)) 0 (List.replicate (((p0.length : Nat) : Int)).toNat (0 : Int)).length p0)), true)], [])
  else
  none) := by kernel_rfl
end impl_copyList
theorem impl_copyList.ok_of (hX : ∀ E ∈ impl_copyList.X, CallSpec Try.prog E) (h : ∀ (xs : List Int), (szB xs) = true → ∃ fuel, runF Try.prog impl_copyList.X impl_copyList.I 0 fuel 56 Try.f56 [.d (.ints .i64 xs)] = some ([.one ((.ints .i64 xs), true)], [])) : CallSpec Try.prog impl_copyList.E :=
  callSpec_of (d := 0) hX (by kernel_rfl) impl_copyList.I_ok (by kernel_rfl) (by kernel_rfl) (by kernel_rfl) (fun _ _ _ _ h => by dsimp only [impl_copyList.E] at h; cases h) (fun xs hp => by
    dsimp only [impl_copyList.E] at hp ⊢
    split at hp
    · exact h _ hp
    · cases hp)
theorem impl_copyList.ok : CallSpec Try.prog impl_copyList.E := impl_copyList.ok_of (by simp [impl_copyList.X]) fun xs h => ⟨0, by
  have hx := szB_le h
  rw [impl_copyList.e, mkOk (by omega) (by omega)]
  simp only [cond_true, Int.toNat_natCast, copyL_all]⟩

namespace impl_layoutOf_j
noncomputable def E : Entry := ⟨53, false, false, fun | [.d (.ints .i64 sh)] => decide (sh.length < 9223372036854775808) | _ => false, fun | [.d (.ints .i64 sh)] => ([.agg [(.junk, false), ((.int .i64 0), false), ((.int .i64 0), false), ((.int .i64 0), false), ((.int .i64 0), false)], .one ((.bool false), false)], []) | _ => ([], []), fun | [.d (.ints .i64 sh)] => [(validS sh, ([.agg [(.junk, false), ((.int .i64 (strd sh 0)), false), ((.int .i64 (strd sh 1)), false), ((.int .i64 (strd sh 2)), false), ((.int .i64 (volW sh)), false)], .one ((.bool true), false)], []))] | _ => [], true, fun _ => none⟩
end impl_layoutOf_j
theorem impl_layoutOf_j.ok : CallSpec Try.prog impl_layoutOf_j.E := CallSpec.le impl_layoutOf.ok rfl (fun _ _ _ _ h => by dsimp only [impl_layoutOf_j.E] at h; cases h) fun xs h => by
  dsimp only [impl_layoutOf_j.E] at h
  split at h
  case h_2 => simp at h
  rename_i sh
  refine ⟨h, ?_⟩
  simp only [Entry.r, impl_layoutOf_j.E, impl_layoutOf.E, pickR]
  cases hv : validS sh
  · refine ⟨.agg rfl (fun i h1 h2 => ?_) (.same .nil), rfl⟩
    match i, h1 with
    | 0, _ => exact .inr (.inr (.inl ⟨rfl, _, _, rfl⟩))
    | 1, _ | 2, _ | 3, _ | 4, _ => exact .inl rfl
  · refine ⟨.agg rfl (fun i h1 h2 => ?_) (.same .nil), rfl⟩
    match i, h1 with
    | 0, _ => exact .inr (.inl ⟨rfl, rfl, rfl, rfl⟩)
    | 1, _ | 2, _ | 3, _ | 4, _ => exact .inl rfl

namespace impl_view_copied
noncomputable def E : Entry := ⟨63, false, false, fun | [.d (.agg [(.ints .i64 sh), (.ints .i64 da), (.int .i64 k), (.int .i64 len), (.fn false dom G)])] => axB sh da k && domB len dom | _ => false, fun | [.d (.agg [(.ints .i64 sh), (.ints .i64 da), (.int .i64 k), (.int .i64 len), (.fn false dom G)])] => ([.agg [((.ints .i64 (cpS sh k len)), true), ((.ints .i64 (cpD sh da k len G)), true)], .one ((.bool (cpB sh k len)), false)], []) | _ => ([], []), fun _ => [], true, fun _ => none⟩
end impl_view_copied
namespace impl_view_copied
noncomputable def X : List Entry := [impl_copyList.E, impl_layoutOf_j.E]
noncomputable def I : List Inl := [⟨63, Try.f63, ⟨[17, 26], [(1000009, [0, 3, 5, 6, 10, 11, 12, 13, 14, 15, 16, 17, 18, 19, 20, 21, 22, 23, 24, 25, 26, 27, 28, 29, 30, 31, 32, 33, 34, 35, 36, 37, 38, 39, 40, 41, 42, 43, 44, 45, 46, 47, 50, 51, 52, 53, 54, 55, 56, 57, 58, 59, 60, 61, 62, 63, 64, 65, 66, 67, 68, 69, 70, 71, 72, 73, 74, 75, 76, 77, 78, 79, 80, 81, 82, 83, 84, 85, 86, 87, 88, 89, 90, 91, 92, 93, 94, 95])], [], [(7, [0, 2, 5, 6, 8, 1, 3, 4, 12, 7, 9, 10, 11, 13]), (12, [0, 2, 3, 1, 4, 5, 6, 7]), (14, [0, 1, 2, 3, 5, 6, 9, 11, 13, 15, 4, 7, 8, 10, 12, 14, 16, 17, 18, 19, 20])], [], []⟩⟩]
theorem I_ok : ∀ i ∈ I, Try.prog.funcs[i.f]? = some i.fn ∧ (i.fn.name == "runtime.NumGoroutine") = false := by
  intro i hi
  simp only [I, List.mem_cons, List.not_mem_nil, or_false] at hi
  subst hi
  exact ⟨by kernel_rfl, by kernel_rfl⟩
noncomputable abbrev L0 (fuel n : Nat) (s : St) (k : Kont) := lAt Try.prog X I fuel true 0 false 63 (bodyOf Try.f63) [1, 1, 1, 1, 1, 1, 1, 0, 1, 0] n s k
noncomputable abbrev k0  (fuel : Nat) : Kont := (kAt Try.prog X I fuel true 0 false 63 (bodyOf Try.f63) [1, 1, 1, 1, 1, 1, 1, 0, 1, 0] [] (endK Try.prog Try.f63))
noncomputable def t0 (p0q0 : List Int) (j1 : Nat) (p0q3 : Int) (p0q1 : List Int) (p0q2 : Int) (p0q4d : List Q → Bool) (p0q4g : List Q → Int) (x0q0 : Int) (x0q1 : Int) (x0q3 : Int) (x0q11 : List Int) : St := ⟨[.dead, (.ptr 1000000000 0 0), (.ptr 1000000001 0 0), .dead, (.all 1000000002 1), .dead, .dead, (.all 1000000003 1), (.imm (.int .i64 x0q0)), (.imm (.int .i64 x0q1)), .dead, .dead, .dead, .dead, .dead, .dead, .dead, .dead, .dead, .dead, .dead, .dead, .dead, .dead, .dead, .dead, .dead, .dead, .dead, .dead, .dead, .dead, .dead, .dead, .dead, .dead, .dead, .dead, .dead, .dead, .dead, .dead, .dead, .dead, .dead, .dead, .dead, .dead, (.imm (.int .i64 (((List.replicate ((volW ((p0q0.set j1 p0q3)))).toNat (0 : Int)).length : Nat) : Int))), (.imm (.int .i64 x0q3)), .dead, .dead, .dead, .dead, .dead, .dead, .dead, .dead, .dead, .dead, .dead, .dead, .dead, .dead, .dead, .dead, .dead, .dead, .dead, .dead, .dead, .dead, .dead, .dead, .dead, .dead, .dead, .dead, .dead, .dead, .dead, .dead, .dead, .dead, .dead, .dead, .dead, .dead, .dead, .dead, .dead, .dead, .dead, .dead, .dead, .dead], hOf [(1000000000, (.box [(.imm (.ints .i64 p0q0)), (.imm (.ints .i64 p0q1)), (.imm (.int .i64 p0q2)), (.imm (.int .i64 p0q3)), (.imm (.fn false p0q4d p0q4g))])), (1000000001, (.box [(.imm .nils), (.imm .nils)])), (1000000002, (.ints .i64 (p0q0.set j1 p0q3))), (1000000003, (.ints .i64 x0q11))], [], []⟩
theorem e (fuel : Nat) (p0q0 : List Int) (p0q1 : List Int) (p0q2 : Int) (p0q3 : Int) (p0q4d : List Q → Bool) (p0q4g : List Q → Int) : runF Try.prog X I 0 fuel 63 Try.f63 [.d (.agg [(.ints .i64 p0q0), (.ints .i64 p0q1), (.int .i64 p0q2), (.int .i64 p0q3), (.fn false p0q4d p0q4g)])] =
  (bif szB p0q0 then
  (idx p0q2 p0q0.length).bind fun j1 =>
  (bif decide (j1 < p0q0.length) then
  (bif decide (((p0q0.set j1 p0q3)).length < 9223372036854775808) then
  (bif validS ((p0q0.set j1 p0q3)) then
  (bif decide (0 ≤ ((volW ((p0q0.set j1 p0q3))) : Int)) && decide (((volW ((p0q0.set j1 p0q3))) : Int) ≤ (volW ((p0q0.set j1 p0q3)))) && decide (((volW ((p0q0.set j1 p0q3))) : Int) ≤ 1152921504606846976) && decide (((8 : Nat) : Int) * (volW ((p0q0.set j1 p0q3))) ≤ 281474976710656) then
  (bif decide (p0q2 = ((0 : Nat) : Int)) then
  (idx p0q2 p0q0.length).bind fun j12 =>
  (p0q0[j12]?).bind fun v13 =>
  L0 fuel fuel (t0 p0q0 j1 p0q3 p0q1 p0q2 p0q4d p0q4g ((strd ((p0q0.set j1 p0q3)) 0)) v13 0 ((List.replicate ((volW ((p0q0.set j1 p0q3)))).toNat (0 : Int)))) (k0  fuel)
  else
  (bif decide (p0q2 = ((1 : Nat) : Int)) then
  (idx p0q2 p0q0.length).bind fun j10 =>
  (p0q0[j10]?).bind fun v11 =>
  L0 fuel fuel (t0 p0q0 j1 p0q3 p0q1 p0q2 p0q4d p0q4g ((strd ((p0q0.set j1 p0q3)) 1)) v11 0 ((List.replicate ((volW ((p0q0.set j1 p0q3)))).toNat (0 : Int)))) (k0  fuel)
  else
  (bif decide (p0q2 = ((2 : Nat) : Int)) then
  (idx p0q2 p0q0.length).bind fun j2 =>
  (p0q0[j2]?).bind fun v3 =>
  L0 fuel fuel (t0 p0q0 j1 p0q3 p0q1 p0q2 p0q4d p0q4g ((strd ((p0q0.set j1 p0q3)) 2)) v3 0 ((List.replicate ((volW ((p0q0.set j1 p0q3)))).toNat (0 : Int)))) (k0  fuel)
  else
  none)))
  else
  none)
  else
  some ([.agg [((.ints .i64 []), true), ((.ints .i64 []), true)], .one ((.bool false), false)], []))
  else
  none)
  else
  none)
  else
  none) := by kernel_rfl
theorem s0 (fuel n0 : Nat) (p0q0 : List Int) (j1 : Nat) (p0q3 : Int) (p0q1 : List Int) (p0q2 : Int) (p0q4d : List Q → Bool) (p0q4g : List Q → Int) (x0q0 : Int) (x0q1 : Int) (x0q3 : Int) (x0q11 : List Int) : L0 fuel (n0 + 1) (t0 p0q0 j1 p0q3 p0q1 p0q2 p0q4d p0q4g x0q0 x0q1 x0q3 x0q11) (k0  fuel) =
  (bif (decide ((x0q3 : Int) < (((List.replicate ((volW ((p0q0.set j1 p0q3)))).toNat (0 : Int)).length : Nat) : Int))) then
  (bif decide ((x0q0 : Int) = 0) then
  none
  else
  (bif decide ((x0q0 : Int) = 0) then
  none
  else
  (bif decide ((p0q3 : Int) = 0) then
  none
  else
  (bif (p0q4d [Q.i ((Int.tmod (IntKind.wrap .i64 (Int.tdiv x0q3 x0q0)) p0q3))]) then
  (bif (decide ((0 : Int) ≤ (p0q4g [Q.i ((Int.tmod (IntKind.wrap .i64 (Int.tdiv x0q3 x0q0)) p0q3))]))) then
  (bif (decide (((p0q4g [Q.i ((Int.tmod (IntKind.wrap .i64 (Int.tdiv x0q3 x0q0)) p0q3))]) : Int) < x0q1)) then
  (bif decide ((p0q3 : Int) = 0) then
  none
  else
  (idx (IntKind.wrap .i64 ((IntKind.wrap .i64 ((IntKind.wrap .i64 ((IntKind.wrap .i64 ((IntKind.wrap .i64 (Int.tdiv (IntKind.wrap .i64 (Int.tdiv x0q3 x0q0)) p0q3)) * x0q1)) + (p0q4g [Q.i ((Int.tmod (IntKind.wrap .i64 (Int.tdiv x0q3 x0q0)) p0q3))]))) * x0q0)) + (Int.tmod x0q3 x0q0))) p0q1.length).bind fun j7 =>
  (p0q1[j7]?).bind fun v8 =>
  (idx x0q3 x0q11.length).bind fun j9 =>
  (bif decide (j9 < x0q11.length) then
  L0 fuel n0 (t0 p0q0 j1 p0q3 p0q1 p0q2 p0q4d p0q4g x0q0 x0q1 ((IntKind.wrap .i64 (x0q3 + 1))) ((x0q11.set j9 v8))) (k0  fuel)
  else
  none))
  else
  L0 fuel n0 (t0 p0q0 j1 p0q3 p0q1 p0q2 p0q4d p0q4g x0q0 x0q1 ((IntKind.wrap .i64 (x0q3 + 1))) x0q11) (k0  fuel))
  else
  L0 fuel n0 (t0 p0q0 j1 p0q3 p0q1 p0q2 p0q4d p0q4g x0q0 x0q1 ((IntKind.wrap .i64 (x0q3 + 1))) x0q11) (k0  fuel))
  else
  none))))
  else
  some ([.agg [((.ints .i64 (p0q0.set j1 p0q3)), true), ((.ints .i64 x0q11), true)], .one ((.bool true), false)], [])) := by kernel_rfl
end impl_view_copied
theorem impl_view_copied.ok_of (hX : ∀ E ∈ impl_view_copied.X, CallSpec Try.prog E) (h : ∀ (sh : List Int) (da : List Int) (k : Int) (len : Int) (dom : List Q → Bool) (G : List Q → Int), (axB sh da k && domB len dom) = true → ∃ fuel, runF Try.prog impl_view_copied.X impl_view_copied.I 0 fuel 63 Try.f63 [.d (.agg [(.ints .i64 sh), (.ints .i64 da), (.int .i64 k), (.int .i64 len), (.fn false dom G)])] = some ([.agg [((.ints .i64 (cpS sh k len)), true), ((.ints .i64 (cpD sh da k len G)), true)], .one ((.bool (cpB sh k len)), false)], [])) : CallSpec Try.prog impl_view_copied.E :=
  callSpec_of (d := 0) hX (by kernel_rfl) impl_view_copied.I_ok (by kernel_rfl) (by kernel_rfl) (by kernel_rfl) (fun _ _ _ _ h => by dsimp only [impl_view_copied.E] at h; cases h) (fun xs hp => by
    dsimp only [impl_view_copied.E] at hp ⊢
    split at hp
    · exact h _ _ _ _ _ _ hp
    · cases hp)
theorem impl_view_copied.loop (fuel : Nat) (sh da : List Int) (k l : Nat) (dom : List Q → Bool) (G : List Q → Int) (ax : Ax sh k) (hd : da.length = befN sh k * lenN sh k * behN sh k) (al : AlOk sh k (cpL sh k l G)) (hdom : domB (l : Int) dom = true)
    (hv : (volW (sh.set k (l : Int))).toNat = befN sh k * l * behN sh k) (hf : 60 < fuel) :
    impl_view_copied.L0 fuel fuel (impl_view_copied.t0 sh k (l : Int) da (k : Int) dom G ((behN sh k : Nat) : Int) ((lenN sh k : Nat) : Int) 0 (List.replicate (volW (sh.set k (l : Int))).toNat 0)) (impl_view_copied.k0 fuel) =
    some ([.agg [((.ints .i64 (sh.set k (l : Int))), true), ((.ints .i64 (alA sh da k (cpL sh k l G))), true)], .one ((.bool true), false)], []) := by
  have hll : (cpL sh k l G).length = l := by simp [cpL, tab_length]
  have hle := al.le
  have hlen : (alA sh da k (cpL sh k l G)).length = befN sh k * l * behN sh k := by rw [alA_length, hll]
  have hlk := ax.lt
  have hdl := ax.le
  rw [hll] at hle
  refine run_loop (N := befN sh k * l * behN sh k) (fun n j out => impl_view_copied.L0 fuel n (impl_view_copied.t0 sh k (l : Int) da (k : Int) dom G ((behN sh k : Nat) : Int) ((lenN sh k : Nat) : Int) (j : Int) out) (impl_view_copied.k0 fuel)) (fun j out => out = part (alA sh da k (cpL sh k l G)) j) ?_ ?_ fuel 0 _ (by omega) (by omega) (by rw [part_zero, hlen, hv])
  · intro n out ho
    rw [← hlen, part_all] at ho
    rw [impl_view_copied.s0, List.length_replicate, hv, dge (by omega), ho]
    rfl
  · intro n j out hj ho
    obtain ⟨d1, d2, d3, d4⟩ := dec3 hj
    have hM : behN sh k ≠ 0 := by omega
    have hL : l ≠ 0 := by omega
    have hol : out.length = befN sh k * l * behN sh k := by rw [ho, part_length (by omega), hlen]
    have hg := alA_get (sh := sh) (da := da) (k := k) (ls := cpL sh k l G) d1 (by rw [hll]; exact d2) d3
    rw [hll, d4] at hg
    have hcl : (cpL sh k l G).getD (j / behN sh k % l) 0 = cpF (lenN sh k) G (j / behN sh k % l) := by
      unfold cpL
      rw [Int.toNat_natCast, Int.toNat_natCast, tab_getD d2]
    rw [hcl] at hg
    have hdm := domB_get hdom (i := j / behN sh k % l) (by simpa using d2)
    have hjM : j / behN sh k ≤ 1000 := Nat.le_trans (Nat.div_le_self _ _) (by omega)
    have hjL : j / behN sh k / l ≤ 1000 := Nat.le_trans (Nat.div_le_self _ _) hjM
    rw [impl_view_copied.s0, List.length_replicate, hv, dlt hj, decide_eq_false (p := ((behN sh k : Nat) : Int) = 0) (by omega), decide_eq_false (p := ((l : Nat) : Int) = 0) (by omega), tdivN, wN (n := j / behN sh k) (by omega), tmodN, tmodN, hdm, tdivN, wN (n := j / behN sh k / l) (by omega), w1 (j := j) (by omega)]
    simp only [cond_true, cond_false]
    generalize hG : G [Q.i ((j / behN sh k % l : Nat) : Int)] = g
    unfold cpF at hg
    rw [hG] at hg
    by_cases h0 : 0 ≤ g
    · by_cases h1 : g < ((lenN sh k : Nat) : Int)
      · obtain ⟨p, rfl⟩ : ∃ p : Nat, g = p := ⟨g.toNat, by omega⟩
        have hpl : p < lenN sh k := by omega
        obtain ⟨e2, _, _, _⟩ := enc3 d1 hpl d3
        have hx : j / behN sh k / l * lenN sh k + p ≤ 1000000000 := by
          have h1 := ax.len_le
          have : j / behN sh k / l * lenN sh k ≤ 1000 * 60 := Nat.mul_le_mul hjL h1
          omega
        rw [decide_eq_true h0, decide_eq_true h1, wIdx hx (by omega), idx_nat (by omega), idx_nat (by omega)]
        simp only [cond_true, Option.bind_some, getD_get (show (j / behN sh k / l * lenN sh k + p) * behN sh k + j % behN sh k < da.length by omega), show j < out.length by omega, decide_true]
        refine ⟨_, ?_, rfl⟩
        rw [ho, part_set (by omega)]
        rw [hg]
        simp [atV, h1]
      · rw [decide_eq_true h0, decide_eq_false h1]
        refine ⟨_, ?_, rfl⟩
        rw [ho, part_same (by omega)]
        rw [hg]
        simp [atV, h1]
    · rw [decide_eq_false h0]
      refine ⟨_, ?_, rfl⟩
      rw [ho, part_same (by omega)]
      rw [hg]
      simp [atV, h0]
theorem impl_view_copied.ok : CallSpec Try.prog impl_view_copied.E := impl_view_copied.ok_of (by simp [impl_view_copied.X, impl_copyList.ok, impl_layoutOf_j.ok]) fun sh da k len dom G h => by
  obtain ⟨F, hF⟩ : ∃ F : Nat, 60 < F := ⟨61, by omega⟩
  refine ⟨F, ?_⟩
  simp only [Bool.and_eq_true, axB] at h
  obtain ⟨e1, e2⟩ := axOk_nat h.1.2
  have hv := validA_inv h.1.1
  have ax := ax_of hv.1 e2
  have hd := ax_data h.1.1 e2
  have hr := ax.rank
  rw [impl_view_copied.e, szB_of (xs := sh) (by omega)]
  simp only [cpS, cpD, cpB]
  generalize k.toNat = j at *
  subst e1
  rw [idx_nat e2]
  simp only [cond_true, Option.bind_some, e2, decide_true]
  rw [lt_of (xs := sh.set j len) (by simp; omega), cond_true]
  cases hs : validS (sh.set j len) with
  | false => rfl
  | true =>
    have ax2 := ax_of hs (k := j) (by simpa using e2)
    have hb := vol_bd hs
    have hbnd := allB_get ax2.bnd ax2.lt
    have hl0 : (sh.set j len).getD j 0 = len := by simp [e2]
    rw [hl0] at hbnd
    obtain ⟨l, rfl⟩ : ∃ l : Nat, len = l := ⟨len.toNat, by omega⟩
    have hst := strd_beh ax2
    have hvol := ax2.vol
    have hle := ax2.le
    rw [len_set e2, bef_set, beh_set, Int.toNat_natCast] at hvol hle
    rw [beh_set] at hst
    have al : AlOk sh j (cpL sh j l G) := by
      have hll : (cpL sh j l G).length = l := by simp [cpL, tab_length]
      refine ⟨by omega, by rw [hll]; exact hle, fun p hp => ?_⟩
      simp only [cpL, tab, List.mem_map, List.mem_range, Int.toNat_natCast] at hp
      obtain ⟨i, hi, rfl⟩ := hp
      unfold cpF
      by_cases h0 : 0 ≤ G [.i (i : Int)]
      · by_cases h1 : G [.i (i : Int)] < ((lenN sh j : Nat) : Int)
        · simp only [decide_eq_true h0, decide_eq_true h1, Bool.and_self, cond_true]; exact h1
        · simp only [decide_eq_true h0, decide_eq_false h1, Bool.and_false, cond_false]; omega
      · simp only [decide_eq_false h0, Bool.false_and, cond_false]; omega
    have key := impl_view_copied.loop F sh da j l dom G ax hd al h.2 (by rw [hvol]; rfl) (by omega)
    rw [mkOk hb.1 (by omega)]
    simp only [cond_true]
    match j, e2, hst, key with
    | 0, e2, hst, key => rw [decide_eq_true (p := ((0 : Nat) : Int) = ((0 : Nat) : Int)) rfl, hst, getD_get e2, ax.len]; exact key
    | 1, e2, hst, key => rw [decide_eq_false (p := ((1 : Nat) : Int) = ((0 : Nat) : Int)) (by omega), decide_eq_true (p := ((1 : Nat) : Int) = ((1 : Nat) : Int)) rfl, hst, getD_get e2, ax.len]; exact key
    | 2, e2, hst, key => rw [decide_eq_false (p := ((2 : Nat) : Int) = ((0 : Nat) : Int)) (by omega), decide_eq_false (p := ((2 : Nat) : Int) = ((1 : Nat) : Int)) (by omega), decide_eq_true (p := ((2 : Nat) : Int) = ((2 : Nat) : Int)) rfl, hst, getD_get e2, ax.len]; exact key
    | j + 3, e2, _, _ => exact absurd e2 (by omega)

namespace impl_withPlaces
noncomputable def E : Entry := ⟨38, false, false, fun | [.d (.agg [(.ints .i64 sh), (.ints .i64 da)]), .d (.int .i64 k), .d (.ints .i64 ls)] => axB sh da k && szB ls | _ => false, fun | [.d (.agg [(.ints .i64 sh), (.ints .i64 da)]), .d (.int .i64 k), .d (.ints .i64 ls)] => ([.agg [((.ints .i64 (wpS sh k ls)), true), ((.ints .i64 (wpD sh da k ls)), true)], .one ((.bool (wpB sh k ls)), false)], []) | _ => ([], []), fun _ => [], true, fun _ => none⟩
end impl_withPlaces
namespace impl_withPlaces
noncomputable def X : List Entry := [impl_withPlaces_1.E, impl_view_copied.E]
noncomputable def I : List Inl := [⟨38, Try.f38, ⟨[16], [], [(1, [5])], [], [], []⟩⟩]
theorem I_ok : ∀ i ∈ I, Try.prog.funcs[i.f]? = some i.fn ∧ (i.fn.name == "runtime.NumGoroutine") = false := by
  intro i hi
  simp only [I, List.mem_cons, List.not_mem_nil, or_false] at hi
  subst hi
  exact ⟨by kernel_rfl, by kernel_rfl⟩
theorem e (fuel : Nat) (p0q0 : List Int) (p0q1 : List Int) (p1 : Int) (p2 : List Int) : runF Try.prog X I 0 fuel 38 Try.f38 [.d (.agg [(.ints .i64 p0q0), (.ints .i64 p0q1)]), .d (.int .i64 p1), .d (.ints .i64 p2)] =
  (bif axB p0q0 p0q1 p1 && domB (((p2.length : Nat) : Int)) ((lsQ p2)) then
  some ([.agg [((.ints .i64 (cpS p0q0 p1 (((p2.length : Nat) : Int)))), true), ((.ints .i64 (cpD p0q0 p0q1 p1 (((p2.length : Nat) : Int)) ((q1v (lsI p2))))), true)], .one ((.bool (cpB p0q0 p1 (((p2.length : Nat) : Int)))), false)], [])
  else
  none) := by kernel_rfl
end impl_withPlaces
theorem impl_withPlaces.ok_of (hX : ∀ E ∈ impl_withPlaces.X, CallSpec Try.prog E) (h : ∀ (sh : List Int) (da : List Int) (k : Int) (ls : List Int), (axB sh da k && szB ls) = true → ∃ fuel, runF Try.prog impl_withPlaces.X impl_withPlaces.I 0 fuel 38 Try.f38 [.d (.agg [(.ints .i64 sh), (.ints .i64 da)]), .d (.int .i64 k), .d (.ints .i64 ls)] = some ([.agg [((.ints .i64 (wpS sh k ls)), true), ((.ints .i64 (wpD sh da k ls)), true)], .one ((.bool (wpB sh k ls)), false)], [])) : CallSpec Try.prog impl_withPlaces.E :=
  callSpec_of (d := 0) hX (by kernel_rfl) impl_withPlaces.I_ok (by kernel_rfl) (by kernel_rfl) (by kernel_rfl) (fun _ _ _ _ h => by dsimp only [impl_withPlaces.E] at h; cases h) (fun xs hp => by
    dsimp only [impl_withPlaces.E] at hp ⊢
    split at hp
    · exact h _ _ _ _ hp
    · cases hp)
theorem impl_withPlaces.ok : CallSpec Try.prog impl_withPlaces.E := impl_withPlaces.ok_of (by simp [impl_withPlaces.X, impl_withPlaces_1.ok, impl_view_copied.ok]) fun sh da k ls h => ⟨0, by
  simp only [Bool.and_eq_true] at h
  rw [impl_withPlaces.e, h.1, ls_dom]
  rfl⟩

namespace impl_ExpandAxis
noncomputable def E : Entry := ⟨10, false, false, fun | [.d (.agg [(.ints .i64 sh), (.ints .i64 da)]), .d (.int .i64 k), .d (.ints .i64 mk)] => decide (sh.length < 9223372036854775808) && decide (da.length < 9223372036854775808) && szB mk | _ => false, fun | [.d (.agg [(.ints .i64 sh), (.ints .i64 da)]), .d (.int .i64 k), .d (.ints .i64 mk)] => ([.agg [((.ints .i64 (exS sh da k mk)), true), ((.ints .i64 (exD sh da k mk)), true)], .one ((.bool (exB sh da k mk)), false)], []) | _ => ([], []), fun _ => [], true, fun _ => none⟩
end impl_ExpandAxis
namespace impl_ExpandAxis
noncomputable def X : List Entry := [impl_axisLength.E, impl_withPlaces.E]
noncomputable def I : List Inl := [⟨10, Try.f10, ⟨[56], [(1000007, [0, 2, 4, 5, 7, 9, 12, 13, 14, 15, 16, 17, 18, 19, 20, 21, 22, 23, 24, 25, 29, 30, 31, 32, 33, 34, 35, 36, 37, 38, 39, 40, 41, 42, 43, 44, 45, 46, 47, 48, 49, 50, 51, 52, 53, 54, 55, 56, 57, 58])], [], [], [], []⟩⟩]
theorem I_ok : ∀ i ∈ I, Try.prog.funcs[i.f]? = some i.fn ∧ (i.fn.name == "runtime.NumGoroutine") = false := by
  intro i hi
  simp only [I, List.mem_cons, List.not_mem_nil, or_false] at hi
  subst hi
  exact ⟨by kernel_rfl, by kernel_rfl⟩
noncomputable abbrev L0 (fuel n : Nat) (s : St) (k : Kont) := lAt Try.prog X I fuel true 0 false 10 (bodyOf Try.f10) [1, 1, 1, 1, 1, 0, 1, 0] n s k
noncomputable abbrev k0  (fuel : Nat) : Kont := (kAt Try.prog X I fuel true 0 false 10 (bodyOf Try.f10) [1, 1, 1, 1, 1, 0, 1, 0] [] (endK Try.prog Try.f10))
noncomputable def t0 (p1 : Int) (p0q0 : List Int) (p0q1 : List Int) (p2 : List Int) (x0q2 : Int) (x0q5 : Int) (x0q8 : List Int) : St := ⟨[.dead, (.imm (.int .i64 p1)), .dead, (.ptr 1000000000 0 0), .dead, .dead, (.ptr 1000000001 0 0), .dead, (.imm (.int .i64 (axL p0q0 p0q1 p1))), .dead, (.all 1000000002 1), (.imm (.int .i64 x0q2)), .dead, .dead, .dead, .dead, .dead, .dead, .dead, .dead, .dead, .dead, .dead, .dead, .dead, .dead, (.imm (.ints .i64 p2)), (.imm (.int .i64 ((p2.length : Nat) : Int))), (.imm (.int .i64 x0q5)), .dead, .dead, .dead, .dead, .dead, .dead, .dead, .dead, .dead, .dead, .dead, .dead, .dead, .dead, .dead, .dead, .dead, .dead, .dead, .dead, .dead, .dead, .dead, .dead, .dead, .dead, .dead, .dead, .dead, .dead], hOf [(1000000000, (.box [(.imm (.ints .i64 p0q0)), (.imm (.ints .i64 p0q1))])), (1000000001, (.box [(.imm .nils), (.imm .nils)])), (1000000002, (.ints .i64 x0q8))], [], []⟩
theorem e (fuel : Nat) (p0q0 : List Int) (p0q1 : List Int) (p1 : Int) (p2 : List Int) : runF Try.prog X I 0 fuel 10 Try.f10 [.d (.agg [(.ints .i64 p0q0), (.ints .i64 p0q1)]), .d (.int .i64 p1), .d (.ints .i64 p2)] =
  (bif decide (p0q0.length < 9223372036854775808) && decide (p0q1.length < 9223372036854775808) then
  (bif (!(axB p0q0 p0q1 p1)) then
  some ([.agg [((.ints .i64 []), true), ((.ints .i64 []), true)], .one ((.bool false), false)], [])
  else
  (bif decide (0 ≤ (((p2.length : Nat) : Int) : Int)) && decide ((((p2.length : Nat) : Int) : Int) ≤ ((p2.length : Nat) : Int)) && decide ((((p2.length : Nat) : Int) : Int) ≤ 1152921504606846976) && decide (((8 : Nat) : Int) * ((p2.length : Nat) : Int) ≤ 281474976710656) then
  L0 fuel fuel (t0 p1 p0q0 p0q1 p2 0 0 ((List.replicate (((p2.length : Nat) : Int)).toNat (0 : Int)))) (k0  fuel)
  else
  none))
  else
  none) := by kernel_rfl
theorem s0 (fuel n0 : Nat) (p1 : Int) (p0q0 : List Int) (p0q1 : List Int) (p2 : List Int) (x0q2 : Int) (x0q5 : Int) (x0q8 : List Int) : L0 fuel (n0 + 1) (t0 p1 p0q0 p0q1 p2 x0q2 x0q5 x0q8) (k0  fuel) =
  (bif (decide ((x0q5 : Int) < ((p2.length : Nat) : Int))) then
  (idx x0q5 p2.length).bind fun j9 =>
  (p2[j9]?).bind fun v10 =>
  (bif ((v10 : Int) == 0) then
  (idx x0q5 x0q8.length).bind fun j11 =>
  (bif decide (j11 < x0q8.length) then
  L0 fuel n0 (t0 p1 p0q0 p0q1 p2 x0q2 ((IntKind.wrap .i64 (x0q5 + 1))) ((x0q8.set j11 (-1)))) (k0  fuel)
  else
  none)
  else
  (bif ((v10 : Int) == 1) then
  (idx x0q5 x0q8.length).bind fun j12 =>
  (bif decide (j12 < x0q8.length) then
  L0 fuel n0 (t0 p1 p0q0 p0q1 p2 ((IntKind.wrap .i64 (x0q2 + 1))) ((IntKind.wrap .i64 (x0q5 + 1))) ((x0q8.set j12 x0q2))) (k0  fuel)
  else
  none)
  else
  some ([.agg [((.ints .i64 []), true), ((.ints .i64 []), true)], .one ((.bool false), false)], [])))
  else
  (bif ((x0q2 : Int) != (axL p0q0 p0q1 p1)) then
  some ([.agg [((.ints .i64 []), true), ((.ints .i64 []), true)], .one ((.bool false), false)], [])
  else
  (bif axB p0q0 p0q1 p1 && szB x0q8 then
  some ([.agg [((.ints .i64 (wpS p0q0 p1 x0q8)), true), ((.ints .i64 (wpD p0q0 p0q1 p1 x0q8)), true)], .one ((.bool (wpB p0q0 p1 x0q8)), false)], [])
  else
  none))) := by kernel_rfl
end impl_ExpandAxis
theorem impl_ExpandAxis.ok_of (hX : ∀ E ∈ impl_ExpandAxis.X, CallSpec Try.prog E) (h : ∀ (sh : List Int) (da : List Int) (k : Int) (mk : List Int), (decide (sh.length < 9223372036854775808) && decide (da.length < 9223372036854775808) && szB mk) = true → ∃ fuel, runF Try.prog impl_ExpandAxis.X impl_ExpandAxis.I 0 fuel 10 Try.f10 [.d (.agg [(.ints .i64 sh), (.ints .i64 da)]), .d (.int .i64 k), .d (.ints .i64 mk)] = some ([.agg [((.ints .i64 (exS sh da k mk)), true), ((.ints .i64 (exD sh da k mk)), true)], .one ((.bool (exB sh da k mk)), false)], [])) : CallSpec Try.prog impl_ExpandAxis.E :=
  callSpec_of (d := 0) hX (by kernel_rfl) impl_ExpandAxis.I_ok (by kernel_rfl) (by kernel_rfl) (by kernel_rfl) (fun _ _ _ _ h => by dsimp only [impl_ExpandAxis.E] at h; cases h) (fun xs hp => by
    dsimp only [impl_ExpandAxis.E] at hp ⊢
    split at hp
    · exact h _ _ _ _ hp
    · cases hp)
theorem impl_ExpandAxis.ok : CallSpec Try.prog impl_ExpandAxis.E := impl_ExpandAxis.ok_of (by simp [impl_ExpandAxis.X, impl_axisLength.ok, impl_withPlaces.ok]) fun sh da k mk h => by
  obtain ⟨F, hF⟩ : ∃ F : Nat, mk.length < F := ⟨mk.length + 1, by omega⟩
  refine ⟨F, ?_⟩
  simp only [Bool.and_eq_true] at h
  have hz := szB_le h.2
  rw [impl_ExpandAxis.e, h.1.1, h.1.2]
  cases hb : axB sh da k with
  | false =>
    have : exB sh da k mk = false := by simp only [exB, hb, Bool.false_and]
    simp only [exS, exD, this]
    rfl
  | true =>
    obtain ⟨j, rfl, hj, hv, ax, hd, hl⟩ := axB_inv hb
    have hL := ax.len_le
    have hr := ax.rank
    have hlen := exL_length mk
    rw [mkOk (by omega) (by omega), Int.toNat_natCast]
    simp only [cond_true, Bool.and_self, Bool.not_true, cond_false]
    refine cnt_loop (N := mk.length) (fun n i (s : Int × List Int) => impl_ExpandAxis.L0 F n (impl_ExpandAxis.t0 (j : Int) sh da mk s.1 (i : Int) s.2) (impl_ExpandAxis.k0 F)) (fun i s => s.1 = ((exN mk i : Nat) : Int) ∧ s.2 = part (exL mk) i ∧ ∀ q, q < i → 0 ≤ mk.getD q 0 ∧ mk.getD q 0 ≤ 1) ?_ ?_ F 0 (0, _) (by omega) (by omega) ⟨rfl, by rw [part_zero, hlen], fun q hq => absurd hq (by omega)⟩
    · rintro n ⟨c, out⟩ ⟨e1, e2, e3⟩
      simp only at e1 e2
      have hall := part_all (exL mk)
      rw [hlen] at hall
      rw [hall] at e2
      subst e1
      subst e2
      have ht : allB mk 0 1 = true := allB_iff.2 fun v hv => by
        obtain ⟨i, hi, rfl⟩ := List.getElem_of_mem hv
        have := e3 i hi
        simpa [hi] using this
      dsimp only
      rw [impl_ExpandAxis.s0, dge (by omega), cond_false, hl]
      by_cases c1 : exN mk mk.length = lenN sh j
      · have hB : exB sh da (j : Int) mk = validS (alS sh j (exL mk)) := by
          simp only [exB, hb, ht, Int.toNat_natCast, decide_eq_true c1, Bool.true_and]
        obtain ⟨w1, w2, w3⟩ := wp_eq (sh := sh) (da := da) (ls := exL mk) (j := j) fun x hx => by rw [← c1]; exact exL_mem hx
        rw [show (((exN mk mk.length : Nat) : Int) != ((lenN sh j : Nat) : Int)) = false by simp [c1], cond_false, hb, szB_of (xs := exL mk) (by omega), w1, w2, w3]
        unfold exS exD
        rw [hB]
        rfl
      · have : exB sh da (j : Int) mk = false := by simp only [exB, Int.toNat_natCast, decide_eq_false c1, Bool.and_false, Bool.false_and]
        rw [show (((exN mk mk.length : Nat) : Int) != ((lenN sh j : Nat) : Int)) = true by simp; omega]
        simp only [exS, exD, this]
        rfl
    · rintro n i ⟨c, out⟩ hi ⟨e1, e2, e3⟩
      simp only at e1 e2
      subst e1
      have hx := exN_le mk i
      have hol : out.length = mk.length := by rw [e2, part_length (by omega), hlen]
      have hg : (exL mk).getD i 0 = bif mk.getD i 0 == 1 then ((exN mk i : Nat) : Int) else -1 := tab_getD hi
      dsimp only
      rw [impl_ExpandAxis.s0, dlt hi, cond_true, idx_nat hi, w1 (by omega), w1 (by omega), idx_nat (by omega)]
      simp only [Option.bind_some, getD_get hi]
      rw [decide_eq_true (p := i < out.length) (by omega)]
      cases h0 : (mk.getD i 0 == 0) with
      | true =>
        have hm : mk.getD i 0 = 0 := by simpa using h0
        have h1 : (mk.getD i 0 == 1) = false := by rw [hm]; rfl
        refine .inr ⟨(((exN mk i : Nat) : Int), out.set i (-1)), ⟨by simp only [exN, h1, cond_false], ?_, fun q hq => ?_⟩, rfl⟩
        · simp only
          rw [e2, part_set (by omega)]
          rw [hg, h1]; rfl
        · by_cases e : q = i
          · subst e; omega
          · exact e3 q (by omega)
      | false =>
        cases h1 : (mk.getD i 0 == 1) with
        | true =>
          have hm : mk.getD i 0 = 1 := by simpa using h1
          refine .inr ⟨(((exN mk i + 1 : Nat) : Int), out.set i ((exN mk i : Nat) : Int)), ⟨by simp only [exN, h1, cond_true], ?_, fun q hq => ?_⟩, rfl⟩
          · simp only
            rw [e2, part_set (by omega)]
            rw [hg, h1]; rfl
          · by_cases e : q = i
            · subst e; omega
            · exact e3 q (by omega)
        | false =>
          refine .inl ?_
          have : exB sh da (j : Int) mk = false := by
            have ha : allB mk 0 1 = false := by
              rw [Bool.eq_false_iff]
              intro ha
              have := allB_inv ha hi
              have g0 : mk.getD i 0 ≠ 0 := by simpa using h0
              have g1 : mk.getD i 0 ≠ 1 := by simpa using h1
              omega
            simp only [exB, ha, Bool.and_false, Bool.false_and]
          simp only [exS, exD, this]
          rfl

namespace spec_around
noncomputable def E : Entry := ⟨68, true, false, fun | [.d (.ints .i64 sh), .d (.int .i64 k)] => validS sh && axOk sh k | _ => false, fun | [.d (.ints .i64 sh), .d (.int .i64 k)] => ([.one ((.int .i64 ((befN sh k.toNat : Nat) : Int)), false), .one ((.int .i64 ((behN sh k.toNat : Nat) : Int)), false)], []) | _ => ([], []), fun _ => [], false, fun _ => none⟩
end spec_around
namespace spec_around
noncomputable def X : List Entry := [spec_volume.E]
noncomputable def I : List Inl := [⟨68, Try.f68, ⟨[], [], [], [(1, [0, 1, 4, 5, 6, 2, 3, 7, 8, 9, 10])], [], []⟩⟩]
theorem I_ok : ∀ i ∈ I, Try.prog.funcs[i.f]? = some i.fn ∧ (i.fn.name == "runtime.NumGoroutine") = false := by
  intro i hi
  simp only [I, List.mem_cons, List.not_mem_nil, or_false] at hi
  subst hi
  exact ⟨by kernel_rfl, by kernel_rfl⟩
theorem e (fuel : Nat) (p0 : List Int) (p1 : Int) : runF Try.prog X I 0 fuel 68 Try.f68 [.d (.ints .i64 p0), .d (.int .i64 p1)] =
  (cutEnds p0.length (none) (some (.imm (.int .i64 p1)))).bind fun cq1 =>
  (bif decide ((((p0.drop cq1.1).take (cq1.2 - cq1.1))).length < 9223372036854775808) then
  (cutEnds p0.length (some (.imm (.int .i64 (IntKind.wrap .i64 (p1 + 1))))) (none)).bind fun cq2 =>
  (bif decide ((((p0.drop cq2.1).take (cq2.2 - cq2.1))).length < 9223372036854775808) then
  some ([.one ((.int .i64 (volW (((p0.drop cq1.1).take (cq1.2 - cq1.1))))), false), .one ((.int .i64 (volW (((p0.drop cq2.1).take (cq2.2 - cq2.1))))), false)], [])
  else
  none)
  else
  none) := by kernel_rfl
end spec_around
theorem spec_around.ok_of (hX : ∀ E ∈ spec_around.X, CallSpec Try.prog E) (h : ∀ (sh : List Int) (k : Int), (validS sh && axOk sh k) = true → ∃ fuel, runF Try.prog spec_around.X spec_around.I 0 fuel 68 Try.f68 [.d (.ints .i64 sh), .d (.int .i64 k)] = some ([.one ((.int .i64 ((befN sh k.toNat : Nat) : Int)), false), .one ((.int .i64 ((behN sh k.toNat : Nat) : Int)), false)], [])) : CallSpec Try.prog spec_around.E :=
  callSpec_of (d := 0) hX (by kernel_rfl) spec_around.I_ok (by kernel_rfl) (by kernel_rfl) (by kernel_rfl) (fun _ _ _ _ h => by dsimp only [spec_around.E] at h; cases h) (fun xs hp => by
    dsimp only [spec_around.E] at hp ⊢
    split at hp
    · exact h _ _ hp
    · cases hp)
theorem spec_around.ok : CallSpec Try.prog spec_around.E := spec_around.ok_of (by simp [spec_around.X, spec_volume.ok]) fun sh k h => ⟨0, by
  rw [spec_around.e]
  simp only [Bool.and_eq_true] at h
  obtain ⟨e1, e2⟩ := axOk_nat h.2
  have ax := ax_of h.1 e2
  have hr := ax.rank
  generalize k.toNat = j at *
  subst e1
  rw [cut_hi (by omega), w1 (by omega), cut_lo (by omega)]
  simp only [Option.bind_some, List.drop_zero, Nat.sub_zero, drop_take]
  rw [lt_of (by simp; omega), lt_of (by simp; omega), ax.bef, ax.beh]
  rfl⟩

namespace spec_along
noncomputable def E : Entry := ⟨42, false, false, fun | [.d (.agg [(.ints .i64 sh), (.ints .i64 da)]), .d (.int .i64 k), .d (.ints .i64 ls)] => axB sh da k && alP sh k ls | _ => false, fun | [.d (.agg [(.ints .i64 sh), (.ints .i64 da)]), .d (.int .i64 k), .d (.ints .i64 ls)] => ([.agg [((.ints .i64 (alS sh k ls)), true), ((.ints .i64 (alA sh da k ls)), true)]], []) | _ => ([], []), fun _ => [], true, fun _ => none⟩
end spec_along
namespace spec_along
noncomputable def X : List Entry := [spec_copyInts.E, spec_around.E, spec_make1.E]
noncomputable def I : List Inl := [⟨42, Try.f42, ⟨[17, 78], [(1000006, [0, 4, 5, 12, 13, 14, 15, 16, 17, 18, 19, 20, 21, 22, 23, 24, 25, 26, 27, 28, 29, 30, 31, 32, 33, 34, 35, 36, 37, 38, 39, 40, 41, 42, 43, 44, 45, 46, 47, 48, 49, 50, 51, 52, 53, 54, 55, 56, 57, 58, 59, 60, 61, 62, 63, 64, 65, 66, 67, 68, 69, 70, 71, 72, 73, 74, 75, 76, 77, 78]), (1000009, [0, 4, 5, 13, 14, 15, 16, 17, 18, 19, 20, 21, 22, 23, 24, 25, 26, 27, 28, 29, 30, 31, 32, 33, 34, 35, 36, 37, 38, 39, 40, 41, 42, 43, 44, 45, 46, 47, 48, 49, 50, 51, 52, 53, 54, 55, 56, 57, 58, 59, 60, 61, 62, 63, 64, 65, 66, 67, 68, 69, 70, 71, 72, 73, 74, 75, 76, 77, 78]), (1000012, [0, 4, 5, 14, 15, 16, 17, 18, 19, 20, 21, 22, 23, 24, 25, 26, 27, 28, 29, 30, 31, 32, 33, 34, 35, 36, 37, 38, 39, 40, 41, 42, 43, 44, 45, 46, 47, 48, 49, 50, 51, 52, 53, 54, 55, 56, 57, 58, 59, 60, 61, 62, 63, 64, 65, 66, 67, 68, 69, 70, 71, 72, 73, 74, 75, 76, 77, 78])], [], [(16, [0, 2, 3, 5, 9, 10, 14, 16, 1, 4, 6, 7, 8, 11, 12, 13, 15, 17, 18, 19, 20])], [], []⟩⟩]
theorem I_ok : ∀ i ∈ I, Try.prog.funcs[i.f]? = some i.fn ∧ (i.fn.name == "runtime.NumGoroutine") = false := by
  intro i hi
  simp only [I, List.mem_cons, List.not_mem_nil, or_false] at hi
  subst hi
  exact ⟨by kernel_rfl, by kernel_rfl⟩
noncomputable abbrev L0 (fuel n : Nat) (s : St) (k : Kont) := lAt Try.prog X I fuel true 0 false 42 (bodyOf Try.f42) [1, 1, 1, 1, 1, 0, 1, 0] n s k
noncomputable abbrev k0  (fuel : Nat) : Kont := (kAt Try.prog X I fuel true 0 false 42 (bodyOf Try.f42) [1, 1, 1, 1, 1, 0, 1, 0] [] (endK Try.prog Try.f42))
noncomputable def t0 (p1 : Int) (p2 : List Int) (p0q0 : List Int) (p0q1 : List Int) (j1 : Nat) (x0q4 : Int) (x0q8 : List Int) : St := ⟨[.dead, (.imm (.int .i64 p1)), (.imm (.ints .i64 p2)), (.ptr 1000000000 0 0), .dead, .dead, (.ptr 1000000001 0 0), (.all 1000000002 1), (.imm (.int .i64 ((befN p0q0 p1.toNat : Nat) : Int))), (.imm (.int .i64 ((behN p0q0 p1.toNat : Nat) : Int))), (.all 1000000003 1), (.imm (.int .i64 x0q4)), .dead, .dead, .dead, .dead, .dead, .dead, .dead, .dead, .dead, .dead, .dead, .dead, .dead, .dead, .dead, .dead, .dead, .dead, .dead, .dead, .dead, .dead, .dead, .dead, .dead, .dead, .dead, .dead, .dead, .dead, .dead, .dead, .dead, .dead, .dead, .dead, .dead, .dead, .dead, .dead, .dead, .dead, .dead, .dead, .dead, .dead, .dead, .dead, .dead, .dead, .dead, .dead, .dead, .dead, .dead, .dead, .dead, .dead, .dead, .dead, .dead, .dead, .dead, .dead, .dead, .dead, .dead], hOf [(1000000000, (.box [(.imm (.ints .i64 p0q0)), (.imm (.ints .i64 p0q1))])), (1000000001, (.box [(.imm .nils), (.imm .nils)])), (1000000002, (.ints .i64 (p0q0.set j1 ((p2.length : Nat) : Int)))), (1000000003, (.ints .i64 x0q8))], [], []⟩
noncomputable abbrev L1 (fuel n : Nat) (s : St) (k : Kont) := lAt Try.prog X I fuel true 0 false 42 (bodyOf Try.f42) [1, 1, 1, 1, 1, 0, 1, 0, 0, 1, 0, 0, 1, 0] n s k
noncomputable abbrev k1 (n0 : Nat) (fuel : Nat) : Kont := (kAt Try.prog X I fuel true 0 false 42 (bodyOf Try.f42) [1, 1, 1, 1, 1, 0, 1, 0, 0, 1, 0, 0, 1, 0] [n0] (endK Try.prog Try.f42))
noncomputable def t1 (p1 : Int) (p2 : List Int) (p0q0 : List Int) (x0q4 : Int) (p0q1 : List Int) (j1 : Nat) (x1q5 : Int) (x1q9 : List Int) : St := ⟨[.dead, (.imm (.int .i64 p1)), (.imm (.ints .i64 p2)), (.ptr 1000000000 0 0), .dead, .dead, (.ptr 1000000001 0 0), (.all 1000000002 1), (.imm (.int .i64 ((befN p0q0 p1.toNat : Nat) : Int))), (.imm (.int .i64 ((behN p0q0 p1.toNat : Nat) : Int))), (.all 1000000003 1), (.imm (.int .i64 x0q4)), (.imm (.int .i64 x1q5)), .dead, .dead, .dead, .dead, .dead, .dead, .dead, .dead, .dead, .dead, .dead, .dead, .dead, .dead, .dead, .dead, .dead, .dead, .dead, .dead, .dead, .dead, .dead, .dead, .dead, .dead, .dead, .dead, .dead, .dead, .dead, .dead, .dead, .dead, .dead, .dead, .dead, .dead, .dead, .dead, .dead, .dead, .dead, .dead, .dead, .dead, .dead, .dead, .dead, .dead, .dead, .dead, .dead, .dead, .dead, .dead, .dead, .dead, .dead, .dead, .dead, .dead, .dead, .dead, .dead, .dead], hOf [(1000000000, (.box [(.imm (.ints .i64 p0q0)), (.imm (.ints .i64 p0q1))])), (1000000001, (.box [(.imm .nils), (.imm .nils)])), (1000000002, (.ints .i64 (p0q0.set j1 ((p2.length : Nat) : Int)))), (1000000003, (.ints .i64 x1q9))], [], []⟩
noncomputable abbrev L2 (fuel n : Nat) (s : St) (k : Kont) := lAt Try.prog X I fuel true 0 false 42 (bodyOf Try.f42) [1, 1, 1, 1, 1, 0, 1, 0, 0, 1, 0, 0, 1, 0, 0, 1, 0, 0, 1, 0] n s k
noncomputable abbrev k2 (n0 : Nat) (n1 : Nat) (fuel : Nat) : Kont := (kAt Try.prog X I fuel true 0 false 42 (bodyOf Try.f42) [1, 1, 1, 1, 1, 0, 1, 0, 0, 1, 0, 0, 1, 0, 0, 1, 0, 0, 1, 0] [n0, n1] (endK Try.prog Try.f42))
noncomputable def t2 (p1 : Int) (p2 : List Int) (p0q0 : List Int) (x0q4 : Int) (x1q5 : Int) (p0q1 : List Int) (j1 : Nat) (x2q6 : Int) (x2q10 : List Int) : St := ⟨[.dead, (.imm (.int .i64 p1)), (.imm (.ints .i64 p2)), (.ptr 1000000000 0 0), .dead, .dead, (.ptr 1000000001 0 0), (.all 1000000002 1), (.imm (.int .i64 ((befN p0q0 p1.toNat : Nat) : Int))), (.imm (.int .i64 ((behN p0q0 p1.toNat : Nat) : Int))), (.all 1000000003 1), (.imm (.int .i64 x0q4)), (.imm (.int .i64 x1q5)), (.imm (.int .i64 x2q6)), .dead, .dead, .dead, .dead, .dead, .dead, .dead, .dead, .dead, .dead, .dead, .dead, .dead, .dead, .dead, .dead, .dead, .dead, .dead, .dead, .dead, .dead, .dead, .dead, .dead, .dead, .dead, .dead, .dead, .dead, .dead, .dead, .dead, .dead, .dead, .dead, .dead, .dead, .dead, .dead, .dead, .dead, .dead, .dead, .dead, .dead, .dead, .dead, .dead, .dead, .dead, .dead, .dead, .dead, .dead, .dead, .dead, .dead, .dead, .dead, .dead, .dead, .dead, .dead, .dead], hOf [(1000000000, (.box [(.imm (.ints .i64 p0q0)), (.imm (.ints .i64 p0q1))])), (1000000001, (.box [(.imm .nils), (.imm .nils)])), (1000000002, (.ints .i64 (p0q0.set j1 ((p2.length : Nat) : Int)))), (1000000003, (.ints .i64 x2q10))], [], []⟩
theorem e (fuel : Nat) (p0q0 : List Int) (p0q1 : List Int) (p1 : Int) (p2 : List Int) : runF Try.prog X I 0 fuel 42 Try.f42 [.d (.agg [(.ints .i64 p0q0), (.ints .i64 p0q1)]), .d (.int .i64 p1), .d (.ints .i64 p2)] =
  (bif szB p0q0 then
  (idx p1 p0q0.length).bind fun j1 =>
  (bif decide (j1 < p0q0.length) then
  (bif validS p0q0 && axOk p0q0 p1 then
  L0 fuel fuel (t0 p1 p2 p0q0 p0q1 j1 0 ([])) (k0  fuel)
  else
  none)
  else
  none)
  else
  none) := by kernel_rfl
theorem s0 (fuel n0 : Nat) (p1 : Int) (p2 : List Int) (p0q0 : List Int) (p0q1 : List Int) (j1 : Nat) (x0q4 : Int) (x0q8 : List Int) : L0 fuel (n0 + 1) (t0 p1 p2 p0q0 p0q1 j1 x0q4 x0q8) (k0  fuel) =
  (bif (decide ((x0q4 : Int) < ((befN p0q0 p1.toNat : Nat) : Int))) then
  L1 fuel fuel (t1 p1 p2 p0q0 x0q4 p0q1 j1 0 x0q8) (k1 n0 fuel)
  else
  (bif szB ((p0q0.set j1 ((p2.length : Nat) : Int))) && szB x0q8 then
  some ([.agg [((.ints .i64 ((p0q0.set j1 ((p2.length : Nat) : Int)))), true), ((.ints .i64 x0q8), true)]], [])
  else
  none)) := by kernel_rfl
theorem s1 (fuel n0 n1 : Nat) (p1 : Int) (p2 : List Int) (p0q0 : List Int) (x0q4 : Int) (p0q1 : List Int) (j1 : Nat) (x1q5 : Int) (x1q9 : List Int) : L1 fuel (n1 + 1) (t1 p1 p2 p0q0 x0q4 p0q1 j1 x1q5 x1q9) (k1 n0 fuel) =
  (bif (decide ((x1q5 : Int) < ((p2.length : Nat) : Int))) then
  L2 fuel fuel (t2 p1 p2 p0q0 x0q4 x1q5 p0q1 j1 0 x1q9) (k2 n0 n1 fuel)
  else
  L0 fuel n0 (t0 p1 p2 p0q0 p0q1 j1 ((IntKind.wrap .i64 (x0q4 + 1))) x1q9) (k0  fuel)) := by kernel_rfl
theorem s2 (fuel n0 n1 n2 : Nat) (p1 : Int) (p2 : List Int) (p0q0 : List Int) (x0q4 : Int) (x1q5 : Int) (p0q1 : List Int) (j1 : Nat) (x2q6 : Int) (x2q10 : List Int) : L2 fuel (n2 + 1) (t2 p1 p2 p0q0 x0q4 x1q5 p0q1 j1 x2q6 x2q10) (k2 n0 n1 fuel) =
  (bif (decide ((x2q6 : Int) < ((behN p0q0 p1.toNat : Nat) : Int))) then
  (idx x1q5 p2.length).bind fun j114 =>
  (p2[j114]?).bind fun v115 =>
  (bif (decide ((v115 : Int) ≥ 0)) then
  (idx p1 p0q0.length).bind fun j116 =>
  (p0q0[j116]?).bind fun v117 =>
  (idx x1q5 p2.length).bind fun j118 =>
  (p2[j118]?).bind fun v119 =>
  (idx (IntKind.wrap .i64 ((IntKind.wrap .i64 ((IntKind.wrap .i64 ((IntKind.wrap .i64 (x0q4 * v117)) + v119)) * ((behN p0q0 p1.toNat : Nat) : Int))) + x2q6)) p0q1.length).bind fun j120 =>
  (p0q1[j120]?).bind fun v121 =>
  (bif fits (x2q10.length + ([v121] : List Int).length) 8 then
  L2 fuel n2 (t2 p1 p2 p0q0 x0q4 x1q5 p0q1 j1 ((IntKind.wrap .i64 (x2q6 + 1))) ((x2q10 ++ [v121]))) (k2 n0 n1 fuel)
  else
  none)
  else
  (bif fits (x2q10.length + ([0] : List Int).length) 8 then
  L2 fuel n2 (t2 p1 p2 p0q0 x0q4 x1q5 p0q1 j1 ((IntKind.wrap .i64 (x2q6 + 1))) ((x2q10 ++ [0]))) (k2 n0 n1 fuel)
  else
  none))
  else
  L1 fuel n1 (t1 p1 p2 p0q0 x0q4 p0q1 j1 ((IntKind.wrap .i64 (x1q5 + 1))) x2q10) (k1 n0 fuel)) := by kernel_rfl
end spec_along
theorem spec_along.ok_of (hX : ∀ E ∈ spec_along.X, CallSpec Try.prog E) (h : ∀ (sh : List Int) (da : List Int) (k : Int) (ls : List Int), (axB sh da k && alP sh k ls) = true → ∃ fuel, runF Try.prog spec_along.X spec_along.I 0 fuel 42 Try.f42 [.d (.agg [(.ints .i64 sh), (.ints .i64 da)]), .d (.int .i64 k), .d (.ints .i64 ls)] = some ([.agg [((.ints .i64 (alS sh k ls)), true), ((.ints .i64 (alA sh da k ls)), true)]], [])) : CallSpec Try.prog spec_along.E :=
  callSpec_of (d := 0) hX (by kernel_rfl) spec_along.I_ok (by kernel_rfl) (by kernel_rfl) (by kernel_rfl) (fun _ _ _ _ h => by dsimp only [spec_along.E] at h; cases h) (fun xs hp => by
    dsimp only [spec_along.E] at hp ⊢
    split at hp
    · exact h _ _ _ _ hp
    · cases hp)
theorem spec_along.lp2 (fuel n0 n1 : Nat) (k b j : Nat) (sh da ls : List Int) (ax : Ax sh k) (hd : da.length = befN sh k * lenN sh k * behN sh k) (al : AlOk sh k ls) (hb : b < befN sh k) (hj : j < ls.length) (hf : 3600 < fuel) :
    spec_along.L2 fuel fuel (spec_along.t2 (k : Int) ls sh (b : Int) (j : Int) da k 0 ((alA sh da k ls).take ((b * ls.length + j) * behN sh k))) (spec_along.k2 n0 n1 fuel) =
    spec_along.L1 fuel n1 (spec_along.t1 (k : Int) ls sh (b : Int) da k ((j + 1 : Nat) : Int) ((alA sh da k ls).take ((b * ls.length + (j + 1)) * behN sh k))) (spec_along.k1 n0 fuel) := by
  have hM := ax.beh_le
  have hl := al.len
  have hlen : (alA sh da k ls).length = befN sh k * ls.length * behN sh k := alA_length _ _ _ _
  have hle := al.le
  refine run_loop (N := behN sh k) (fun n m out => spec_along.L2 fuel n (spec_along.t2 (k : Int) ls sh (b : Int) (j : Int) da k (m : Int) out) (spec_along.k2 n0 n1 fuel)) (fun m out => out = (alA sh da k ls).take ((b * ls.length + j) * behN sh k + m)) ?_ ?_ fuel 0 _ (by omega) (by omega) rfl
  · intro n out ho
    rw [spec_along.s2, Int.toNat_natCast, decide_eq_false (p := ((behN sh k : Nat) : Int) < _) (by omega), w1 (j := j) (by omega), ho]
    rw [cond_false, show (b * ls.length + j) * behN sh k + behN sh k = (b * ls.length + (j + 1)) * behN sh k by rw [← Nat.add_assoc, Nat.add_mul, Nat.add_mul, Nat.add_mul, Nat.one_mul]]
  · intro n m out hm ho
    obtain ⟨e1, _, _, _⟩ := enc3 hb hj hm
    have hp := al.lt _ (mem_getD hj)
    have hg : (alA sh da k ls).getD ((b * ls.length + j) * behN sh k + m) 0 = atV (lenN sh k) (behN sh k) da b (ls.getD j 0) m := alA_get hb hj hm
    have hol : out.length ≤ 60 := by rw [ho, take_len (by omega)]; omega
    rw [spec_along.s2, Int.toNat_natCast, decide_eq_true (p := ((m : Nat) : Int) < _) (by omega), idx_nat hj, w1 (j := m) (by omega)]
    simp only [cond_true, Option.bind_some, getD_get hj]
    by_cases h0 : ls.getD j 0 ≥ 0
    · obtain ⟨p, hpp⟩ : ∃ p : Nat, ls.getD j 0 = p := ⟨(ls.getD j 0).toNat, by omega⟩
      rw [hpp] at hg h0 hp ⊢
      have hpl : p < lenN sh k := by omega
      obtain ⟨e2, _, _, _⟩ := enc3 hb hpl hm
      have hlk := ax.lt
      have hdl := ax.le
      have hx : b * lenN sh k + p ≤ 1000000000 := by
        have h1 := ax.len_le
        have h2 := ax.bef_le
        have : b * lenN sh k ≤ 3600 * 60 := Nat.mul_le_mul (by omega) h1
        omega
      simp only [decide_eq_true h0, cond_true, idx_nat hlk, Option.bind_some, getD_get hlk]
      rw [ax.len, wIdx hx (by omega), idx_nat (by omega)]
      simp only [Option.bind_some, getD_get (show (b * lenN sh k + p) * behN sh k + m < da.length by omega)]
      rw [fitsOk (by simp only [List.length_cons, List.length_nil]; omega), cond_true]
      refine ⟨_, ?_, rfl⟩
      have hg2 : atV (lenN sh k) (behN sh k) da b ((p : Nat) : Int) m = da.getD ((b * lenN sh k + p) * behN sh k + m) 0 := by simp [atV]
      rw [ho, ← hg2, take_push (by omega) hg, Nat.add_assoc]
    · simp only [decide_eq_false h0, cond_false]
      rw [fitsOk (by simp only [List.length_cons, List.length_nil]; omega), cond_true]
      refine ⟨_, ?_, rfl⟩
      have hg2 : atV (lenN sh k) (behN sh k) da b (ls.getD j 0) m = 0 := by simp only [atV, decide_eq_false h0, cond_false]
      rw [ho, ← hg2, take_push (by omega) hg, Nat.add_assoc]
theorem spec_along.lp1 (fuel n0 : Nat) (k b : Nat) (sh da ls : List Int) (ax : Ax sh k) (hd : da.length = befN sh k * lenN sh k * behN sh k) (al : AlOk sh k ls) (hb : b < befN sh k) (hf : 3600 < fuel) :
    spec_along.L1 fuel fuel (spec_along.t1 (k : Int) ls sh (b : Int) da k 0 ((alA sh da k ls).take (b * ls.length * behN sh k))) (spec_along.k1 n0 fuel) =
    spec_along.L0 fuel n0 (spec_along.t0 (k : Int) ls sh da k ((b + 1 : Nat) : Int) ((alA sh da k ls).take ((b + 1) * ls.length * behN sh k))) (spec_along.k0 fuel) := by
  have hB := ax.bef_le
  have hl := al.len
  refine run_loop (N := ls.length) (fun n j out => spec_along.L1 fuel n (spec_along.t1 (k : Int) ls sh (b : Int) da k (j : Int) out) (spec_along.k1 n0 fuel)) (fun j out => out = (alA sh da k ls).take ((b * ls.length + j) * behN sh k)) ?_ ?_ fuel 0 _ (by omega) (by omega) rfl
  · intro n out ho
    rw [spec_along.s1, decide_eq_false (p := ((ls.length : Nat) : Int) < _) (by omega), w1 (j := b) (by omega), ho, cond_false, Nat.add_mul b 1, Nat.one_mul]
  · intro n j out hj ho
    rw [spec_along.s1, decide_eq_true (p := ((j : Nat) : Int) < _) (by omega), cond_true, ho, spec_along.lp2 fuel n0 n k b j sh da ls ax hd al hb hj hf]
    exact ⟨_, rfl, rfl⟩
theorem spec_along.lp0 (fuel : Nat) (k : Nat) (sh da ls : List Int) (ax : Ax sh k) (hd : da.length = befN sh k * lenN sh k * behN sh k) (al : AlOk sh k ls) (hf : 3600 < fuel) :
    spec_along.L0 fuel fuel (spec_along.t0 (k : Int) ls sh da k 0 []) (spec_along.k0 fuel) = some ([.agg [((.ints .i64 (sh.set k ((ls.length : Nat) : Int))), true), ((.ints .i64 (alA sh da k ls)), true)]], []) := by
  have hB := ax.bef_le
  have hl := al.len
  have hle := al.le
  have hr := ax.rank
  have hlen : (alA sh da k ls).length = befN sh k * ls.length * behN sh k := alA_length _ _ _ _
  refine run_loop (N := befN sh k) (fun n b out => spec_along.L0 fuel n (spec_along.t0 (k : Int) ls sh da k (b : Int) out) (spec_along.k0 fuel)) (fun b out => out = (alA sh da k ls).take (b * ls.length * behN sh k)) ?_ ?_ fuel 0 _ (by omega) (by omega) (by simp)
  · intro n out ho
    rw [← hlen, List.take_length] at ho
    rw [spec_along.s0, Int.toNat_natCast, decide_eq_false (p := ((befN sh k : Nat) : Int) < _) (by omega), ho, szB_of (xs := sh.set _ _) (by simp; omega), szB_of (xs := alA sh da k ls) (by omega)]
    rfl
  · intro n b out hb ho
    rw [spec_along.s0, Int.toNat_natCast, decide_eq_true (p := ((b : Nat) : Int) < _) (by omega), cond_true, ho, spec_along.lp1 fuel n k b sh da ls ax hd al hb hf]
    exact ⟨_, rfl, rfl⟩
theorem spec_along.ok : CallSpec Try.prog spec_along.E := spec_along.ok_of (by simp [spec_along.X, spec_copyInts.ok, spec_around.ok, spec_make1.ok]) fun sh da k ls h => by
  obtain ⟨F, hF⟩ : ∃ F : Nat, 3600 < F := ⟨3601, by omega⟩
  refine ⟨F, ?_⟩
  simp only [Bool.and_eq_true, axB] at h
  obtain ⟨e1, e2⟩ := axOk_nat h.1.2
  have hv := validA_inv h.1.1
  have ax := ax_of hv.1 e2
  have hd := ax_data h.1.1 e2
  have hr := ax.rank
  rw [spec_along.e, szB_of (xs := sh) (by omega), hv.1, h.1.2]
  generalize k.toNat = j at *
  subst e1
  have al := alP_inv e2 h.2
  rw [idx_nat e2]
  simp only [cond_true, Option.bind_some, e2, decide_true, Bool.and_self]
  rw [spec_along.lp0 F j sh da ls ax hd al hF]
  simp only [alS, Int.toNat_natCast]

namespace spec_ExpandAxis
noncomputable def E : Entry := ⟨11, false, false, fun | [.d (.agg [(.ints .i64 sh), (.ints .i64 da)]), .d (.int .i64 k), .d (.ints .i64 mk)] => decide (sh.length < 9223372036854775808) && decide (da.length < 9223372036854775808) && szB mk | _ => false, fun | [.d (.agg [(.ints .i64 sh), (.ints .i64 da)]), .d (.int .i64 k), .d (.ints .i64 mk)] => ([.agg [((.ints .i64 (exS sh da k mk)), true), ((.ints .i64 (exD sh da k mk)), true)], .one ((.bool (exB sh da k mk)), false)], []) | _ => ([], []), fun _ => [], true, fun _ => none⟩
end spec_ExpandAxis
namespace spec_ExpandAxis
noncomputable def X : List Entry := [spec_isAxis.E, spec_allIn.E, spec_copyInts.E, spec_validShape.E, spec_along.E]
noncomputable def I : List Inl := [⟨11, Try.f11, ⟨[45, 67], [(1000006, [0, 4, 5, 7, 11, 12, 13, 14, 15, 16, 17, 18, 19, 20, 21, 22, 23, 24, 25, 26, 27, 28, 29, 30, 31, 32, 33, 34, 35, 36, 37, 38, 39, 40, 41, 42, 43, 44, 45, 46, 47, 48, 49, 50, 51, 52, 53, 54, 55, 56, 57, 58, 59, 60, 61, 62, 63, 64, 65, 66, 67])], [], [], [], []⟩⟩]
theorem I_ok : ∀ i ∈ I, Try.prog.funcs[i.f]? = some i.fn ∧ (i.fn.name == "runtime.NumGoroutine") = false := by
  intro i hi
  simp only [I, List.mem_cons, List.not_mem_nil, or_false] at hi
  subst hi
  exact ⟨by kernel_rfl, by kernel_rfl⟩
noncomputable abbrev L0 (fuel n : Nat) (s : St) (k : Kont) := lAt Try.prog X I fuel true 0 false 11 (bodyOf Try.f11) [1, 1, 1, 1, 0, 1, 0] n s k
noncomputable abbrev k0  (fuel : Nat) : Kont := (kAt Try.prog X I fuel true 0 false 11 (bodyOf Try.f11) [1, 1, 1, 1, 0, 1, 0] [] (endK Try.prog Try.f11))
noncomputable def t0 (p1 : Int) (p2 : List Int) (p0q0 : List Int) (p0q1 : List Int) (x0q2 : Int) (x0q3 : Int) (x0q6 : List Int) : St := ⟨[.dead, (.imm (.int .i64 p1)), (.imm (.ints .i64 p2)), (.ptr 1000000000 0 0), .dead, .dead, (.ptr 1000000001 0 0), .dead, (.all 1000000002 1), (.imm (.int .i64 x0q2)), (.imm (.int .i64 x0q3)), .dead, .dead, .dead, .dead, .dead, .dead, .dead, .dead, .dead, .dead, .dead, .dead, .dead, .dead, .dead, .dead, .dead, .dead, .dead, .dead, .dead, .dead, .dead, .dead, .dead, .dead, .dead, .dead, .dead, .dead, .dead, .dead, .dead, .dead, .dead, .dead, .dead, .dead, .dead, .dead, .dead, .dead, .dead, .dead, .dead, .dead, .dead, .dead, .dead, .dead, .dead, .dead, .dead, .dead, .dead, .dead, .dead], hOf [(1000000000, (.box [(.imm (.ints .i64 p0q0)), (.imm (.ints .i64 p0q1))])), (1000000001, (.box [(.imm .nils), (.imm .nils)])), (1000000002, (.ints .i64 x0q6))], [], []⟩
theorem e (fuel : Nat) (p0q0 : List Int) (p0q1 : List Int) (p1 : Int) (p2 : List Int) : runF Try.prog X I 0 fuel 11 Try.f11 [.d (.agg [(.ints .i64 p0q0), (.ints .i64 p0q1)]), .d (.int .i64 p1), .d (.ints .i64 p2)] =
  (bif decide (p0q0.length < 9223372036854775808) && decide (p0q1.length < 9223372036854775808) then
  (bif (!(axB p0q0 p0q1 p1)) then
  some ([.agg [((.ints .i64 []), true), ((.ints .i64 []), true)], .one ((.bool false), false)], [])
  else
  (bif decide (p2.length < 9223372036854775808) then
  (bif (!(allB p2 0 1)) then
  some ([.agg [((.ints .i64 []), true), ((.ints .i64 []), true)], .one ((.bool false), false)], [])
  else
  L0 fuel fuel (t0 p1 p2 p0q0 p0q1 0 0 ([])) (k0  fuel))
  else
  none))
  else
  none) := by kernel_rfl
theorem s0 (fuel n0 : Nat) (p1 : Int) (p2 : List Int) (p0q0 : List Int) (p0q1 : List Int) (x0q2 : Int) (x0q3 : Int) (x0q6 : List Int) : L0 fuel (n0 + 1) (t0 p1 p2 p0q0 p0q1 x0q2 x0q3 x0q6) (k0  fuel) =
  (bif (decide ((x0q3 : Int) < ((p2.length : Nat) : Int))) then
  (idx x0q3 p2.length).bind fun j11 =>
  (p2[j11]?).bind fun v12 =>
  (bif ((v12 : Int) == 1) then
  (bif fits (x0q6.length + ([x0q2] : List Int).length) 8 then
  L0 fuel n0 (t0 p1 p2 p0q0 p0q1 ((IntKind.wrap .i64 (x0q2 + 1))) ((IntKind.wrap .i64 (x0q3 + 1))) ((x0q6 ++ [x0q2]))) (k0  fuel)
  else
  none)
  else
  (bif fits (x0q6.length + ([(-1)] : List Int).length) 8 then
  L0 fuel n0 (t0 p1 p2 p0q0 p0q1 x0q2 ((IntKind.wrap .i64 (x0q3 + 1))) ((x0q6 ++ [(-1)]))) (k0  fuel)
  else
  none))
  else
  (bif szB p0q0 then
  (idx p1 p0q0.length).bind fun j13 =>
  (bif decide (j13 < p0q0.length) then
  (idx p1 p0q0.length).bind fun j14 =>
  (p0q0[j14]?).bind fun v15 =>
  (bif ((x0q2 : Int) != v15) then
  some ([.agg [((.ints .i64 []), true), ((.ints .i64 []), true)], .one ((.bool false), false)], [])
  else
  (bif decide (((p0q0.set j13 ((x0q6.length : Nat) : Int))).length < 9223372036854775808) then
  (bif (!(validS ((p0q0.set j13 ((x0q6.length : Nat) : Int))))) then
  some ([.agg [((.ints .i64 []), true), ((.ints .i64 []), true)], .one ((.bool false), false)], [])
  else
  (bif axB p0q0 p0q1 p1 && alP p0q0 p1 x0q6 then
  some ([.agg [((.ints .i64 (alS p0q0 p1 x0q6)), true), ((.ints .i64 (alA p0q0 p0q1 p1 x0q6)), true)], .one ((.bool true), false)], [])
  else
  none))
  else
  none))
  else
  none)
  else
  none)) := by kernel_rfl
end spec_ExpandAxis
theorem spec_ExpandAxis.ok_of (hX : ∀ E ∈ spec_ExpandAxis.X, CallSpec Try.prog E) (h : ∀ (sh : List Int) (da : List Int) (k : Int) (mk : List Int), (decide (sh.length < 9223372036854775808) && decide (da.length < 9223372036854775808) && szB mk) = true → ∃ fuel, runF Try.prog spec_ExpandAxis.X spec_ExpandAxis.I 0 fuel 11 Try.f11 [.d (.agg [(.ints .i64 sh), (.ints .i64 da)]), .d (.int .i64 k), .d (.ints .i64 mk)] = some ([.agg [((.ints .i64 (exS sh da k mk)), true), ((.ints .i64 (exD sh da k mk)), true)], .one ((.bool (exB sh da k mk)), false)], [])) : CallSpec Try.prog spec_ExpandAxis.E :=
  callSpec_of (d := 0) hX (by kernel_rfl) spec_ExpandAxis.I_ok (by kernel_rfl) (by kernel_rfl) (by kernel_rfl) (fun _ _ _ _ h => by dsimp only [spec_ExpandAxis.E] at h; cases h) (fun xs hp => by
    dsimp only [spec_ExpandAxis.E] at hp ⊢
    split at hp
    · exact h _ _ _ _ hp
    · cases hp)
theorem spec_ExpandAxis.ok : CallSpec Try.prog spec_ExpandAxis.E := spec_ExpandAxis.ok_of (by simp [spec_ExpandAxis.X, spec_isAxis.ok, spec_allIn.ok, spec_copyInts.ok, spec_validShape.ok, spec_along.ok]) fun sh da k mk h => by
  obtain ⟨F, hF⟩ : ∃ F : Nat, mk.length < F := ⟨mk.length + 1, by omega⟩
  refine ⟨F, ?_⟩
  simp only [Bool.and_eq_true] at h
  have hz := szB_le h.2
  rw [spec_ExpandAxis.e, h.1.1, h.1.2, lt_of (xs := mk) (by omega)]
  cases hb : axB sh da k with
  | false =>
    have : exB sh da k mk = false := by simp only [exB, hb, Bool.false_and]
    simp only [exS, exD, this]
    rfl
  | true =>
    obtain ⟨j, rfl, hj, hv, ax, hd, hl⟩ := axB_inv hb
    have hL := ax.len_le
    have hr := ax.rank
    cases ht : allB mk 0 1 with
    | false =>
      have : exB sh da (j : Int) mk = false := by simp only [exB, ht, Bool.false_and, Bool.and_false]
      simp only [exS, exD, this]
      rfl
    | true =>
      simp only [cond_true, Bool.and_self, Bool.not_true, cond_false]
      refine run_loop (N := mk.length) (fun n i (s : Int × List Int) => spec_ExpandAxis.L0 F n (spec_ExpandAxis.t0 (j : Int) mk sh da s.1 (i : Int) s.2) (spec_ExpandAxis.k0 F)) (fun i s => s.1 = ((exN mk i : Nat) : Int) ∧ s.2 = tab i fun q => bif mk.getD q 0 == 1 then ((exN mk q : Nat) : Int) else -1) ?_ ?_ F 0 (0, []) (by omega) (by omega) ⟨rfl, rfl⟩
      · rintro n ⟨c, out⟩ ⟨e1, e2⟩
        simp only at e1 e2
        change out = exL mk at e2
        subst e1
        subst e2
        have hlen := exL_length mk
        have hS : alS sh j (exL mk) = sh.set j (((exL mk).length : Nat) : Int) := rfl
        dsimp only
        rw [spec_ExpandAxis.s0, dge (by omega), cond_false, szB_of (xs := sh) (by omega), idx_nat hj]
        simp only [cond_true, Option.bind_some, getD_get hj, ax.len]
        rw [decide_eq_true hj, cond_true]
        by_cases c1 : exN mk mk.length = lenN sh j
        · have hB : exB sh da (j : Int) mk = validS (alS sh j (exL mk)) := by
            simp only [exB, hb, ht, Int.toNat_natCast, decide_eq_true c1, Bool.true_and]
          rw [show (((exN mk mk.length : Nat) : Int) != ((lenN sh j : Nat) : Int)) = false by simp [c1], cond_false, lt_of (by rw [List.length_set]; omega), cond_true]
          unfold exS exD
          rw [hB, hS]
          cases hvs : validS (sh.set j (((exL mk).length : Nat) : Int)) with
          | false => rfl
          | true =>
            have hp : alP sh (j : Int) (exL mk) = true := alP_of hvs fun p hp => by have := exL_mem hp; omega
            rw [hb, hp]
            rfl
        · have : exB sh da (j : Int) mk = false := by simp only [exB, Int.toNat_natCast, decide_eq_false c1, Bool.and_false, Bool.false_and]
          rw [show (((exN mk mk.length : Nat) : Int) != ((lenN sh j : Nat) : Int)) = true by simp; omega]
          simp only [exS, exD, this]
          rfl
      · rintro n i ⟨c, out⟩ hi ⟨e1, e2⟩
        simp only at e1 e2
        subst e1
        have hx := exN_le mk i
        have hol : out.length = i := by rw [e2, tab_length]
        rw [spec_ExpandAxis.s0, dlt hi, cond_true, idx_nat hi, w1 (by omega), w1 (by omega), fitsOk (by simp only [List.length_cons, List.length_nil]; omega), fitsOk (by simp only [List.length_cons, List.length_nil]; omega)]
        simp only [Option.bind_some, getD_get hi, cond_true]
        cases hc : (mk.getD i 0 == 1) with
        | true =>
          refine ⟨(((exN mk i + 1 : Nat) : Int), out ++ [((exN mk i : Nat) : Int)]), ⟨by simp only [exN, hc, cond_true], ?_⟩, rfl⟩
          rw [tab_succ, hc, e2, cond_true]
        | false =>
          refine ⟨(((exN mk i : Nat) : Int), out ++ [-1]), ⟨by simp only [exN, hc, cond_false], ?_⟩, rfl⟩
          rw [tab_succ, hc, e2, cond_false]

namespace laws_equalInts
noncomputable def E : Entry := ⟨43, true, false, fun | [.d (.ints .i64 xs), .d (.ints .i64 ys)] => decide (xs.length < 9223372036854775808) && decide (ys.length < 9223372036854775808) | _ => false, fun | [.d (.ints .i64 xs), .d (.ints .i64 ys)] => ([.one ((.bool (decide (xs = ys))), false)], []) | _ => ([], []), fun _ => [], false, fun _ => none⟩
end laws_equalInts
namespace laws_equalInts
noncomputable def X : List Entry := []
noncomputable def I : List Inl := [⟨43, Try.f43, ⟨[], [(1000004, [2, 3, 4, 6, 7, 8, 9, 10, 11, 12, 13, 14, 15, 16, 17, 18, 19, 20, 21, 22, 23, 24, 25])], [], [(6, [0, 1, 4, 5, 2, 3, 6, 7, 8])], [], []⟩⟩]
theorem I_ok : ∀ i ∈ I, Try.prog.funcs[i.f]? = some i.fn ∧ (i.fn.name == "runtime.NumGoroutine") = false := by
  intro i hi
  simp only [I, List.mem_cons, List.not_mem_nil, or_false] at hi
  subst hi
  exact ⟨by kernel_rfl, by kernel_rfl⟩
noncomputable abbrev L0 (fuel n : Nat) (s : St) (k : Kont) := lAt Try.prog X I fuel true 0 false 43 (bodyOf Try.f43) [1, 1, 0, 1, 0] n s k
noncomputable abbrev k0  (fuel : Nat) : Kont := (kAt Try.prog X I fuel true 0 false 43 (bodyOf Try.f43) [1, 1, 0, 1, 0] [] (endK Try.prog Try.f43))
noncomputable def t0 (p0 : List Int) (p1 : List Int) (x0q2 : Int) : St := ⟨[(.imm (.ints .i64 p0)), (.imm (.ints .i64 p1)), .dead, .dead, .dead, (.imm (.int .i64 x0q2)), .dead, .dead, .dead, .dead, .dead, .dead, .dead, .dead, .dead, .dead, .dead, .dead, .dead, .dead, .dead, .dead, .dead, .dead, .dead, .dead], hOf [], [], []⟩
theorem e (fuel : Nat) (p0 : List Int) (p1 : List Int) : runF Try.prog X I 0 fuel 43 Try.f43 [.d (.ints .i64 p0), .d (.ints .i64 p1)] =
  (bif ((((p0.length : Nat) : Int) : Int) != ((p1.length : Nat) : Int)) then
  some ([.one ((.bool false), false)], [])
  else
  L0 fuel fuel (t0 p0 p1 0) (k0  fuel)) := by kernel_rfl
theorem s0 (fuel n0 : Nat) (p0 : List Int) (p1 : List Int) (x0q2 : Int) : L0 fuel (n0 + 1) (t0 p0 p1 x0q2) (k0  fuel) =
  (bif (decide ((x0q2 : Int) < ((p0.length : Nat) : Int))) then
  (idx x0q2 p0.length).bind fun j9 =>
  (p0[j9]?).bind fun v10 =>
  (idx x0q2 p1.length).bind fun j11 =>
  (p1[j11]?).bind fun v12 =>
  (bif ((v10 : Int) != v12) then
  some ([.one ((.bool false), false)], [])
  else
  L0 fuel n0 (t0 p0 p1 ((IntKind.wrap .i64 (x0q2 + 1)))) (k0  fuel))
  else
  some ([.one ((.bool true), false)], [])) := by kernel_rfl
end laws_equalInts
theorem laws_equalInts.ok_of (hX : ∀ E ∈ laws_equalInts.X, CallSpec Try.prog E) (h : ∀ (xs : List Int) (ys : List Int), (decide (xs.length < 9223372036854775808) && decide (ys.length < 9223372036854775808)) = true → ∃ fuel, runF Try.prog laws_equalInts.X laws_equalInts.I 0 fuel 43 Try.f43 [.d (.ints .i64 xs), .d (.ints .i64 ys)] = some ([.one ((.bool (decide (xs = ys))), false)], [])) : CallSpec Try.prog laws_equalInts.E :=
  callSpec_of (d := 0) hX (by kernel_rfl) laws_equalInts.I_ok (by kernel_rfl) (by kernel_rfl) (by kernel_rfl) (fun _ _ _ _ h => by dsimp only [laws_equalInts.E] at h; cases h) (fun xs hp => by
    dsimp only [laws_equalInts.E] at hp ⊢
    split at hp
    · exact h _ _ hp
    · cases hp)
theorem laws_equalInts.loop (fuel : Nat) (xs ys : List Int) (hl : xs.length = ys.length) (hx : xs.length < 9223372036854775808) : ∀ (m n j : Nat), xs.length - j = m → m < n → j ≤ xs.length →
    laws_equalInts.L0 fuel n (laws_equalInts.t0 xs ys (j : Int)) (laws_equalInts.k0 fuel) = some ([.one (.bool (decide (xs.drop j = ys.drop j)), false)], []) := by
  intro m
  induction m with
  | zero =>
    intro n j h1 h2 h3
    obtain ⟨n, rfl⟩ : ∃ n', n = n' + 1 := ⟨n - 1, by omega⟩
    have hj : ¬ j < xs.length := by omega
    rw [laws_equalInts.s0, dge hj, dropE hj, dropE (xs := ys) (by omega)]
    rfl
  | succ m ih =>
    intro n j h1 h2 h3
    obtain ⟨n, rfl⟩ : ∃ n', n = n' + 1 := ⟨n - 1, by omega⟩
    have hj : j < xs.length := by omega
    have hj2 : j < ys.length := by omega
    rw [laws_equalInts.s0, dlt hj, idx_nat hj, idx_nat hj2, w1 (by omega), dropS hj, dropS hj2]
    simp only [cond_true, Option.bind_some, getS hj, getS hj2]
    rw [ih n (j + 1) (by omega) (by omega) (by omega)]
    by_cases hv : xs[j] = ys[j]
    · rw [hv]
      simp only [bne_self_eq_false, cond_false, List.cons.injEq, true_and]
    · have : (xs[j] != ys[j]) = true := by simp [hv]
      rw [this]
      simp only [cond_true, List.cons.injEq, hv, false_and, decide_false]

theorem laws_equalInts.ok : CallSpec Try.prog laws_equalInts.E := laws_equalInts.ok_of (by simp [laws_equalInts.X]) fun xs ys h => by
  simp only [Bool.and_eq_true, decide_eq_true_eq] at h
  refine ⟨xs.length + 1, ?_⟩
  rw [laws_equalInts.e]
  by_cases hl : xs.length = ys.length
  · have := laws_equalInts.loop (xs.length + 1) xs ys hl h.1 xs.length (xs.length + 1) 0 (by omega) (by omega) (by omega)
    simp only [List.drop_zero] at this
    simp only [hl, bne_self_eq_false, cond_false]
    rw [← hl]
    exact this
  · have hne : xs ≠ ys := fun e => hl (e ▸ rfl)
    have : (((xs.length : Nat) : Int) != ((ys.length : Nat) : Int)) = true := by simp; omega
    rw [this]
    simp [hne]

namespace laws_equalArray
noncomputable def E : Entry := ⟨12, true, false, fun | [.d (.agg [(.ints .i64 sa), (.ints .i64 da)]), .d (.agg [(.ints .i64 sb), (.ints .i64 db)])] => decide (sa.length < 9223372036854775808) && decide (da.length < 9223372036854775808) && decide (sb.length < 9223372036854775808) && decide (db.length < 9223372036854775808) | _ => false, fun | [.d (.agg [(.ints .i64 sa), (.ints .i64 da)]), .d (.agg [(.ints .i64 sb), (.ints .i64 db)])] => ([.one ((.bool (decide (sa = sb) && decide (da = db))), false)], []) | _ => ([], []), fun _ => [], false, fun _ => none⟩
end laws_equalArray
namespace laws_equalArray
noncomputable def X : List Entry := [laws_equalInts.E]
noncomputable def I : List Inl := [⟨12, Try.f12, ⟨[], [], [], [], [], []⟩⟩]
theorem I_ok : ∀ i ∈ I, Try.prog.funcs[i.f]? = some i.fn ∧ (i.fn.name == "runtime.NumGoroutine") = false := by
  intro i hi
  simp only [I, List.mem_cons, List.not_mem_nil, or_false] at hi
  subst hi
  exact ⟨by kernel_rfl, by kernel_rfl⟩
theorem e (fuel : Nat) (p0q0 : List Int) (p0q1 : List Int) (p1q0 : List Int) (p1q1 : List Int) : runF Try.prog X I 0 fuel 12 Try.f12 [.d (.agg [(.ints .i64 p0q0), (.ints .i64 p0q1)]), .d (.agg [(.ints .i64 p1q0), (.ints .i64 p1q1)])] =
  (bif decide (p0q0.length < 9223372036854775808) && decide (p1q0.length < 9223372036854775808) then
  (bif (decide (p0q0 = p1q0)) then
  (bif decide (p0q1.length < 9223372036854775808) && decide (p1q1.length < 9223372036854775808) then
  some ([.one ((.bool (decide (p0q1 = p1q1))), false)], [])
  else
  none)
  else
  some ([.one ((.bool false), false)], []))
  else
  none) := by kernel_rfl
end laws_equalArray
theorem laws_equalArray.ok_of (hX : ∀ E ∈ laws_equalArray.X, CallSpec Try.prog E) (h : ∀ (sa : List Int) (da : List Int) (sb : List Int) (db : List Int), (decide (sa.length < 9223372036854775808) && decide (da.length < 9223372036854775808) && decide (sb.length < 9223372036854775808) && decide (db.length < 9223372036854775808)) = true → ∃ fuel, runF Try.prog laws_equalArray.X laws_equalArray.I 0 fuel 12 Try.f12 [.d (.agg [(.ints .i64 sa), (.ints .i64 da)]), .d (.agg [(.ints .i64 sb), (.ints .i64 db)])] = some ([.one ((.bool (decide (sa = sb) && decide (da = db))), false)], [])) : CallSpec Try.prog laws_equalArray.E :=
  callSpec_of (d := 0) hX (by kernel_rfl) laws_equalArray.I_ok (by kernel_rfl) (by kernel_rfl) (by kernel_rfl) (fun _ _ _ _ h => by dsimp only [laws_equalArray.E] at h; cases h) (fun xs hp => by
    dsimp only [laws_equalArray.E] at hp ⊢
    split at hp
    · exact h _ _ _ _ hp
    · cases hp)
theorem laws_equalArray.ok : CallSpec Try.prog laws_equalArray.E := laws_equalArray.ok_of (by simp [laws_equalArray.X, laws_equalInts.ok]) fun sa da sb db h => ⟨0, by
  simp only [Bool.and_eq_true, decide_eq_true_eq] at h
  obtain ⟨⟨⟨h1, h2⟩, h3⟩, h4⟩ := h
  rw [laws_equalArray.e]
  simp only [h1, h2, h3, h4, decide_true, Bool.and_self, cond_true]
  cases decide (sa = sb) <;> cases decide (da = db) <;> rfl⟩

namespace math_bits_Mul64
noncomputable def E : Entry := ⟨80, true, false, fun | [.d (.int .u64 x), .d (.int .u64 y)] => decide (0 ≤ x) && decide (x ≤ 60) && decide (0 ≤ y) && decide (y ≤ 60) | _ => false, fun | [.d (.int .u64 x), .d (.int .u64 y)] => ([.one ((.int .u64 0), false), .one ((.int .u64 (x * y)), false)], []) | _ => ([], []), fun _ => [], false, fun _ => none⟩
end math_bits_Mul64
namespace math_bits_Mul64
noncomputable def X : List Entry := []
noncomputable def I : List Inl := [⟨80, Try.f80, ⟨[], [], [], [], [], []⟩⟩]
theorem I_ok : ∀ i ∈ I, Try.prog.funcs[i.f]? = some i.fn ∧ (i.fn.name == "runtime.NumGoroutine") = false := by
  intro i hi
  simp only [I, List.mem_cons, List.not_mem_nil, or_false] at hi
  subst hi
  exact ⟨by kernel_rfl, by kernel_rfl⟩
theorem e (fuel : Nat) (p0 : Int) (p1 : Int) : runF Try.prog X I 0 fuel 80 Try.f80 [.d (.int .u64 p0), .d (.int .u64 p1)] =
  some ([.one ((.int .u64 (IntKind.wrap .u64 ((IntKind.wrap .u64 ((IntKind.wrap .u64 ((Int.fdiv p0 (2 ^ min (32 : Int).toNat (IntKind.bits .u64))) * (Int.fdiv p1 (2 ^ min (32 : Int).toNat (IntKind.bits .u64))))) + (Int.fdiv (IntKind.wrap .u64 ((IntKind.wrap .u64 ((Int.fdiv p0 (2 ^ min (32 : Int).toNat (IntKind.bits .u64))) * (IntKind.wrap .u64 ((BitVec.ofInt (IntKind.bits .u64) p1 &&& BitVec.ofInt (IntKind.bits .u64) 4294967295).toNat : Int)))) + (Int.fdiv (IntKind.wrap .u64 ((IntKind.wrap .u64 ((BitVec.ofInt (IntKind.bits .u64) p0 &&& BitVec.ofInt (IntKind.bits .u64) 4294967295).toNat : Int)) * (IntKind.wrap .u64 ((BitVec.ofInt (IntKind.bits .u64) p1 &&& BitVec.ofInt (IntKind.bits .u64) 4294967295).toNat : Int)))) (2 ^ min (32 : Int).toNat (IntKind.bits .u64))))) (2 ^ min (32 : Int).toNat (IntKind.bits .u64))))) + (Int.fdiv (IntKind.wrap .u64 ((IntKind.wrap .u64 ((BitVec.ofInt (IntKind.bits .u64) (IntKind.wrap .u64 ((IntKind.wrap .u64 ((Int.fdiv p0 (2 ^ min (32 : Int).toNat (IntKind.bits .u64))) * (IntKind.wrap .u64 ((BitVec.ofInt (IntKind.bits .u64) p1 &&& BitVec.ofInt (IntKind.bits .u64) 4294967295).toNat : Int)))) + (Int.fdiv (IntKind.wrap .u64 ((IntKind.wrap .u64 ((BitVec.ofInt (IntKind.bits .u64) p0 &&& BitVec.ofInt (IntKind.bits .u64) 4294967295).toNat : Int)) * (IntKind.wrap .u64 ((BitVec.ofInt (IntKind.bits .u64) p1 &&& BitVec.ofInt (IntKind.bits .u64) 4294967295).toNat : Int)))) (2 ^ min (32 : Int).toNat (IntKind.bits .u64))))) &&& BitVec.ofInt (IntKind.bits .u64) 4294967295).toNat : Int)) + (IntKind.wrap .u64 ((IntKind.wrap .u64 ((BitVec.ofInt (IntKind.bits .u64) p0 &&& BitVec.ofInt (IntKind.bits .u64) 4294967295).toNat : Int)) * (Int.fdiv p1 (2 ^ min (32 : Int).toNat (IntKind.bits .u64))))))) (2 ^ min (32 : Int).toNat (IntKind.bits .u64)))))), false), .one ((.int .u64 (IntKind.wrap .u64 (p0 * p1))), false)], []) := by kernel_rfl
end math_bits_Mul64
theorem math_bits_Mul64.ok_of (hX : ∀ E ∈ math_bits_Mul64.X, CallSpec Try.prog E) (h : ∀ (x : Int) (y : Int), (decide (0 ≤ x) && decide (x ≤ 60) && decide (0 ≤ y) && decide (y ≤ 60)) = true → ∃ fuel, runF Try.prog math_bits_Mul64.X math_bits_Mul64.I 0 fuel 80 Try.f80 [.d (.int .u64 x), .d (.int .u64 y)] = some ([.one ((.int .u64 0), false), .one ((.int .u64 (x * y)), false)], [])) : CallSpec Try.prog math_bits_Mul64.E :=
  callSpec_of (d := 0) hX (by kernel_rfl) math_bits_Mul64.I_ok (by kernel_rfl) (by kernel_rfl) (by kernel_rfl) (fun _ _ _ _ h => by dsimp only [math_bits_Mul64.E] at h; cases h) (fun xs hp => by
    dsimp only [math_bits_Mul64.E] at hp ⊢
    split at hp
    · exact h _ _ hp
    · cases hp)
theorem mul_and_fin : ∀ a : Fin 61, IntKind.wrap .u64 ((BitVec.ofInt (IntKind.bits .u64) ((a.1 : Nat) : Int) &&& BitVec.ofInt (IntKind.bits .u64) 4294967295).toNat : Int) = ((a.1 : Nat) : Int) := by decide +kernel
theorem mul_and {n : Nat} (h : n ≤ 60) : IntKind.wrap .u64 ((BitVec.ofInt (IntKind.bits .u64) (n : Int) &&& BitVec.ofInt (IntKind.bits .u64) 4294967295).toNat : Int) = (n : Int) := mul_and_fin ⟨n, by omega⟩
theorem mul_shr {n : Nat} (h : n < 4294967296) : Int.fdiv (n : Int) (2 ^ min (32 : Int).toNat (IntKind.bits .u64)) = 0 := by
  have : Int.fdiv (n : Int) (2 ^ min (32 : Int).toNat (IntKind.bits .u64)) = ((n / 4294967296 : Nat) : Int) := fdivN n 4294967296
  rw [this]
  have : n / 4294967296 = 0 := Nat.div_eq_of_lt h
  omega
theorem math_bits_Mul64.ok : CallSpec Try.prog math_bits_Mul64.E := math_bits_Mul64.ok_of (by simp [math_bits_Mul64.X]) fun x y h => ⟨0, by
  simp only [Bool.and_eq_true, decide_eq_true_eq] at h
  obtain ⟨a, rfl⟩ : ∃ n : Nat, x = n := ⟨x.toNat, by omega⟩
  obtain ⟨b, rfl⟩ : ∃ n : Nat, y = n := ⟨y.toNat, by omega⟩
  have ha : a ≤ 60 := by omega
  have hb : b ≤ 60 := by omega
  have hab : a * b ≤ 60 * 60 := Nat.mul_le_mul ha hb
  have e : ((a : Int) * (b : Int)) = ((a * b : Nat) : Int) := by rw [Int.natCast_mul]
  have z0 : IntKind.wrap .u64 0 = 0 := rfl
  have z1 : Int.fdiv 0 (2 ^ min (32 : Int).toNat (IntKind.bits .u64)) = 0 := mul_shr (n := 0) (by omega)
  have z2 : IntKind.wrap .u64 ((BitVec.ofInt (IntKind.bits .u64) 0 &&& BitVec.ofInt (IntKind.bits .u64) 4294967295).toNat : Int) = 0 := mul_and (n := 0) (by omega)
  rw [math_bits_Mul64.e, mul_and ha, mul_and hb, mul_shr (n := a) (by omega), mul_shr (n := b) (by omega), e, wU0 (by omega), mul_shr (n := a * b) (by omega)]
  simp only [Int.zero_mul, Int.mul_zero, Int.add_zero, z0, z1, z2]⟩

namespace math_bits_Mul
noncomputable def E : Entry := ⟨69, true, false, fun | [.d (.int .u64 x), .d (.int .u64 y)] => decide (0 ≤ x) && decide (x ≤ 60) && decide (0 ≤ y) && decide (y ≤ 60) | _ => false, fun | [.d (.int .u64 x), .d (.int .u64 y)] => ([.one ((.int .u64 0), false), .one ((.int .u64 (x * y)), false)], []) | _ => ([], []), fun _ => [], false, fun _ => none⟩
end math_bits_Mul
namespace math_bits_Mul
noncomputable def X : List Entry := [math_bits_Mul64.E]
noncomputable def I : List Inl := [⟨69, Try.f69, ⟨[], [(1, [2, 3, 4, 5, 6, 7, 8, 9, 10, 11, 12, 13, 14, 15, 16, 17, 18, 19, 20, 21, 22, 23, 24, 25, 26, 27, 28, 29])], [], [], [], []⟩⟩]
theorem I_ok : ∀ i ∈ I, Try.prog.funcs[i.f]? = some i.fn ∧ (i.fn.name == "runtime.NumGoroutine") = false := by
  intro i hi
  simp only [I, List.mem_cons, List.not_mem_nil, or_false] at hi
  subst hi
  exact ⟨by kernel_rfl, by kernel_rfl⟩
theorem e (fuel : Nat) (p0 : Int) (p1 : Int) : runF Try.prog X I 0 fuel 69 Try.f69 [.d (.int .u64 p0), .d (.int .u64 p1)] =
  (bif decide (0 ≤ p0) && decide (p0 ≤ 60) && decide (0 ≤ p1) && decide (p1 ≤ 60) then
  some ([.one ((.int .u64 0), false), .one ((.int .u64 (p0 * p1)), false)], [])
  else
  none) := by kernel_rfl
end math_bits_Mul
theorem math_bits_Mul.ok_of (hX : ∀ E ∈ math_bits_Mul.X, CallSpec Try.prog E) (h : ∀ (x : Int) (y : Int), (decide (0 ≤ x) && decide (x ≤ 60) && decide (0 ≤ y) && decide (y ≤ 60)) = true → ∃ fuel, runF Try.prog math_bits_Mul.X math_bits_Mul.I 0 fuel 69 Try.f69 [.d (.int .u64 x), .d (.int .u64 y)] = some ([.one ((.int .u64 0), false), .one ((.int .u64 (x * y)), false)], [])) : CallSpec Try.prog math_bits_Mul.E :=
  callSpec_of (d := 0) hX (by kernel_rfl) math_bits_Mul.I_ok (by kernel_rfl) (by kernel_rfl) (by kernel_rfl) (fun _ _ _ _ h => by dsimp only [math_bits_Mul.E] at h; cases h) (fun xs hp => by
    dsimp only [math_bits_Mul.E] at hp ⊢
    split at hp
    · exact h _ _ hp
    · cases hp)
theorem math_bits_Mul.ok : CallSpec Try.prog math_bits_Mul.E := math_bits_Mul.ok_of (by simp [math_bits_Mul.X, math_bits_Mul64.ok]) fun x y h => ⟨0, by
  rw [math_bits_Mul.e, h]
  rfl⟩

namespace slices_Repeat_int_int
noncomputable def E : Entry := ⟨44, false, false, fun | [.d (.ints .i64 xs), .d (.int .i64 n)] => decide ((xs : List Int).length = 1) && decide (0 ≤ n) && decide (n ≤ 60) | _ => false, fun | [.d (.ints .i64 xs), .d (.int .i64 n)] => ([.one ((.ints .i64 (List.replicate n.toNat (xs.getD 0 0))), true)], []) | _ => ([], []), fun _ => [], true, fun _ => none⟩
end slices_Repeat_int_int
namespace slices_Repeat_int_int
noncomputable def X : List Entry := [math_bits_Mul.E]
noncomputable def I : List Inl := [⟨44, Try.f44, ⟨[], [(1000008, [0, 1, 2, 3, 4, 5, 6, 9, 10, 11, 12, 13, 14, 15, 16, 17, 18, 19, 20, 21, 22, 23, 24, 25, 26, 27, 28, 29, 30, 31, 32, 33, 34, 35, 36, 37, 38, 39, 40, 41, 42, 43, 44, 45, 46, 47])], [], [(9, [0, 1, 2, 4, 5, 3, 6, 7, 8, 9])], [], []⟩⟩]
theorem I_ok : ∀ i ∈ I, Try.prog.funcs[i.f]? = some i.fn ∧ (i.fn.name == "runtime.NumGoroutine") = false := by
  intro i hi
  simp only [I, List.mem_cons, List.not_mem_nil, or_false] at hi
  subst hi
  exact ⟨by kernel_rfl, by kernel_rfl⟩
noncomputable abbrev L0 (fuel n : Nat) (s : St) (k : Kont) := lAt Try.prog X I fuel true 0 false 44 (bodyOf Try.f44) [1, 1, 1, 1, 1, 1, 0, 0] n s k
noncomputable abbrev k0  (fuel : Nat) : Kont := (kAt Try.prog X I fuel true 0 false 44 (bodyOf Try.f44) [1, 1, 1, 1, 1, 1, 0, 0] [] (endK Try.prog Try.f44))
noncomputable def t0 (x0q0 : Int) (x0q1 : List Int) : St := ⟨[.dead, .dead, .dead, .dead, .dead, .dead, .dead, (.all 1000000000 1), (.imm (.int .i64 x0q0)), .dead, .dead, .dead, .dead, .dead, .dead, .dead, .dead, .dead, .dead, .dead, .dead, .dead, .dead, .dead, .dead, .dead, .dead, .dead, .dead, .dead, .dead, .dead, .dead, .dead, .dead, .dead, .dead, .dead, .dead, .dead, .dead, .dead, .dead, .dead, .dead, .dead, .dead, .dead], hOf [(1000000000, (.ints .i64 x0q1))], [], []⟩
theorem e (fuel : Nat) (p0 : List Int) (p1 : Int) : runF Try.prog X I 0 fuel 44 Try.f44 [.d (.ints .i64 p0), .d (.int .i64 p1)] =
  (bif (decide ((p1 : Int) < 0)) then
  none
  else
  (bif decide (0 ≤ ((IntKind.wrap .u64 ((p0.length : Nat) : Int)))) && decide (((IntKind.wrap .u64 ((p0.length : Nat) : Int))) ≤ 60) && decide (0 ≤ ((IntKind.wrap .u64 p1))) && decide (((IntKind.wrap .u64 p1)) ≤ 60) then
  (bif (decide ((0 : Int) > 0)) then
  none
  else
  (bif (decide (((((IntKind.wrap .u64 ((p0.length : Nat) : Int))) * ((IntKind.wrap .u64 p1))) : Int) > 9223372036854775807)) then
  none
  else
  (bif decide (0 ≤ ((IntKind.wrap .i64 (((IntKind.wrap .u64 ((p0.length : Nat) : Int))) * ((IntKind.wrap .u64 p1)))) : Int)) && decide (((IntKind.wrap .i64 (((IntKind.wrap .u64 ((p0.length : Nat) : Int))) * ((IntKind.wrap .u64 p1)))) : Int) ≤ (IntKind.wrap .i64 (((IntKind.wrap .u64 ((p0.length : Nat) : Int))) * ((IntKind.wrap .u64 p1))))) && decide (((IntKind.wrap .i64 (((IntKind.wrap .u64 ((p0.length : Nat) : Int))) * ((IntKind.wrap .u64 p1)))) : Int) ≤ 1152921504606846976) && decide (((8 : Nat) : Int) * (IntKind.wrap .i64 (((IntKind.wrap .u64 ((p0.length : Nat) : Int))) * ((IntKind.wrap .u64 p1)))) ≤ 281474976710656) then
  L0 fuel fuel (t0 (((min p0.length (List.replicate ((IntKind.wrap .i64 (((IntKind.wrap .u64 ((p0.length : Nat) : Int))) * ((IntKind.wrap .u64 p1))))).toNat (0 : Int)).length : Nat) : Int)) ((copyL (List.replicate ((IntKind.wrap .i64 (((IntKind.wrap .u64 ((p0.length : Nat) : Int))) * ((IntKind.wrap .u64 p1))))).toNat (0 : Int)) 0 (List.replicate ((IntKind.wrap .i64 (((IntKind.wrap .u64 ((p0.length : Nat) : Int))) * ((IntKind.wrap .u64 p1))))).toNat (0 : Int)).length p0))) (k0  fuel)
  else
  none)))
  else
  none)) := by kernel_rfl
theorem s0 (fuel n0 : Nat) (x0q0 : Int) (x0q1 : List Int) : L0 fuel (n0 + 1) (t0 x0q0 x0q1) (k0  fuel) =
  (bif (decide ((x0q0 : Int) < ((x0q1.length : Nat) : Int))) then
  (cutEnds x0q1.length (some (.imm (.int .i64 x0q0))) (none)).bind fun cq5 =>
  (cutEnds x0q1.length (none) (some (.imm (.int .i64 x0q0)))).bind fun cq6 =>
  (bif decide (cq6.1 + (cq6.2 - cq6.1) ≤ x0q1.length) then
  (bif decide (cq5.1 + (cq5.2 - cq5.1) ≤ x0q1.length) then
  L0 fuel n0 (t0 ((IntKind.wrap .i64 (x0q0 + ((min ((x0q1.drop cq6.1).take ((cq6.2 - cq6.1))).length ((cq5.2 - cq5.1)) : Nat) : Int)))) ((copyL x0q1 cq5.1 ((cq5.2 - cq5.1)) ((x0q1.drop cq6.1).take ((cq6.2 - cq6.1)))))) (k0  fuel)
  else
  none)
  else
  none)
  else
  some ([.one ((.ints .i64 x0q1), true)], [])) := by kernel_rfl
end slices_Repeat_int_int
theorem slices_Repeat_int_int.ok_of (hX : ∀ E ∈ slices_Repeat_int_int.X, CallSpec Try.prog E) (h : ∀ (xs : List Int) (n : Int), (decide ((xs : List Int).length = 1) && decide (0 ≤ n) && decide (n ≤ 60)) = true → ∃ fuel, runF Try.prog slices_Repeat_int_int.X slices_Repeat_int_int.I 0 fuel 44 Try.f44 [.d (.ints .i64 xs), .d (.int .i64 n)] = some ([.one ((.ints .i64 (List.replicate n.toNat (xs.getD 0 0))), true)], [])) : CallSpec Try.prog slices_Repeat_int_int.E :=
  callSpec_of (d := 0) hX (by kernel_rfl) slices_Repeat_int_int.I_ok (by kernel_rfl) (by kernel_rfl) (by kernel_rfl) (fun _ _ _ _ h => by dsimp only [slices_Repeat_int_int.E] at h; cases h) (fun xs hp => by
    dsimp only [slices_Repeat_int_int.E] at hp ⊢
    split at hp
    · exact h _ _ hp
    · cases hp)
theorem rep_step {N m : Nat} {v : Int} (h1 : m ≤ N) : copyL (List.replicate m v ++ List.replicate (N - m) 0) m (N - m) (List.replicate m v) = List.replicate (m + min m (N - m)) v ++ List.replicate (N - (m + min m (N - m))) 0 := by
  have e1 : min (List.replicate m v).length (N - m) = min m (N - m) := by simp
  unfold copyL spl
  rw [e1, List.take_left' (by simp), List.take_replicate, List.length_replicate, Nat.min_eq_left (Nat.min_le_left _ _), List.replicate_append_replicate]
  congr 1
  rw [List.drop_append, List.drop_eq_nil_of_le (by simp), List.nil_append, List.length_replicate, List.drop_replicate]
  congr 1
  omega
theorem slices_Repeat_int_int.loop (fuel N : Nat) (v : Int) (hN : N ≤ 60) : ∀ (f m : Nat), 1 ≤ m → m ≤ N → N - m < f →
    slices_Repeat_int_int.L0 fuel f (slices_Repeat_int_int.t0 (m : Int) (List.replicate m v ++ List.replicate (N - m) 0)) (slices_Repeat_int_int.k0 fuel) = some ([.one ((.ints .i64 (List.replicate N v)), true)], []) := by
  intro f
  induction f with
  | zero => intro m _ _ h; omega
  | succ f ih =>
    intro m h1 h2 h3
    have hl : (List.replicate m v ++ List.replicate (N - m) 0).length = N := by simp; omega
    rw [slices_Repeat_int_int.s0, hl]
    by_cases hm : m < N
    · have et : ((List.replicate m v ++ List.replicate (N - m) 0).drop 0).take (m - 0) = List.replicate m v := by
        rw [List.drop_zero, Nat.sub_zero, List.take_left' (by simp)]
      rw [dlt hm, cond_true, cut_lo (by omega), cut_hi (by omega)]
      simp only [Option.bind_some]
      rw [decide_eq_true (p := 0 + (m - 0) ≤ N) (by omega), decide_eq_true (p := m + (N - m) ≤ N) (by omega), cond_true, cond_true, et, rep_step (by omega), List.length_replicate, wAdd (by omega)]
      exact ih (m + min m (N - m)) (by omega) (by omega) (by omega)
    · obtain rfl : m = N := by omega
      rw [dge hm, cond_false, Nat.sub_self]
      simp
theorem slices_Repeat_int_int.ok : CallSpec Try.prog slices_Repeat_int_int.E := slices_Repeat_int_int.ok_of (by simp [slices_Repeat_int_int.X, math_bits_Mul.ok]) fun xs n h => by
  obtain ⟨F, hF⟩ : ∃ F : Nat, 100 < F := ⟨101, by omega⟩
  refine ⟨F, ?_⟩
  simp only [Bool.and_eq_true, decide_eq_true_eq] at h
  obtain ⟨N, rfl⟩ : ∃ N : Nat, n = N := ⟨n.toNat, by omega⟩
  obtain ⟨v, rfl⟩ : ∃ v, xs = [v] := by
    match xs, h.1.1 with
    | [v], _ => exact ⟨v, rfl⟩
  have hN : N ≤ 60 := by omega
  have eN : IntKind.wrap .u64 ((N : Nat) : Int) = ((N : Nat) : Int) := wU0 (by omega)
  have e1 : IntKind.wrap .u64 (((([v] : List Int).length : Nat) : Int)) = 1 := rfl
  rw [slices_Repeat_int_int.e, e1, eN, Int.one_mul, wN (by omega), mkOk (by omega) (by omega), decide_eq_false (p := (N : Int) < 0) (by omega), decide_eq_true (p := (0 : Int) ≤ ((N : Nat) : Int)) (by omega), decide_eq_true (p := ((N : Nat) : Int) ≤ 60) (by omega), decide_eq_false (p := ((N : Nat) : Int) > 9223372036854775807) (by omega), Int.toNat_natCast, List.length_replicate]
  show slices_Repeat_int_int.L0 F F (slices_Repeat_int_int.t0 _ _) (slices_Repeat_int_int.k0 F) = _
  by_cases h0 : N = 0
  · subst h0
    obtain ⟨f, rfl⟩ : ∃ f, F = f + 1 := ⟨F - 1, by omega⟩
    rw [slices_Repeat_int_int.s0]
    rfl
  · have e2 : copyL (List.replicate N (0 : Int)) 0 N [v] = List.replicate 1 v ++ List.replicate (N - 1) 0 := by
      obtain ⟨M, rfl⟩ : ∃ M, N = M + 1 := ⟨N - 1, by omega⟩
      unfold copyL spl
      rw [show min ([v] : List Int).length (M + 1) = 1 by simp]
      simp
    have e3 : min ([v] : List Int).length N = 1 := by simp; omega
    rw [e2, e3]
    exact slices_Repeat_int_int.loop F N v hN F 1 (by omega) (by omega) (by omega)

namespace impl_RepeatAxis
noncomputable def E : Entry := ⟨13, false, false, fun | [.d (.agg [(.ints .i64 sh), (.ints .i64 da)]), .d (.int .i64 k), .d (.ints .i64 ts)] => decide (sh.length < 9223372036854775808) && decide (da.length < 9223372036854775808) && decide (ts.length < 9223372036854775808) | _ => false, fun | [.d (.agg [(.ints .i64 sh), (.ints .i64 da)]), .d (.int .i64 k), .d (.ints .i64 ts)] => ([.agg [((.ints .i64 (rpS sh da k ts)), true), ((.ints .i64 (rpD sh da k ts)), true)], .one ((.bool (rpB sh da k ts)), false)], []) | _ => ([], []), fun _ => [], true, fun _ => none⟩
end impl_RepeatAxis
namespace impl_RepeatAxis
noncomputable def X : List Entry := [impl_axisLength.E, slices_Repeat_int_int.E, impl_withPlaces.E]
noncomputable def I : List Inl := [⟨13, Try.f13, ⟨[46, 52], [(1000006, [0, 2, 4, 5, 7, 8, 9, 11, 12, 13, 14, 15, 16, 17, 18, 19, 20, 21, 22, 23, 24, 25, 26, 27, 31, 32, 33, 34, 35, 36, 37, 38, 39, 40, 41, 42, 43, 44, 45, 46, 47, 48, 49, 50, 51, 52, 53, 54])], [], [], [44], []⟩⟩]
theorem I_ok : ∀ i ∈ I, Try.prog.funcs[i.f]? = some i.fn ∧ (i.fn.name == "runtime.NumGoroutine") = false := by
  intro i hi
  simp only [I, List.mem_cons, List.not_mem_nil, or_false] at hi
  subst hi
  exact ⟨by kernel_rfl, by kernel_rfl⟩
noncomputable abbrev L0 (fuel n : Nat) (s : St) (k : Kont) := lAt Try.prog X I fuel true 0 false 13 (bodyOf Try.f13) [1, 1, 1, 1, 0, 1, 0] n s k
noncomputable abbrev k0  (fuel : Nat) : Kont := (kAt Try.prog X I fuel true 0 false 13 (bodyOf Try.f13) [1, 1, 1, 1, 0, 1, 0] [] (endK Try.prog Try.f13))
noncomputable def t0 (p1 : Int) (p2 : List Int) (p0q0 : List Int) (p0q1 : List Int) : St := ⟨[.dead, (.imm (.int .i64 p1)), .dead, (.ptr 1000000000 0 0), .dead, .dead, (.ptr 1000000001 0 0), .dead, .dead, .dead, (.imm .nils), .dead, .dead, .dead, .dead, .dead, .dead, .dead, .dead, .dead, .dead, .dead, .dead, .dead, .dead, .dead, .dead, .dead, (.imm (.ints .i64 p2)), (.imm (.int .i64 ((p2.length : Nat) : Int))), (.imm (.int .i64 0)), .dead, .dead, .dead, .dead, .dead, .dead, .dead, .dead, .dead, .dead, .dead, .dead, .dead, .dead, .dead, .dead, .dead, .dead, .dead, .dead, .dead, .dead, .dead, .dead], hOf [(1000000000, (.box [(.imm (.ints .i64 p0q0)), (.imm (.ints .i64 p0q1))])), (1000000001, (.box [(.imm .nils), (.imm .nils)]))], [], []⟩
noncomputable abbrev L1 (fuel n : Nat) (s : St) (k : Kont) := lAt Try.prog X I fuel true 0 false 13 (bodyOf Try.f13) [1, 1, 1, 1, 0, 1, 0] n s k
noncomputable abbrev k1  (fuel : Nat) : Kont := (kAt Try.prog X I fuel true 0 false 13 (bodyOf Try.f13) [1, 1, 1, 1, 0, 1, 0] [] (endK Try.prog Try.f13))
noncomputable def t1 (p1 : Int) (p2 : List Int) (p0q0 : List Int) (p0q1 : List Int) (x1q3 : Int) (x1q6 : List Int) : St := ⟨[.dead, (.imm (.int .i64 p1)), .dead, (.ptr 1000000000 0 0), .dead, .dead, (.ptr 1000000001 0 0), .dead, .dead, .dead, (.all 1000000002 1), .dead, .dead, .dead, .dead, .dead, .dead, .dead, .dead, .dead, .dead, .dead, .dead, .dead, .dead, .dead, .dead, .dead, (.imm (.ints .i64 p2)), (.imm (.int .i64 ((p2.length : Nat) : Int))), (.imm (.int .i64 x1q3)), .dead, .dead, .dead, .dead, .dead, .dead, .dead, .dead, .dead, .dead, .dead, .dead, .dead, .dead, .dead, .dead, .dead, .dead, .dead, .dead, .dead, .dead, .dead, .dead], hOf [(1000000000, (.box [(.imm (.ints .i64 p0q0)), (.imm (.ints .i64 p0q1))])), (1000000001, (.box [(.imm .nils), (.imm .nils)])), (1000000002, (.ints .i64 x1q6))], [], []⟩
theorem e (fuel : Nat) (p0q0 : List Int) (p0q1 : List Int) (p1 : Int) (p2 : List Int) : runF Try.prog X I 0 fuel 13 Try.f13 [.d (.agg [(.ints .i64 p0q0), (.ints .i64 p0q1)]), .d (.int .i64 p1), .d (.ints .i64 p2)] =
  (bif decide (p0q0.length < 9223372036854775808) && decide (p0q1.length < 9223372036854775808) then
  (bif (!(axB p0q0 p0q1 p1)) then
  some ([.agg [((.ints .i64 []), true), ((.ints .i64 []), true)], .one ((.bool false), false)], [])
  else
  (bif ((((p2.length : Nat) : Int) : Int) != (axL p0q0 p0q1 p1)) then
  some ([.agg [((.ints .i64 []), true), ((.ints .i64 []), true)], .one ((.bool false), false)], [])
  else
  L0 fuel fuel (t0 p1 p2 p0q0 p0q1) (k0  fuel)))
  else
  none) := by kernel_rfl
theorem s0 (fuel n0 : Nat) (p1 : Int) (p2 : List Int) (p0q0 : List Int) (p0q1 : List Int) : L0 fuel (n0 + 1) (t0 p1 p2 p0q0 p0q1) (k0  fuel) =
  (bif (decide ((0 : Int) < ((p2.length : Nat) : Int))) then
  (idx 0 p2.length).bind fun j3 =>
  (p2[j3]?).bind fun v4 =>
  (bif (decide ((v4 : Int) < 0)) then
  some ([.agg [((.ints .i64 []), true), ((.ints .i64 []), true)], .one ((.bool false), false)], [])
  else
  (bif (decide ((v4 : Int) > 60)) then
  some ([.agg [((.ints .i64 []), true), ((.ints .i64 []), true)], .one ((.bool false), false)], [])
  else
  (bif decide (((([0] : List Int)) : List Int).length = 1) && decide (0 ≤ v4) && decide (v4 ≤ 60) then
  (bif fits (List.replicate v4.toNat ((([0] : List Int)).getD 0 0)).length 8 then
  L1 fuel n0 (t1 p1 p2 p0q0 p0q1 ((IntKind.wrap .i64 (0 + 1))) ((List.replicate v4.toNat ((([0] : List Int)).getD 0 0)))) (k1  fuel)
  else
  none)
  else
  none)))
  else
  (bif axB p0q0 p0q1 p1 && szB (([] : List Int)) then
  some ([.agg [((.ints .i64 (wpS p0q0 p1 (([] : List Int)))), true), ((.ints .i64 (wpD p0q0 p0q1 p1 (([] : List Int)))), true)], .one ((.bool (wpB p0q0 p1 (([] : List Int)))), false)], [])
  else
  none)) := by kernel_rfl
theorem s1 (fuel n1 : Nat) (p1 : Int) (p2 : List Int) (p0q0 : List Int) (p0q1 : List Int) (x1q3 : Int) (x1q6 : List Int) : L1 fuel (n1 + 1) (t1 p1 p2 p0q0 p0q1 x1q3 x1q6) (k1  fuel) =
  (bif (decide ((x1q3 : Int) < ((p2.length : Nat) : Int))) then
  (idx x1q3 p2.length).bind fun j9 =>
  (p2[j9]?).bind fun v10 =>
  (bif (decide ((v10 : Int) < 0)) then
  some ([.agg [((.ints .i64 []), true), ((.ints .i64 []), true)], .one ((.bool false), false)], [])
  else
  (bif (decide ((v10 : Int) > 60)) then
  some ([.agg [((.ints .i64 []), true), ((.ints .i64 []), true)], .one ((.bool false), false)], [])
  else
  (bif decide (((([x1q3] : List Int)) : List Int).length = 1) && decide (0 ≤ v10) && decide (v10 ≤ 60) then
  (bif fits (x1q6.length + (List.replicate v10.toNat ((([x1q3] : List Int)).getD 0 0)).length) 8 then
  L1 fuel n1 (t1 p1 p2 p0q0 p0q1 ((IntKind.wrap .i64 (x1q3 + 1))) ((x1q6 ++ (List.replicate v10.toNat ((([x1q3] : List Int)).getD 0 0))))) (k1  fuel)
  else
  none)
  else
  none)))
  else
  (bif axB p0q0 p0q1 p1 && szB x1q6 then
  some ([.agg [((.ints .i64 (wpS p0q0 p1 x1q6)), true), ((.ints .i64 (wpD p0q0 p0q1 p1 x1q6)), true)], .one ((.bool (wpB p0q0 p1 x1q6)), false)], [])
  else
  none)) := by kernel_rfl
end impl_RepeatAxis
theorem impl_RepeatAxis.ok_of (hX : ∀ E ∈ impl_RepeatAxis.X, CallSpec Try.prog E) (h : ∀ (sh : List Int) (da : List Int) (k : Int) (ts : List Int), (decide (sh.length < 9223372036854775808) && decide (da.length < 9223372036854775808) && decide (ts.length < 9223372036854775808)) = true → ∃ fuel, runF Try.prog impl_RepeatAxis.X impl_RepeatAxis.I 0 fuel 13 Try.f13 [.d (.agg [(.ints .i64 sh), (.ints .i64 da)]), .d (.int .i64 k), .d (.ints .i64 ts)] = some ([.agg [((.ints .i64 (rpS sh da k ts)), true), ((.ints .i64 (rpD sh da k ts)), true)], .one ((.bool (rpB sh da k ts)), false)], [])) : CallSpec Try.prog impl_RepeatAxis.E :=
  callSpec_of (d := 0) hX (by kernel_rfl) impl_RepeatAxis.I_ok (by kernel_rfl) (by kernel_rfl) (by kernel_rfl) (fun _ _ _ _ h => by dsimp only [impl_RepeatAxis.E] at h; cases h) (fun xs hp => by
    dsimp only [impl_RepeatAxis.E] at hp ⊢
    split at hp
    · exact h _ _ _ _ hp
    · cases hp)
theorem impl_RepeatAxis.wp (sh da : List Int) (j : Nat) (ts : List Int) (hj : j < sh.length) (hv : validA sh da = true) (hl : ts.length = lenN sh j) (ht : allB ts 0 60 = true) :
    szB (rpL ts) = true ∧ wpS sh (j : Int) (rpL ts) = rpS sh da j ts ∧ wpD sh da (j : Int) (rpL ts) = rpD sh da j ts ∧ wpB sh (j : Int) (rpL ts) = rpB sh da j ts := by
  obtain ⟨r1, r2⟩ := rpC_bd ht ts.length (Nat.le_refl _)
  have ax := ax_of (validA_inv hv).1 hj
  have hL := ax.len_le
  have hx := axB_of hv hj
  have hB : rpB sh da j ts = validS (alS sh j (rpL ts)) := by
    simp only [rpB, hx, Int.toNat_natCast, decide_eq_true hl, ht, Bool.true_and]
  obtain ⟨w1, w2, w3⟩ := wp_eq (sh := sh) (da := da) (ls := rpL ts) (j := j) fun x hx => .inr (by have := r2 x hx; omega)
  refine ⟨szB_of ?_, ?_, ?_, ?_⟩
  · have : (rpL ts).length ≤ ts.length * 60 := r1
    omega
  · rw [w1]; unfold rpS; rw [hB]
  · rw [w2]; unfold rpD; rw [hB]
  · rw [w3, hB]
theorem impl_RepeatAxis.loop (fuel : Nat) (sh da : List Int) (j : Nat) (ts : List Int) (hj : j < sh.length) (hv : validA sh da = true) (hl : ts.length = lenN sh j) (i0 : Nat) (hi0 : i0 ≤ ts.length) (h0 : ∀ i, i < i0 → 0 ≤ ts.getD i 0 ∧ ts.getD i 0 ≤ 60) (hf : 61 < fuel) (n1 : Nat) (hn : ts.length - i0 < n1) :
    impl_RepeatAxis.L1 fuel n1 (impl_RepeatAxis.t1 (j : Int) ts sh da (i0 : Int) (rpC ts i0)) (impl_RepeatAxis.k1 fuel) = some ([.agg [((.ints .i64 (rpS sh da j ts)), true), ((.ints .i64 (rpD sh da j ts)), true)], .one ((.bool (rpB sh da j ts)), false)], []) := by
  have ax := ax_of (validA_inv hv).1 hj
  have hL := ax.len_le
  have hx := axB_of hv hj
  have hno : ∀ i, i < ts.length → ¬ (0 ≤ ts.getD i 0 ∧ ts.getD i 0 ≤ 60) → rpB sh da (j : Int) ts = false := by
    intro i hi hn
    cases ht : allB ts 0 60 with
    | true => exact absurd (allB_inv ht hi) hn
    | false => simp only [rpB, ht, Bool.false_and, Bool.and_false]
  have hlen : ∀ i, i ≤ ts.length → (∀ q, q < i → 0 ≤ ts.getD q 0 ∧ ts.getD q 0 ≤ 60) → (rpC ts i).length ≤ i * 60 := by
    intro i
    induction i with
    | zero => intro _ _; simp [rpC]
    | succ i ih =>
      intro hi hq
      have h1 := ih (by omega) (fun q hq' => hq q (by omega))
      have h2 := hq i (by omega)
      simp only [rpC, List.length_append, List.length_replicate]
      omega
  refine cnt_loop (N := ts.length) (fun n i out => impl_RepeatAxis.L1 fuel n (impl_RepeatAxis.t1 (j : Int) ts sh da (i : Int) out) (impl_RepeatAxis.k1 fuel)) (fun i out => out = rpC ts i ∧ ∀ q, q < i → 0 ≤ ts.getD q 0 ∧ ts.getD q 0 ≤ 60) ?_ ?_ n1 i0 (rpC ts i0) hi0 hn ⟨rfl, h0⟩
  · rintro n out ⟨rfl, hq⟩
    have ht : allB ts 0 60 = true := allB_iff.2 fun v hv => by
      obtain ⟨i, hi, rfl⟩ := List.getElem_of_mem hv
      have := hq i hi
      simpa [hi] using this
    obtain ⟨w0, w1, w2, w3⟩ := impl_RepeatAxis.wp sh da j ts hj hv hl ht
    unfold rpL at w0 w1 w2 w3
    rw [impl_RepeatAxis.s1, dge (by omega), cond_false, hx, w0, w1, w2, w3]
    rfl
  · rintro n i out hi ⟨rfl, hq⟩
    have h60 := hlen i (by omega) hq
    rw [impl_RepeatAxis.s1, dlt hi, cond_true, idx_nat hi, w1 (by omega)]
    simp only [Option.bind_some, getD_get hi]
    by_cases c1 : 0 ≤ ts.getD i 0
    · by_cases c2 : ts.getD i 0 ≤ 60
      · refine .inr ⟨rpC ts (i + 1), ⟨rfl, fun q hq' => ?_⟩, ?_⟩
        · by_cases e : q = i
          · subst e; exact ⟨c1, c2⟩
          · exact hq q (by omega)
        · rw [decide_eq_false (p := ts.getD i 0 < 0) (by omega), decide_eq_false (p := ts.getD i 0 > 60) (by omega), decide_eq_true c1, decide_eq_true c2, fitsOk (by rw [List.length_replicate]; omega)]
          rfl
      · refine .inl ?_
        have := hno i hi (fun h => c2 h.2)
        rw [decide_eq_false (p := ts.getD i 0 < 0) (by omega), decide_eq_true (p := ts.getD i 0 > 60) (by omega)]
        simp only [rpS, rpD, this]
        rfl
    · refine .inl ?_
      have := hno i hi (fun h => c1 h.1)
      rw [decide_eq_true (p := ts.getD i 0 < 0) (by omega)]
      simp only [rpS, rpD, this]
      rfl
theorem impl_RepeatAxis.ok : CallSpec Try.prog impl_RepeatAxis.E := impl_RepeatAxis.ok_of (by simp [impl_RepeatAxis.X, impl_axisLength.ok, slices_Repeat_int_int.ok, impl_withPlaces.ok]) fun sh da k ts h => by
  obtain ⟨F, hF⟩ : ∃ F : Nat, 100 < F := ⟨101, by omega⟩
  refine ⟨F + 1, ?_⟩
  simp only [Bool.and_eq_true] at h
  rw [impl_RepeatAxis.e, h.1.1, h.1.2]
  cases hb : axB sh da k with
  | false =>
    have : rpB sh da k ts = false := by simp only [rpB, hb, Bool.false_and]
    simp only [rpS, rpD, this]
    rfl
  | true =>
    obtain ⟨j, rfl, hj, hv, ax, hd, hl⟩ := axB_inv hb
    have hL := ax.len_le
    rw [hl]
    simp only [cond_true, Bool.and_self, Bool.not_true, cond_false]
    by_cases c1 : ts.length = lenN sh j
    · rw [show (((ts.length : Nat) : Int) != ((lenN sh j : Nat) : Int)) = false by simp [c1], cond_false]
      rw [impl_RepeatAxis.s0]
      by_cases h0 : ts.length = 0
      · have e : ts = [] := List.length_eq_zero_iff.1 h0
        obtain ⟨w0, w1, w2, w3⟩ := impl_RepeatAxis.wp sh da j ts hj hv c1 (by rw [e]; rfl)
        have e2 : rpL ts = [] := by rw [e]; rfl
        rw [e2] at w0 w1 w2 w3
        rw [decide_eq_false (p := (0 : Int) < ((ts.length : Nat) : Int)) (by omega), cond_false, hb, w0, w1, w2, w3]
        rfl
      · have hi : 0 < ts.length := by omega
        rw [decide_eq_true (p := (0 : Int) < ((ts.length : Nat) : Int)) (by omega), cond_true, show idx 0 ts.length = some 0 from idx_nat (j := 0) hi]
        simp only [Option.bind_some, getD_get hi]
        have hno : ¬ (0 ≤ ts.getD 0 0 ∧ ts.getD 0 0 ≤ 60) → rpB sh da (j : Int) ts = false := by
          intro hn
          cases ht : allB ts 0 60 with
          | true => exact absurd (allB_inv ht hi) hn
          | false => simp only [rpB, ht, Bool.false_and, Bool.and_false]
        by_cases c2 : 0 ≤ ts.getD 0 0
        · by_cases c3 : ts.getD 0 0 ≤ 60
          · have := impl_RepeatAxis.loop (F + 1) sh da j ts hj hv c1 1 (by omega) (fun i hi' => by
              obtain rfl : i = 0 := (by omega)
              exact ⟨c2, c3⟩) (by omega) F (by omega)
            rw [decide_eq_false (p := ts.getD 0 0 < 0) (by omega), decide_eq_false (p := ts.getD 0 0 > 60) (by omega), decide_eq_true c2, decide_eq_true c3, fitsOk (by rw [List.length_replicate]; omega)]
            exact this
          · have := hno (fun h => c3 h.2)
            rw [decide_eq_false (p := ts.getD 0 0 < 0) (by omega), decide_eq_true (p := ts.getD 0 0 > 60) (by omega)]
            simp only [rpS, rpD, this]
            rfl
        · have := hno (fun h => c2 h.1)
          rw [decide_eq_true (p := ts.getD 0 0 < 0) (by omega)]
          simp only [rpS, rpD, this]
          rfl
    · have : rpB sh da (j : Int) ts = false := by simp only [rpB, Int.toNat_natCast, decide_eq_false c1, Bool.and_false, Bool.false_and]
      rw [show (((ts.length : Nat) : Int) != ((lenN sh j : Nat) : Int)) = true by simp; omega]
      simp only [rpS, rpD, this]
      rfl

namespace laws_FnExpandAxis
noncomputable def E : Entry := ⟨3, true, false, fun | [.d (.ints .u8 bs)] => bytesB bs | _ => false, fun | [.d (.ints .u8 bs)] => ([.one ((.bool true), false)], []) | _ => ([], []), fun _ => [], false, fun _ => none⟩
end laws_FnExpandAxis
namespace laws_FnExpandAxis
noncomputable def X : List Entry := [spec_DrawExpandAxis.E, impl_ExpandAxis.E, spec_ExpandAxis.E, laws_equalArray.E, impl_RepeatAxis.E]
noncomputable def I : List Inl := [⟨3, Try.f3, ⟨[17, 25, 32, 60], [], [], [], [], []⟩⟩]
theorem I_ok : ∀ i ∈ I, Try.prog.funcs[i.f]? = some i.fn ∧ (i.fn.name == "runtime.NumGoroutine") = false := by
  intro i hi
  simp only [I, List.mem_cons, List.not_mem_nil, or_false] at hi
  subst hi
  exact ⟨by kernel_rfl, by kernel_rfl⟩
theorem e (fuel : Nat) (p0 : List Int) : runF Try.prog X I 0 fuel 3 Try.f3 [.d (.ints .u8 p0)] =
  (bif (decide ((((p0.length : Nat) : Int) : Int) > 1048576)) then
  some ([.one ((.bool true), false)], [])
  else
  (bif bytesB p0 then
  (bif decide (((aArS (cutC p0) 0)).length < 9223372036854775808) && decide (((aArD (cutC p0) 0)).length < 9223372036854775808) && szB ((deT (cutC p0))) then
  (bif decide (((aArS (cutC p0) 0)).length < 9223372036854775808) && decide (((aArD (cutC p0) 0)).length < 9223372036854775808) && szB ((deT (cutC p0))) then
  (bif decide (((exS ((aArS (cutC p0) 0)) ((aArD (cutC p0) 0)) ((dAx (cutC p0))) ((deT (cutC p0))))).length < 9223372036854775808) && decide (((exD ((aArS (cutC p0) 0)) ((aArD (cutC p0) 0)) ((dAx (cutC p0))) ((deT (cutC p0))))).length < 9223372036854775808) && decide (((exS ((aArS (cutC p0) 0)) ((aArD (cutC p0) 0)) ((dAx (cutC p0))) ((deT (cutC p0))))).length < 9223372036854775808) && decide (((exD ((aArS (cutC p0) 0)) ((aArD (cutC p0) 0)) ((dAx (cutC p0))) ((deT (cutC p0))))).length < 9223372036854775808) then
  (bif (!(decide (((exS ((aArS (cutC p0) 0)) ((aArD (cutC p0) 0)) ((dAx (cutC p0))) ((deT (cutC p0))))) = ((exS ((aArS (cutC p0) 0)) ((aArD (cutC p0) 0)) ((dAx (cutC p0))) ((deT (cutC p0)))))) && decide (((exD ((aArS (cutC p0) 0)) ((aArD (cutC p0) 0)) ((dAx (cutC p0))) ((deT (cutC p0))))) = ((exD ((aArS (cutC p0) 0)) ((aArD (cutC p0) 0)) ((dAx (cutC p0))) ((deT (cutC p0)))))))) then
  (bif decide (((exS ((aArS (cutC p0) 0)) ((aArD (cutC p0) 0)) ((dAx (cutC p0))) ((deT (cutC p0))))).length < 9223372036854775808) && decide (((exD ((aArS (cutC p0) 0)) ((aArD (cutC p0) 0)) ((dAx (cutC p0))) ((deT (cutC p0))))).length < 9223372036854775808) && decide (((exS ((aArS (cutC p0) 0)) ((aArD (cutC p0) 0)) ((dAx (cutC p0))) ((deT (cutC p0))))).length < 9223372036854775808) && decide (((exD ((aArS (cutC p0) 0)) ((aArD (cutC p0) 0)) ((dAx (cutC p0))) ((deT (cutC p0))))).length < 9223372036854775808) then
  (bif (decide (((exS ((aArS (cutC p0) 0)) ((aArD (cutC p0) 0)) ((dAx (cutC p0))) ((deT (cutC p0))))) = ((exS ((aArS (cutC p0) 0)) ((aArD (cutC p0) 0)) ((dAx (cutC p0))) ((deT (cutC p0)))))) && decide (((exD ((aArS (cutC p0) 0)) ((aArD (cutC p0) 0)) ((dAx (cutC p0))) ((deT (cutC p0))))) = ((exD ((aArS (cutC p0) 0)) ((aArD (cutC p0) 0)) ((dAx (cutC p0))) ((deT (cutC p0))))))) then
  some ([.one ((.bool ((exB ((aArS (cutC p0) 0)) ((aArD (cutC p0) 0)) ((dAx (cutC p0))) ((deT (cutC p0)))) == (exB ((aArS (cutC p0) 0)) ((aArD (cutC p0) 0)) ((dAx (cutC p0))) ((deT (cutC p0)))))), false)], [])
  else
  some ([.one ((.bool false), false)], []))
  else
  none)
  else
  (bif (!((exB ((aArS (cutC p0) 0)) ((aArD (cutC p0) 0)) ((dAx (cutC p0))) ((deT (cutC p0)))) == (exB ((aArS (cutC p0) 0)) ((aArD (cutC p0) 0)) ((dAx (cutC p0))) ((deT (cutC p0)))))) then
  (bif decide (((exS ((aArS (cutC p0) 0)) ((aArD (cutC p0) 0)) ((dAx (cutC p0))) ((deT (cutC p0))))).length < 9223372036854775808) && decide (((exD ((aArS (cutC p0) 0)) ((aArD (cutC p0) 0)) ((dAx (cutC p0))) ((deT (cutC p0))))).length < 9223372036854775808) && decide (((exS ((aArS (cutC p0) 0)) ((aArD (cutC p0) 0)) ((dAx (cutC p0))) ((deT (cutC p0))))).length < 9223372036854775808) && decide (((exD ((aArS (cutC p0) 0)) ((aArD (cutC p0) 0)) ((dAx (cutC p0))) ((deT (cutC p0))))).length < 9223372036854775808) then
  (bif (decide (((exS ((aArS (cutC p0) 0)) ((aArD (cutC p0) 0)) ((dAx (cutC p0))) ((deT (cutC p0))))) = ((exS ((aArS (cutC p0) 0)) ((aArD (cutC p0) 0)) ((dAx (cutC p0))) ((deT (cutC p0)))))) && decide (((exD ((aArS (cutC p0) 0)) ((aArD (cutC p0) 0)) ((dAx (cutC p0))) ((deT (cutC p0))))) = ((exD ((aArS (cutC p0) 0)) ((aArD (cutC p0) 0)) ((dAx (cutC p0))) ((deT (cutC p0))))))) then
  some ([.one ((.bool ((exB ((aArS (cutC p0) 0)) ((aArD (cutC p0) 0)) ((dAx (cutC p0))) ((deT (cutC p0)))) == (exB ((aArS (cutC p0) 0)) ((aArD (cutC p0) 0)) ((dAx (cutC p0))) ((deT (cutC p0)))))), false)], [])
  else
  some ([.one ((.bool false), false)], []))
  else
  none)
  else
  (bif (!(exB ((aArS (cutC p0) 0)) ((aArD (cutC p0) 0)) ((dAx (cutC p0))) ((deT (cutC p0))))) then
  (bif decide (((exS ((aArS (cutC p0) 0)) ((aArD (cutC p0) 0)) ((dAx (cutC p0))) ((deT (cutC p0))))).length < 9223372036854775808) && decide (((exD ((aArS (cutC p0) 0)) ((aArD (cutC p0) 0)) ((dAx (cutC p0))) ((deT (cutC p0))))).length < 9223372036854775808) && decide (((exS ((aArS (cutC p0) 0)) ((aArD (cutC p0) 0)) ((dAx (cutC p0))) ((deT (cutC p0))))).length < 9223372036854775808) && decide (((exD ((aArS (cutC p0) 0)) ((aArD (cutC p0) 0)) ((dAx (cutC p0))) ((deT (cutC p0))))).length < 9223372036854775808) then
  (bif (decide (((exS ((aArS (cutC p0) 0)) ((aArD (cutC p0) 0)) ((dAx (cutC p0))) ((deT (cutC p0))))) = ((exS ((aArS (cutC p0) 0)) ((aArD (cutC p0) 0)) ((dAx (cutC p0))) ((deT (cutC p0)))))) && decide (((exD ((aArS (cutC p0) 0)) ((aArD (cutC p0) 0)) ((dAx (cutC p0))) ((deT (cutC p0))))) = ((exD ((aArS (cutC p0) 0)) ((aArD (cutC p0) 0)) ((dAx (cutC p0))) ((deT (cutC p0))))))) then
  some ([.one ((.bool ((exB ((aArS (cutC p0) 0)) ((aArD (cutC p0) 0)) ((dAx (cutC p0))) ((deT (cutC p0)))) == (exB ((aArS (cutC p0) 0)) ((aArD (cutC p0) 0)) ((dAx (cutC p0))) ((deT (cutC p0)))))), false)], [])
  else
  some ([.one ((.bool false), false)], []))
  else
  none)
  else
  (bif decide (((exS ((aArS (cutC p0) 0)) ((aArD (cutC p0) 0)) ((dAx (cutC p0))) ((deT (cutC p0))))).length < 9223372036854775808) && decide (((exD ((aArS (cutC p0) 0)) ((aArD (cutC p0) 0)) ((dAx (cutC p0))) ((deT (cutC p0))))).length < 9223372036854775808) && decide (((deT (cutC p0))).length < 9223372036854775808) then
  (bif (rpB ((exS ((aArS (cutC p0) 0)) ((aArD (cutC p0) 0)) ((dAx (cutC p0))) ((deT (cutC p0))))) ((exD ((aArS (cutC p0) 0)) ((aArD (cutC p0) 0)) ((dAx (cutC p0))) ((deT (cutC p0))))) ((dAx (cutC p0))) ((deT (cutC p0)))) then
  (bif decide (((rpS ((exS ((aArS (cutC p0) 0)) ((aArD (cutC p0) 0)) ((dAx (cutC p0))) ((deT (cutC p0))))) ((exD ((aArS (cutC p0) 0)) ((aArD (cutC p0) 0)) ((dAx (cutC p0))) ((deT (cutC p0))))) ((dAx (cutC p0))) ((deT (cutC p0))))).length < 9223372036854775808) && decide (((rpD ((exS ((aArS (cutC p0) 0)) ((aArD (cutC p0) 0)) ((dAx (cutC p0))) ((deT (cutC p0))))) ((exD ((aArS (cutC p0) 0)) ((aArD (cutC p0) 0)) ((dAx (cutC p0))) ((deT (cutC p0))))) ((dAx (cutC p0))) ((deT (cutC p0))))).length < 9223372036854775808) && decide (((aArS (cutC p0) 0)).length < 9223372036854775808) && decide (((aArD (cutC p0) 0)).length < 9223372036854775808) then
  (bif (decide (((rpS ((exS ((aArS (cutC p0) 0)) ((aArD (cutC p0) 0)) ((dAx (cutC p0))) ((deT (cutC p0))))) ((exD ((aArS (cutC p0) 0)) ((aArD (cutC p0) 0)) ((dAx (cutC p0))) ((deT (cutC p0))))) ((dAx (cutC p0))) ((deT (cutC p0))))) = ((aArS (cutC p0) 0))) && decide (((rpD ((exS ((aArS (cutC p0) 0)) ((aArD (cutC p0) 0)) ((dAx (cutC p0))) ((deT (cutC p0))))) ((exD ((aArS (cutC p0) 0)) ((aArD (cutC p0) 0)) ((dAx (cutC p0))) ((deT (cutC p0))))) ((dAx (cutC p0))) ((deT (cutC p0))))) = ((aArD (cutC p0) 0)))) then
  (idx (dAx (cutC p0)) (exS ((aArS (cutC p0) 0)) ((aArD (cutC p0) 0)) ((dAx (cutC p0))) ((deT (cutC p0)))).length).bind fun j1 =>
  ((exS ((aArS (cutC p0) 0)) ((aArD (cutC p0) 0)) ((dAx (cutC p0))) ((deT (cutC p0))))[j1]?).bind fun v2 =>
  some ([.one ((.bool ((v2 : Int) == (((deT (cutC p0)).length : Nat) : Int))), false)], [])
  else
  some ([.one ((.bool false), false)], []))
  else
  none)
  else
  some ([.one ((.bool false), false)], []))
  else
  none))))
  else
  none)
  else
  none)
  else
  none)
  else
  none)) := by kernel_rfl
end laws_FnExpandAxis
theorem laws_FnExpandAxis.ok_of (hX : ∀ E ∈ laws_FnExpandAxis.X, CallSpec Try.prog E) (h : ∀ (bs : List Int), (bytesB bs) = true → ∃ fuel, runF Try.prog laws_FnExpandAxis.X laws_FnExpandAxis.I 0 fuel 3 Try.f3 [.d (.ints .u8 bs)] = some ([.one ((.bool true), false)], [])) : CallSpec Try.prog laws_FnExpandAxis.E :=
  callSpec_of (d := 0) hX (by kernel_rfl) laws_FnExpandAxis.I_ok (by kernel_rfl) (by kernel_rfl) (by kernel_rfl) (fun _ _ _ _ h => by dsimp only [laws_FnExpandAxis.E] at h; cases h) (fun xs hp => by
    dsimp only [laws_FnExpandAxis.E] at hp ⊢
    split at hp
    · exact h _ hp
    · cases hp)
theorem laws_FnExpandAxis.ok : CallSpec Try.prog laws_FnExpandAxis.E := laws_FnExpandAxis.ok_of (by simp [laws_FnExpandAxis.X, spec_DrawExpandAxis.ok, impl_ExpandAxis.ok, spec_ExpandAxis.ok, laws_equalArray.ok, impl_RepeatAxis.ok]) fun bs h => by
  obtain ⟨F, hF⟩ : ∃ F : Nat, 4000 < F := ⟨4001, by omega⟩
  refine ⟨F, ?_⟩
  rw [laws_FnExpandAxis.e]
  by_cases hl : ((bs.length : Nat) : Int) > 1048576
  · rw [decide_eq_true hl]; rfl
  rw [decide_eq_false hl, cond_false, h, cond_true]
  have r0 := cut_ok h (p := 0) (by omega) (by omega)
  obtain ⟨_, _, a1, a2, _, _⟩ := dj_bd r0
  have tl := deT_len (cutC bs)
  obtain ⟨sh, hsh⟩ : ∃ x, aArS (cutC bs) 0 = x := ⟨_, rfl⟩
  obtain ⟨da, hda⟩ : ∃ x, aArD (cutC bs) 0 = x := ⟨_, rfl⟩
  obtain ⟨k, hk⟩ : ∃ x, dAx (cutC bs) = x := ⟨_, rfl⟩
  obtain ⟨mk, hmk⟩ : ∃ x, deT (cutC bs) = x := ⟨_, rfl⟩
  rw [hsh] at a1
  rw [hda] at a2
  rw [hmk] at tl
  have g1 := lt_of (xs := sh) (by omega)
  have g2 := lt_of (xs := da) (by omega)
  have g3 := szB_of (xs := mk) (by omega)
  have g4 := lt_of (xs := mk) (by omega)
  simp only [hsh, hda, hk, hmk]
  have xl := ex_len sh da k mk
  have h1 := lt_of (xs := exS sh da k mk) (by omega)
  have h2 := lt_of (xs := exD sh da k mk) (by omega)
  cases hb : exB sh da k mk with
  | false => simp only [Bool.and_self, Bool.and_true, Bool.true_and, cond_true, cond_false, Bool.not_true, Bool.not_false, bne_self_eq_false, beq_self_eq_true, decide_true, eq_self, g1, g2, g3, g4, h1, h2]
  | true =>
    obtain ⟨f1, f2, f3, ⟨j, hj, hj2, hj3⟩, f4, f5, hal⟩ := ex_facts hb
    simp only [Bool.and_self, Bool.and_true, Bool.true_and, cond_true, cond_false, Bool.not_true, Bool.not_false, bne_self_eq_false, beq_self_eq_true, decide_true, eq_self, g1, g2, g3, g4, h1, h2, f1, f2, f3]
    rw [hj] at hj2 hj3 ⊢
    rw [idx_nat hj2]
    simp only [Option.bind_some, getD_get hj2, hj3]
    simp only [Bool.and_self, Bool.and_true, Bool.true_and, cond_true, cond_false, Bool.not_true, Bool.not_false, bne_self_eq_false, beq_self_eq_true, decide_true, eq_self]

end Go.Ab
