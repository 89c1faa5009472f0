import Derived.Test.YtokdoghgibahkaaEp
import Derived.Test.YtokdoghgibahkaaProg
import Derived.Test.YtokdoghgibahkaaChecked
open Go Go.Ab Go.Proofs
set_option maxRecDepth 100000
set_option linter.unusedVariables false
set_option linter.unusedSimpArgs false
namespace Go.Ab
namespace spec_newReader
noncomputable def E : Entry := ⟨35, false, false, fun | [.d (.ints .u8 bs)] => true | _ => false, fun | [.d (.ints .u8 bs)] => ([.box [((.ints .u8 (cutC bs)), false), ((.int .i64 0), false)]], []) | _ => ([], []), fun _ => [], true, fun _ => none⟩
end spec_newReader
namespace spec_newReader
noncomputable def X : List Entry := []
noncomputable def I : List Inl := [⟨35, Try.f35, ⟨[], [], [], [], [], []⟩⟩]
theorem I_ok : ∀ i ∈ I, Try.prog.funcs[i.f]? = some i.fn ∧ (i.fn.name == "runtime.NumGoroutine") = false := by
  intro i hi
  simp only [I, List.mem_cons, List.not_mem_nil, or_false] at hi
  subst hi
  exact ⟨by kernel_rfl, by kernel_rfl⟩
theorem e (fuel : Nat) (p0 : List Int) : runF Try.prog X I 0 fuel 35 Try.f35 [.d (.ints .u8 p0)] =
  (bif (decide ((((p0.length : Nat) : Int) : Int) > 2000)) then
  (cutEnds p0.length (none) (some (.imm (.int .i64 2000)))).bind fun cq1 =>
  some ([.box [((.ints .u8 ((p0.drop cq1.1).take (cq1.2 - cq1.1))), false), ((.int .i64 0), false)]], [])
  else
  some ([.box [((.ints .u8 p0), false), ((.int .i64 0), false)]], [])) := by kernel_rfl
end spec_newReader
theorem spec_newReader.ok_of (hX : ∀ E ∈ spec_newReader.X, CallSpec Try.prog E) (h : ∀ (bs : List Int), (true) = true → ∃ fuel, runF Try.prog spec_newReader.X spec_newReader.I 0 fuel 35 Try.f35 [.d (.ints .u8 bs)] = some ([.box [((.ints .u8 (cutC bs)), false), ((.int .i64 0), false)]], [])) : CallSpec Try.prog spec_newReader.E :=
  callSpec_of (d := 0) hX (by kernel_rfl) spec_newReader.I_ok (by kernel_rfl) (by kernel_rfl) (by kernel_rfl) (fun _ _ _ _ h => by dsimp only [spec_newReader.E] at h; cases h) (fun xs hp => by
    dsimp only [spec_newReader.E] at hp ⊢
    split at hp
    · exact h _ hp
    · cases hp)
theorem spec_newReader.ok : CallSpec Try.prog spec_newReader.E := spec_newReader.ok_of (by simp [spec_newReader.X]) fun bs _ => ⟨0, by
  rw [spec_newReader.e]
  unfold cutC
  by_cases h : ((bs.length : Nat) : Int) > 2000
  · rw [decide_eq_true h]
    have : cutEnds bs.length none (some (.imm (.int .i64 2000))) = some (0, 2000) := by
      unfold cutEnds
      simp only
      rw [if_pos ⟨by omega, by omega⟩]
      rfl
    rw [this]
    rfl
  · rw [decide_eq_false h]
    rfl⟩

namespace spec_reader_pick
noncomputable def E : Entry := ⟨60, false, false, fun | [.box [(.ints .u8 bs), (.int .i64 p)], .d (.int .i64 n)] => rdOk bs p && decide ((n : Int) ≤ 1048576) | _ => false, fun | [.box [(.ints .u8 bs), (.int .i64 p)], .d (.int .i64 n)] => ([.one ((.int .i64 (pickV bs p n)), false)], [[(.ints .u8 bs), (.int .i64 (p + 1))]]) | _ => ([], []), fun _ => [], false, fun _ => none⟩
end spec_reader_pick
namespace spec_reader_pick
noncomputable def X : List Entry := []
noncomputable def I : List Inl := [⟨60, Try.f60, ⟨[], [], [], [(7, [0, 1, 2, 4, 5, 6, 7, 15, 16, 17, 19, 20, 21, 22, 23, 24, 33, 34, 36, 37, 38, 39, 3, 8, 9, 10, 11, 12, 13, 14, 18, 25, 26, 27, 28, 29, 30, 31, 32, 35, 40, 41, 42, 43, 44, 45])], [], []⟩⟩]
theorem I_ok : ∀ i ∈ I, Try.prog.funcs[i.f]? = some i.fn ∧ (i.fn.name == "runtime.NumGoroutine") = false := by
  intro i hi
  simp only [I, List.mem_cons, List.not_mem_nil, or_false] at hi
  subst hi
  exact ⟨by kernel_rfl, by kernel_rfl⟩
theorem e (fuel : Nat) (p0q0 : List Int) (p0q1 : Int) (p1 : Int) : runF Try.prog X I 0 fuel 60 Try.f60 [.box [(.ints .u8 p0q0), (.int .i64 p0q1)], .d (.int .i64 p1)] =
  (bif (decide ((p1 : Int) < 1)) then
  some ([.one ((.int .i64 0), false)], [[(.ints .u8 p0q0), (.int .i64 (IntKind.wrap .i64 (p0q1 + 1)))]])
  else
  (bif ((((p0q0.length : Nat) : Int) : Int) == 0) then
  some ([.one ((.int .i64 0), false)], [[(.ints .u8 p0q0), (.int .i64 (IntKind.wrap .i64 (p0q1 + 1)))]])
  else
  (bif (decide (((IntKind.wrap .i64 ((IntKind.wrap .i64 (p0q1 + 1)) - 1)) : Int) < ((p0q0.length : Nat) : Int))) then
  (idx (IntKind.wrap .i64 ((IntKind.wrap .i64 (p0q1 + 1)) - 1)) p0q0.length).bind fun j1 =>
  (p0q0[j1]?).bind fun v2 =>
  (bif decide ((p1 : Int) = 0) then
  none
  else
  some ([.one ((.int .i64 (Int.tmod (IntKind.wrap .i64 v2) p1)), false)], [[(.ints .u8 p0q0), (.int .i64 (IntKind.wrap .i64 (p0q1 + 1)))]]))
  else
  (bif decide ((((p0q0.length : Nat) : Int) : Int) = 0) then
  none
  else
  (idx (Int.tmod (IntKind.wrap .i64 ((IntKind.wrap .i64 (p0q1 + 1)) - 1)) ((p0q0.length : Nat) : Int)) p0q0.length).bind fun j3 =>
  (p0q0[j3]?).bind fun v4 =>
  (bif decide ((((p0q0.length : Nat) : Int) : Int) = 0) then
  none
  else
  (idx (Int.tmod (IntKind.wrap .i64 ((IntKind.wrap .i64 ((IntKind.wrap .i64 ((IntKind.wrap .i64 (p0q1 + 1)) - 1)) * 7)) + 3)) ((p0q0.length : Nat) : Int)) p0q0.length).bind fun j5 =>
  (p0q0[j5]?).bind fun v6 =>
  (bif decide ((((p0q0.length : Nat) : Int) : Int) = 0) then
  none
  else
  (bif decide ((p1 : Int) = 0) then
  none
  else
  some ([.one ((.int .i64 (Int.tmod (IntKind.wrap .i64 ((BitVec.ofInt (IntKind.bits .i64) (IntKind.wrap .i64 ((IntKind.wrap .i64 ((IntKind.wrap .i64 ((IntKind.wrap .i64 ((IntKind.wrap .i64 v4) * 131)) + (IntKind.wrap .i64 ((IntKind.wrap .i64 v6) * 1117)))) + (IntKind.wrap .i64 ((IntKind.wrap .i64 ((IntKind.wrap .i64 (p0q1 + 1)) - 1)) * 29)))) + (IntKind.wrap .i64 ((IntKind.wrap .i64 (Int.tdiv (IntKind.wrap .i64 ((IntKind.wrap .i64 (p0q1 + 1)) - 1)) ((p0q0.length : Nat) : Int))) * 53)))) ^^^ BitVec.ofInt (IntKind.bits .i64) (IntKind.wrap .i64 (Int.tdiv (IntKind.wrap .i64 ((IntKind.wrap .i64 ((IntKind.wrap .i64 ((IntKind.wrap .i64 ((IntKind.wrap .i64 v4) * 131)) + (IntKind.wrap .i64 ((IntKind.wrap .i64 v6) * 1117)))) + (IntKind.wrap .i64 ((IntKind.wrap .i64 ((IntKind.wrap .i64 (p0q1 + 1)) - 1)) * 29)))) + (IntKind.wrap .i64 ((IntKind.wrap .i64 (Int.tdiv (IntKind.wrap .i64 ((IntKind.wrap .i64 (p0q1 + 1)) - 1)) ((p0q0.length : Nat) : Int))) * 53)))) 64))).toNat : Int)) p1)), false)], [[(.ints .u8 p0q0), (.int .i64 (IntKind.wrap .i64 (p0q1 + 1)))]])))))))) := by kernel_rfl
end spec_reader_pick
theorem spec_reader_pick.ok_of (hX : ∀ E ∈ spec_reader_pick.X, CallSpec Try.prog E) (h : ∀ (bs : List Int) (p : Int) (n : Int), (rdOk bs p && decide ((n : Int) ≤ 1048576)) = true → ∃ fuel, runF Try.prog spec_reader_pick.X spec_reader_pick.I 0 fuel 60 Try.f60 [.box [(.ints .u8 bs), (.int .i64 p)], .d (.int .i64 n)] = some ([.one ((.int .i64 (pickV bs p n)), false)], [[(.ints .u8 bs), (.int .i64 (p + 1))]])) : CallSpec Try.prog spec_reader_pick.E :=
  callSpec_of (d := 0) hX (by kernel_rfl) spec_reader_pick.I_ok (by kernel_rfl) (by kernel_rfl) (by kernel_rfl) (fun _ _ _ _ h => by dsimp only [spec_reader_pick.E] at h; cases h) (fun xs hp => by
    dsimp only [spec_reader_pick.E] at hp ⊢
    split at hp
    · exact h _ _ _ hp
    · cases hp)
theorem spec_reader_pick.ok : CallSpec Try.prog spec_reader_pick.E := spec_reader_pick.ok_of (by simp [spec_reader_pick.X]) fun bs p n h => ⟨0, by
  simp only [Bool.and_eq_true, decide_eq_true_eq] at h
  obtain ⟨h0, h1, h2, h3⟩ := rdOk_inv h.1
  have hP := @wS (p + 1) (by omega) (by omega)
  have hK := @wS (p + 1 - 1) (by omega) (by omega)
  rw [show p + 1 - 1 = p by omega] at hK
  rw [spec_reader_pick.e]
  simp only [hP, show p + 1 - 1 = p by omega, hK]
  unfold pickV
  by_cases hn : n < 1
  · rw [decide_eq_true hn]; rfl
  rw [decide_eq_false hn, cond_false, cond_false]
  by_cases hL : bs.length = 0
  · rw [show (((bs.length : Nat) : Int) == 0) = true by simp [hL]]; rfl
  rw [beq0 hL, cond_false, cond_false]
  by_cases hp : p < ((bs.length : Nat) : Int)
  · have hlt : p.toNat < bs.length := by omega
    have hi : idx p bs.length = some p.toNat := by unfold idx; rw [if_pos ⟨h0, hp⟩]
    rw [decide_eq_true hp, hi, decide_eq_false (p := n = 0) (by omega)]
    simp [hlt]
  · have t1 := tmod_bd (x := p) (n := ((bs.length : Nat) : Int)) h0 (by omega)
    have e7 := @wS (p * 7) (by omega) (by omega)
    have e8 := @wS (p * 7 + 3) (by omega) (by omega)
    have t2 := tmod_bd (x := p * 7 + 3) (n := ((bs.length : Nat) : Int)) (by omega) (by omega)
    have i1 : idx (Int.tmod p ((bs.length : Nat) : Int)) bs.length = some (Int.tmod p ((bs.length : Nat) : Int)).toNat := by unfold idx; rw [if_pos t1]
    have i2 : idx (Int.tmod (p * 7 + 3) ((bs.length : Nat) : Int)) bs.length = some (Int.tmod (p * 7 + 3) ((bs.length : Nat) : Int)).toNat := by unfold idx; rw [if_pos t2]
    have g1 : (Int.tmod p ((bs.length : Nat) : Int)).toNat < bs.length := by omega
    have g2 : (Int.tmod (p * 7 + 3) ((bs.length : Nat) : Int)).toNat < bs.length := by omega
    have q1 : bs[(Int.tmod p ((bs.length : Nat) : Int)).toNat]? = some (bs.getD (Int.tmod p ((bs.length : Nat) : Int)).toNat 0) := by simp [g1]
    have q2 : bs[(Int.tmod (p * 7 + 3) ((bs.length : Nat) : Int)).toNat]? = some (bs.getD (Int.tmod (p * 7 + 3) ((bs.length : Nat) : Int)).toNat 0) := by simp [g2]
    rw [decide_eq_false hp, decide_eq_false (p := (((bs.length : Nat) : Int) = 0)) (by omega), decide_eq_false (p := n = 0) (by omega), e7, e8, i1, i2]
    simp only [cond_false, Option.bind_some, q1, q2]
    rfl⟩

namespace spec_someShape
noncomputable def E : Entry := ⟨64, false, false, fun | [.box [(.ints .u8 bs), (.int .i64 p)]] => rdOk bs p && decide ((p : Int) ≤ 2000000) | _ => false, fun | [.box [(.ints .u8 bs), (.int .i64 p)]] => ([.one ((.ints .i64 (sShV bs p)), true)], [[(.ints .u8 bs), (.int .i64 (sShP bs p))]]) | _ => ([], []), fun _ => [], false, fun _ => none⟩
end spec_someShape
namespace spec_someShape
noncomputable def X : List Entry := [spec_reader_pick.E]
noncomputable def I : List Inl := [⟨64, Try.f64, ⟨[], [], [], [], [], []⟩⟩]
theorem I_ok : ∀ i ∈ I, Try.prog.funcs[i.f]? = some i.fn ∧ (i.fn.name == "runtime.NumGoroutine") = false := by
  intro i hi
  simp only [I, List.mem_cons, List.not_mem_nil, or_false] at hi
  subst hi
  exact ⟨by kernel_rfl, by kernel_rfl⟩
theorem e (fuel : Nat) (p0q0 : List Int) (p0q1 : Int) : runF Try.prog X I 0 fuel 64 Try.f64 [.box [(.ints .u8 p0q0), (.int .i64 p0q1)]] =
  (bif rdOk p0q0 p0q1 && decide ((8 : Int) ≤ 1048576) then
  (bif (((pickV p0q0 p0q1 8) : Int) == 0) then
  some ([.one ((.ints .i64 []), true)], [[(.ints .u8 p0q0), (.int .i64 (p0q1 + 1))]])
  else
  (bif (((pickV p0q0 p0q1 8) : Int) == 1) then
  (bif rdOk p0q0 ((p0q1 + 1)) && decide ((7 : Int) ≤ 1048576) then
  some ([.one ((.ints .i64 [(pickV p0q0 ((p0q1 + 1)) 7)]), true)], [[(.ints .u8 p0q0), (.int .i64 (((p0q1 + 1)) + 1))]])
  else
  none)
  else
  (bif (((pickV p0q0 p0q1 8) : Int) == 2) then
  (bif rdOk p0q0 ((p0q1 + 1)) && decide ((7 : Int) ≤ 1048576) then
  some ([.one ((.ints .i64 [(pickV p0q0 ((p0q1 + 1)) 7)]), true)], [[(.ints .u8 p0q0), (.int .i64 (((p0q1 + 1)) + 1))]])
  else
  none)
  else
  (bif (((pickV p0q0 p0q1 8) : Int) == 3) then
  (bif rdOk p0q0 ((p0q1 + 1)) && decide ((7 : Int) ≤ 1048576) then
  some ([.one ((.ints .i64 [(pickV p0q0 ((p0q1 + 1)) 7)]), true)], [[(.ints .u8 p0q0), (.int .i64 (((p0q1 + 1)) + 1))]])
  else
  none)
  else
  (bif (((pickV p0q0 p0q1 8) : Int) == 4) then
  (bif rdOk p0q0 ((p0q1 + 1)) && decide ((5 : Int) ≤ 1048576) then
  (bif rdOk p0q0 ((((p0q1 + 1)) + 1)) && decide ((5 : Int) ≤ 1048576) then
  some ([.one ((.ints .i64 [(pickV p0q0 ((p0q1 + 1)) 5), (pickV p0q0 ((((p0q1 + 1)) + 1)) 5)]), true)], [[(.ints .u8 p0q0), (.int .i64 (((((p0q1 + 1)) + 1)) + 1))]])
  else
  none)
  else
  none)
  else
  (bif (((pickV p0q0 p0q1 8) : Int) == 5) then
  (bif rdOk p0q0 ((p0q1 + 1)) && decide ((5 : Int) ≤ 1048576) then
  (bif rdOk p0q0 ((((p0q1 + 1)) + 1)) && decide ((5 : Int) ≤ 1048576) then
  some ([.one ((.ints .i64 [(pickV p0q0 ((p0q1 + 1)) 5), (pickV p0q0 ((((p0q1 + 1)) + 1)) 5)]), true)], [[(.ints .u8 p0q0), (.int .i64 (((((p0q1 + 1)) + 1)) + 1))]])
  else
  none)
  else
  none)
  else
  (bif (((pickV p0q0 p0q1 8) : Int) == 6) then
  (bif rdOk p0q0 ((p0q1 + 1)) && decide ((5 : Int) ≤ 1048576) then
  (bif rdOk p0q0 ((((p0q1 + 1)) + 1)) && decide ((5 : Int) ≤ 1048576) then
  some ([.one ((.ints .i64 [(pickV p0q0 ((p0q1 + 1)) 5), (pickV p0q0 ((((p0q1 + 1)) + 1)) 5)]), true)], [[(.ints .u8 p0q0), (.int .i64 (((((p0q1 + 1)) + 1)) + 1))]])
  else
  none)
  else
  none)
  else
  (bif rdOk p0q0 ((p0q1 + 1)) && decide ((4 : Int) ≤ 1048576) then
  (bif rdOk p0q0 ((((p0q1 + 1)) + 1)) && decide ((4 : Int) ≤ 1048576) then
  (bif rdOk p0q0 ((((((p0q1 + 1)) + 1)) + 1)) && decide ((4 : Int) ≤ 1048576) then
  some ([.one ((.ints .i64 [(pickV p0q0 ((p0q1 + 1)) 4), (pickV p0q0 ((((p0q1 + 1)) + 1)) 4), (pickV p0q0 ((((((p0q1 + 1)) + 1)) + 1)) 4)]), true)], [[(.ints .u8 p0q0), (.int .i64 (((((((p0q1 + 1)) + 1)) + 1)) + 1))]])
  else
  none)
  else
  none)
  else
  none))))))))
  else
  none) := by kernel_rfl
end spec_someShape
theorem spec_someShape.ok_of (hX : ∀ E ∈ spec_someShape.X, CallSpec Try.prog E) (h : ∀ (bs : List Int) (p : Int), (rdOk bs p && decide ((p : Int) ≤ 2000000)) = true → ∃ fuel, runF Try.prog spec_someShape.X spec_someShape.I 0 fuel 64 Try.f64 [.box [(.ints .u8 bs), (.int .i64 p)]] = some ([.one ((.ints .i64 (sShV bs p)), true)], [[(.ints .u8 bs), (.int .i64 (sShP bs p))]])) : CallSpec Try.prog spec_someShape.E :=
  callSpec_of (d := 0) hX (by kernel_rfl) spec_someShape.I_ok (by kernel_rfl) (by kernel_rfl) (by kernel_rfl) (fun _ _ _ _ h => by dsimp only [spec_someShape.E] at h; cases h) (fun xs hp => by
    dsimp only [spec_someShape.E] at hp ⊢
    split at hp
    · exact h _ _ hp
    · cases hp)
theorem spec_someShape.ok : CallSpec Try.prog spec_someShape.E := spec_someShape.ok_of (by simp [spec_someShape.X, spec_reader_pick.ok]) fun bs p h => ⟨0, by
  simp only [Bool.and_eq_true, decide_eq_true_eq] at h
  have r0 := h.1
  have r1 := rd_le (q := p + 1) h.1 (by omega) (by omega)
  have r2 := rd_le (q := p + 1 + 1) h.1 (by omega) (by omega)
  have r3 := rd_le (q := p + 1 + 1 + 1) h.1 (by omega) (by omega)
  rw [spec_someShape.e, r0, r1, r2, r3]
  unfold sShV sShP
  cases pickV bs p 8 == 0 <;> cases pickV bs p 8 == 1 <;> cases pickV bs p 8 == 2 <;> cases pickV bs p 8 == 3 <;> cases pickV bs p 8 == 4 <;> cases pickV bs p 8 == 5 <;> cases pickV bs p 8 == 6 <;> rfl⟩

namespace spec_volume
noncomputable def E : Entry := ⟨61, true, false, fun | [.d (.ints .i64 xs)] => decide (xs.length < 9223372036854775808) | _ => false, fun | [.d (.ints .i64 xs)] => ([.one ((.int .i64 (volW xs)), false)], []) | _ => ([], []), fun _ => [], false, fun _ => none⟩
end spec_volume
namespace spec_volume
noncomputable def X : List Entry := []
noncomputable def I : List Inl := [⟨61, Try.f61, ⟨[], [(1000003, [1, 2, 5, 6, 7, 8, 9, 10, 11, 12, 13, 14, 15, 16, 17])], [], [], [], []⟩⟩]
theorem I_ok : ∀ i ∈ I, Try.prog.funcs[i.f]? = some i.fn ∧ (i.fn.name == "runtime.NumGoroutine") = false := by
  intro i hi
  simp only [I, List.mem_cons, List.not_mem_nil, or_false] at hi
  subst hi
  exact ⟨by kernel_rfl, by kernel_rfl⟩
noncomputable abbrev L0 (fuel n : Nat) (s : St) (k : Kont) := lAt Try.prog X I fuel true 0 false 61 (bodyOf Try.f61) [1, 1, 0, 1, 0] n s k
noncomputable abbrev k0  (fuel : Nat) : Kont := (kAt Try.prog X I fuel true 0 false 61 (bodyOf Try.f61) [1, 1, 0, 1, 0] [] (endK Try.prog Try.f61))
noncomputable def t0 (p0 : List Int) (x0q1 : Int) (x0q2 : Int) : St := ⟨[(.imm (.ints .i64 p0)), .dead, .dead, (.imm (.int .i64 x0q1)), (.imm (.int .i64 x0q2)), .dead, .dead, .dead, .dead, .dead, .dead, .dead, .dead, .dead, .dead, .dead, .dead, .dead], hOf [], [], []⟩
theorem e (fuel : Nat) (p0 : List Int) : runF Try.prog X I 0 fuel 61 Try.f61 [.d (.ints .i64 p0)] =
  L0 fuel fuel (t0 p0 1 0) (k0  fuel) := by kernel_rfl
theorem s0 (fuel n0 : Nat) (p0 : List Int) (x0q1 : Int) (x0q2 : Int) : L0 fuel (n0 + 1) (t0 p0 x0q1 x0q2) (k0  fuel) =
  (bif (decide ((x0q2 : Int) < ((p0.length : Nat) : Int))) then
  (idx x0q2 p0.length).bind fun j5 =>
  (p0[j5]?).bind fun v6 =>
  L0 fuel n0 (t0 p0 ((IntKind.wrap .i64 (x0q1 * v6))) ((IntKind.wrap .i64 (x0q2 + 1)))) (k0  fuel)
  else
  some ([.one ((.int .i64 x0q1), false)], [])) := by kernel_rfl
end spec_volume
theorem spec_volume.ok_of (hX : ∀ E ∈ spec_volume.X, CallSpec Try.prog E) (h : ∀ (xs : List Int), (decide (xs.length < 9223372036854775808)) = true → ∃ fuel, runF Try.prog spec_volume.X spec_volume.I 0 fuel 61 Try.f61 [.d (.ints .i64 xs)] = some ([.one ((.int .i64 (volW xs)), false)], [])) : CallSpec Try.prog spec_volume.E :=
  callSpec_of (d := 0) hX (by kernel_rfl) spec_volume.I_ok (by kernel_rfl) (by kernel_rfl) (by kernel_rfl) (fun _ _ _ _ h => by dsimp only [spec_volume.E] at h; cases h) (fun xs hp => by
    dsimp only [spec_volume.E] at hp ⊢
    split at hp
    · exact h _ hp
    · cases hp)
theorem spec_volume.loop (fuel : Nat) (xs : List Int) (hx : xs.length < 9223372036854775808) : ∀ (m n j : Nat) (a : Int), xs.length - j = m → m < n → j ≤ xs.length →
    spec_volume.L0 fuel n (spec_volume.t0 xs a (j : Int)) (spec_volume.k0 fuel) = some ([.one (.int .i64 (volFrom (xs.drop j) a), false)], []) := by
  intro m
  induction m with
  | zero =>
    intro n j a h1 h2 h3
    obtain ⟨n, rfl⟩ : ∃ n', n = n' + 1 := ⟨n - 1, by omega⟩
    have hj : ¬ j < xs.length := by omega
    rw [spec_volume.s0, dge hj, dropE hj]
    rfl
  | succ m ih =>
    intro n j a h1 h2 h3
    obtain ⟨n, rfl⟩ : ∃ n', n = n' + 1 := ⟨n - 1, by omega⟩
    have hj : j < xs.length := by omega
    rw [spec_volume.s0, dlt hj, idx_nat hj, w1 (by omega), dropS hj]
    simp only [cond_true, Option.bind_some, getS hj, volFrom]
    exact ih n (j + 1) _ (by omega) (by omega) (by omega)

theorem spec_volume.ok : CallSpec Try.prog spec_volume.E := spec_volume.ok_of (by simp [spec_volume.X]) fun xs h => by
  simp only [decide_eq_true_eq] at h
  refine ⟨xs.length + 1, ?_⟩
  rw [spec_volume.e]
  exact spec_volume.loop (xs.length + 1) xs h xs.length (xs.length + 1) 0 1 (by omega) (by omega) (by omega)

namespace spec_reader_one
noncomputable def E : Entry := ⟨39, false, false, fun | [.box [(.ints .u8 bs), (.int .i64 p)], .d (.ints .i64 xs)] => rdOk bs p && decide (0 < (xs : List Int).length) && decide ((xs : List Int).length ≤ 1048576) | _ => false, fun | [.box [(.ints .u8 bs), (.int .i64 p)], .d (.ints .i64 xs)] => ([.one ((.int .i64 (oneV bs p xs)), false)], [[(.ints .u8 bs), (.int .i64 (p + 1))]]) | _ => ([], []), fun _ => [], false, fun _ => none⟩
end spec_reader_one
namespace spec_reader_one
noncomputable def X : List Entry := [spec_reader_pick.E]
noncomputable def I : List Inl := [⟨39, Try.f39, ⟨[], [], [], [], [], []⟩⟩]
theorem I_ok : ∀ i ∈ I, Try.prog.funcs[i.f]? = some i.fn ∧ (i.fn.name == "runtime.NumGoroutine") = false := by
  intro i hi
  simp only [I, List.mem_cons, List.not_mem_nil, or_false] at hi
  subst hi
  exact ⟨by kernel_rfl, by kernel_rfl⟩
theorem e (fuel : Nat) (p0q0 : List Int) (p0q1 : Int) (p1 : List Int) : runF Try.prog X I 0 fuel 39 Try.f39 [.box [(.ints .u8 p0q0), (.int .i64 p0q1)], .d (.ints .i64 p1)] =
  (bif rdOk p0q0 p0q1 && decide (((((p1.length : Nat) : Int)) : Int) ≤ 1048576) then
  (idx (pickV p0q0 p0q1 (((p1.length : Nat) : Int))) p1.length).bind fun j1 =>
  (p1[j1]?).bind fun v2 =>
  some ([.one ((.int .i64 v2), false)], [[(.ints .u8 p0q0), (.int .i64 (p0q1 + 1))]])
  else
  none) := by kernel_rfl
end spec_reader_one
theorem spec_reader_one.ok_of (hX : ∀ E ∈ spec_reader_one.X, CallSpec Try.prog E) (h : ∀ (bs : List Int) (p : Int) (xs : List Int), (rdOk bs p && decide (0 < (xs : List Int).length) && decide ((xs : List Int).length ≤ 1048576)) = true → ∃ fuel, runF Try.prog spec_reader_one.X spec_reader_one.I 0 fuel 39 Try.f39 [.box [(.ints .u8 bs), (.int .i64 p)], .d (.ints .i64 xs)] = some ([.one ((.int .i64 (oneV bs p xs)), false)], [[(.ints .u8 bs), (.int .i64 (p + 1))]])) : CallSpec Try.prog spec_reader_one.E :=
  callSpec_of (d := 0) hX (by kernel_rfl) spec_reader_one.I_ok (by kernel_rfl) (by kernel_rfl) (by kernel_rfl) (fun _ _ _ _ h => by dsimp only [spec_reader_one.E] at h; cases h) (fun xs hp => by
    dsimp only [spec_reader_one.E] at hp ⊢
    split at hp
    · exact h _ _ _ hp
    · cases hp)
theorem spec_reader_one.ok : CallSpec Try.prog spec_reader_one.E := spec_reader_one.ok_of (by simp [spec_reader_one.X, spec_reader_pick.ok]) fun bs p xs h => ⟨0, by
  simp only [Bool.and_eq_true, decide_eq_true_eq] at h
  have hb := pick_bd (n := ((xs.length : Nat) : Int)) h.1.1 (by omega)
  have hi : idx (pickV bs p ((xs.length : Nat) : Int)) xs.length = some (pickV bs p ((xs.length : Nat) : Int)).toNat := by unfold idx; rw [if_pos hb]
  have g : (pickV bs p ((xs.length : Nat) : Int)).toNat < xs.length := by omega
  rw [spec_reader_one.e, h.1.1, decide_eq_true (p := (((xs.length : Nat) : Int) ≤ 1048576)) (by omega), hi]
  unfold oneV
  simp [g]⟩

namespace spec_someNum
noncomputable def E : Entry := ⟨40, false, false, fun | [.box [(.ints .u8 bs), (.int .i64 p)]] => rdOk bs p | _ => false, fun | [.box [(.ints .u8 bs), (.int .i64 p)]] => ([.one ((.int .i64 (oneV bs p someL)), false)], [[(.ints .u8 bs), (.int .i64 (p + 1))]]) | _ => ([], []), fun _ => [], false, fun _ => none⟩
end spec_someNum
namespace spec_someNum
noncomputable def X : List Entry := [spec_reader_one.E]
noncomputable def I : List Inl := [⟨40, Try.f40, ⟨[], [], [], [], [4], []⟩⟩]
theorem I_ok : ∀ i ∈ I, Try.prog.funcs[i.f]? = some i.fn ∧ (i.fn.name == "runtime.NumGoroutine") = false := by
  intro i hi
  simp only [I, List.mem_cons, List.not_mem_nil, or_false] at hi
  subst hi
  exact ⟨by kernel_rfl, by kernel_rfl⟩
theorem e (fuel : Nat) (p0q0 : List Int) (p0q1 : Int) : runF Try.prog X I 0 fuel 40 Try.f40 [.box [(.ints .u8 p0q0), (.int .i64 p0q1)]] =
  (bif rdOk p0q0 p0q1 && decide (0 < (([0, 1, 2, 3, (-1), 5, 7, (-4), 1000000, (-1000000), 10, 1]) : List Int).length) && decide ((([0, 1, 2, 3, (-1), 5, 7, (-4), 1000000, (-1000000), 10, 1]) : List Int).length ≤ 1048576) then
  some ([.one ((.int .i64 (oneV p0q0 p0q1 ([0, 1, 2, 3, (-1), 5, 7, (-4), 1000000, (-1000000), 10, 1]))), false)], [[(.ints .u8 p0q0), (.int .i64 (p0q1 + 1))]])
  else
  none) := by kernel_rfl
end spec_someNum
theorem spec_someNum.ok_of (hX : ∀ E ∈ spec_someNum.X, CallSpec Try.prog E) (h : ∀ (bs : List Int) (p : Int), (rdOk bs p) = true → ∃ fuel, runF Try.prog spec_someNum.X spec_someNum.I 0 fuel 40 Try.f40 [.box [(.ints .u8 bs), (.int .i64 p)]] = some ([.one ((.int .i64 (oneV bs p someL)), false)], [[(.ints .u8 bs), (.int .i64 (p + 1))]])) : CallSpec Try.prog spec_someNum.E :=
  callSpec_of (d := 0) hX (by kernel_rfl) spec_someNum.I_ok (by kernel_rfl) (by kernel_rfl) (by kernel_rfl) (fun _ _ _ _ h => by dsimp only [spec_someNum.E] at h; cases h) (fun xs hp => by
    dsimp only [spec_someNum.E] at hp ⊢
    split at hp
    · exact h _ _ hp
    · cases hp)
theorem spec_someNum.ok : CallSpec Try.prog spec_someNum.E := spec_someNum.ok_of (by simp [spec_someNum.X, spec_reader_one.ok]) fun bs p h => ⟨0, by
  rw [spec_someNum.e, h]
  rfl⟩

namespace spec_copyInts
noncomputable def E : Entry := ⟨62, false, false, fun | [.d (.ints .i64 xs)] => szB xs | _ => false, fun | [.d (.ints .i64 xs)] => ([.one ((.ints .i64 xs), true)], []) | _ => ([], []), fun _ => [], true, fun _ => none⟩
end spec_copyInts
namespace spec_copyInts
noncomputable def X : List Entry := []
noncomputable def I : List Inl := [⟨62, Try.f62, ⟨[], [], [], [], [], []⟩⟩]
theorem I_ok : ∀ i ∈ I, Try.prog.funcs[i.f]? = some i.fn ∧ (i.fn.name == "runtime.NumGoroutine") = false := by
  intro i hi
  simp only [I, List.mem_cons, List.not_mem_nil, or_false] at hi
  subst hi
  exact ⟨by kernel_rfl, by kernel_rfl⟩
theorem e (fuel : Nat) (p0 : List Int) : runF Try.prog X I 0 fuel 62 Try.f62 [.d (.ints .i64 p0)] =
  (bif fits (([] : List Int).length + p0.length) 8 then
  some ([.one ((.ints .i64 (([] : List Int) ++ p0)), true)], [])
  else
  none) := by kernel_rfl
end spec_copyInts
theorem spec_copyInts.ok_of (hX : ∀ E ∈ spec_copyInts.X, CallSpec Try.prog E) (h : ∀ (xs : List Int), (szB xs) = true → ∃ fuel, runF Try.prog spec_copyInts.X spec_copyInts.I 0 fuel 62 Try.f62 [.d (.ints .i64 xs)] = some ([.one ((.ints .i64 xs), true)], [])) : CallSpec Try.prog spec_copyInts.E :=
  callSpec_of (d := 0) hX (by kernel_rfl) spec_copyInts.I_ok (by kernel_rfl) (by kernel_rfl) (by kernel_rfl) (fun _ _ _ _ h => by dsimp only [spec_copyInts.E] at h; cases h) (fun xs hp => by
    dsimp only [spec_copyInts.E] at hp ⊢
    split at hp
    · exact h _ hp
    · cases hp)
theorem spec_copyInts.ok : CallSpec Try.prog spec_copyInts.E := spec_copyInts.ok_of (by simp [spec_copyInts.X]) fun xs h => ⟨0, by
  have hx := szB_le h
  rw [spec_copyInts.e, fitsOk (by simp; omega)]
  rfl⟩

namespace spec_make1
noncomputable def E : Entry := ⟨63, false, false, fun | [.d (.ints .i64 sh), .d (.ints .i64 da)] => szB sh && szB da | _ => false, fun | [.d (.ints .i64 sh), .d (.ints .i64 da)] => ([.agg [((.ints .i64 sh), true), ((.ints .i64 da), true)]], []) | _ => ([], []), fun _ => [], true, fun _ => none⟩
end spec_make1
namespace spec_make1
noncomputable def X : List Entry := [spec_copyInts.E]
noncomputable def I : List Inl := [⟨63, Try.f63, ⟨[6, 8], [], [], [], [], []⟩⟩]
theorem I_ok : ∀ i ∈ I, Try.prog.funcs[i.f]? = some i.fn ∧ (i.fn.name == "runtime.NumGoroutine") = false := by
  intro i hi
  simp only [I, List.mem_cons, List.not_mem_nil, or_false] at hi
  subst hi
  exact ⟨by kernel_rfl, by kernel_rfl⟩
theorem e (fuel : Nat) (p0 : List Int) (p1 : List Int) : runF Try.prog X I 0 fuel 63 Try.f63 [.d (.ints .i64 p0), .d (.ints .i64 p1)] =
  (bif szB p0 then
  (bif szB p1 then
  some ([.agg [((.ints .i64 p0), true), ((.ints .i64 p1), true)]], [])
  else
  none)
  else
  none) := by kernel_rfl
end spec_make1
theorem spec_make1.ok_of (hX : ∀ E ∈ spec_make1.X, CallSpec Try.prog E) (h : ∀ (sh : List Int) (da : List Int), (szB sh && szB da) = true → ∃ fuel, runF Try.prog spec_make1.X spec_make1.I 0 fuel 63 Try.f63 [.d (.ints .i64 sh), .d (.ints .i64 da)] = some ([.agg [((.ints .i64 sh), true), ((.ints .i64 da), true)]], [])) : CallSpec Try.prog spec_make1.E :=
  callSpec_of (d := 0) hX (by kernel_rfl) spec_make1.I_ok (by kernel_rfl) (by kernel_rfl) (by kernel_rfl) (fun _ _ _ _ h => by dsimp only [spec_make1.E] at h; cases h) (fun xs hp => by
    dsimp only [spec_make1.E] at hp ⊢
    split at hp
    · exact h _ _ hp
    · cases hp)
theorem spec_make1.ok : CallSpec Try.prog spec_make1.E := spec_make1.ok_of (by simp [spec_make1.X, spec_copyInts.ok]) fun sh da h => ⟨0, by
  simp only [Bool.and_eq_true] at h
  rw [spec_make1.e, h.1, h.2]
  rfl⟩

namespace spec_fill
noncomputable def E : Entry := ⟨70, false, false, fun | [.box [(.ints .u8 bs), (.int .i64 p)], .d (.ints .i64 sh)] => rdOk bs p && decide ((p : Int) ≤ 2000000) && validS sh | _ => false, fun | [.box [(.ints .u8 bs), (.int .i64 p)], .d (.ints .i64 sh)] => ([.agg [((.ints .i64 sh), true), ((.ints .i64 (fillV bs p sh)), true)]], [[(.ints .u8 bs), (.int .i64 (p + volW sh))]]) | _ => ([], []), fun _ => [], false, fun _ => none⟩
end spec_fill
namespace spec_fill
noncomputable def X : List Entry := [spec_volume.E, spec_someNum.E, spec_make1.E]
noncomputable def I : List Inl := [⟨70, Try.f70, ⟨[21], [(1000003, [2, 3, 7, 8, 9, 10, 11, 12, 13, 14, 15, 16, 17, 18, 19, 20, 21])], [], [], [], []⟩⟩]
theorem I_ok : ∀ i ∈ I, Try.prog.funcs[i.f]? = some i.fn ∧ (i.fn.name == "runtime.NumGoroutine") = false := by
  intro i hi
  simp only [I, List.mem_cons, List.not_mem_nil, or_false] at hi
  subst hi
  exact ⟨by kernel_rfl, by kernel_rfl⟩
noncomputable abbrev L0 (fuel n : Nat) (s : St) (k : Kont) := lAt Try.prog X I fuel false 0 false 70 (bodyOf Try.f70) [1, 1, 0, 1, 0] n s k
noncomputable abbrev k0  (fuel : Nat) : Kont := (kAt Try.prog X I fuel false 0 false 70 (bodyOf Try.f70) [1, 1, 0, 1, 0] [] (endK Try.prog Try.f70))
noncomputable def t0 (p1 : List Int) (p0q0 : List Int) (x0q1 : Int) (x0q3 : Int) (x0q4 : List Int) : St := ⟨[(.ptr 1000000000 0 0), (.imm (.ints .i64 p1)), .dead, .dead, (.ptr 1000000001 0 0), (.all 1000000002 1), (.imm (.int .i64 x0q1)), .dead, .dead, .dead, .dead, .dead, .dead, .dead, .dead, .dead, .dead, .dead, .dead, .dead, .dead, .dead], hOf [(1000000000, (.box [(.imm (.ints .u8 p0q0)), (.imm (.int .i64 x0q3))])), (1000000001, (.box [(.imm .nils), (.imm .nils)])), (1000000002, (.ints .i64 x0q4))], [(.ptr 1000000000 0 0)], []⟩
theorem e (fuel : Nat) (p0q0 : List Int) (p0q1 : Int) (p1 : List Int) : runF Try.prog X I 0 fuel 70 Try.f70 [.box [(.ints .u8 p0q0), (.int .i64 p0q1)], .d (.ints .i64 p1)] =
  L0 fuel fuel (t0 p1 p0q0 0 p0q1 ([])) (k0  fuel) := by kernel_rfl
theorem s0 (fuel n0 : Nat) (p1 : List Int) (p0q0 : List Int) (x0q1 : Int) (x0q3 : Int) (x0q4 : List Int) : L0 fuel (n0 + 1) (t0 p1 p0q0 x0q1 x0q3 x0q4) (k0  fuel) =
  (bif decide (p1.length < 9223372036854775808) then
  (bif (decide ((x0q1 : Int) < (volW p1))) then
  (bif rdOk p0q0 x0q3 then
  (bif fits (x0q4.length + ([(oneV p0q0 x0q3 someL)] : List Int).length) 8 then
  L0 fuel n0 (t0 p1 p0q0 ((IntKind.wrap .i64 (x0q1 + 1))) ((x0q3 + 1)) ((x0q4 ++ [(oneV p0q0 x0q3 someL)]))) (k0  fuel)
  else
  none)
  else
  none)
  else
  (bif szB p1 && szB x0q4 then
  some ([.agg [((.ints .i64 p1), true), ((.ints .i64 x0q4), true)]], [[(.ints .u8 p0q0), (.int .i64 x0q3)]])
  else
  none))
  else
  none) := by kernel_rfl
end spec_fill
theorem spec_fill.ok_of (hX : ∀ E ∈ spec_fill.X, CallSpec Try.prog E) (h : ∀ (bs : List Int) (p : Int) (sh : List Int), (rdOk bs p && decide ((p : Int) ≤ 2000000) && validS sh) = true → ∃ fuel, runF Try.prog spec_fill.X spec_fill.I 0 fuel 70 Try.f70 [.box [(.ints .u8 bs), (.int .i64 p)], .d (.ints .i64 sh)] = some ([.agg [((.ints .i64 sh), true), ((.ints .i64 (fillV bs p sh)), true)]], [[(.ints .u8 bs), (.int .i64 (p + volW sh))]])) : CallSpec Try.prog spec_fill.E :=
  callSpec_of (d := 0) hX (by kernel_rfl) spec_fill.I_ok (by kernel_rfl) (by kernel_rfl) (by kernel_rfl) (fun _ _ _ _ h => by dsimp only [spec_fill.E] at h; cases h) (fun xs hp => by
    dsimp only [spec_fill.E] at hp ⊢
    split at hp
    · exact h _ _ _ hp
    · cases hp)
theorem spec_fill.loop (fuel : Nat) (bs : List Int) (p : Int) (sh : List Int) (h : rdOk bs p = true) (hp : p ≤ 2000000) (hv : validS sh = true) : ∀ (m n j : Nat) (out : List Int), (volW sh).toNat - j = m → m < n → j ≤ (volW sh).toNat → out = tab j (fun i => oneV bs (p + ((i : Nat) : Int)) someL) →
    spec_fill.L0 fuel n (spec_fill.t0 sh bs (j : Int) (p + (j : Int)) out) (spec_fill.k0 fuel) = some ([.agg [(.ints .i64 sh, true), (.ints .i64 (fillV bs p sh), true)]], [[(.ints .u8 bs), (.int .i64 (p + volW sh))]]) := by
  have hl := (validS_inv hv).1
  have hb := vol_bd hv
  intro m
  induction m with
  | zero =>
    intro n j out h1 h2 h3 h4
    obtain ⟨n, rfl⟩ : ∃ n', n = n' + 1 := ⟨n - 1, by omega⟩
    have ho : out.length = j := by rw [h4, tab_length]
    rw [spec_fill.s0, decide_eq_true (p := sh.length < 9223372036854775808) (by omega), decide_eq_false (p := (j : Int) < volW sh) (by omega), szB_of (xs := sh) (by omega), szB_of (xs := out) (by omega), h4, show p + (j : Int) = p + volW sh by omega, show j = (volW sh).toNat by omega]
    rfl
  | succ m ih =>
    intro n j out h1 h2 h3 h4
    obtain ⟨n, rfl⟩ : ∃ n', n = n' + 1 := ⟨n - 1, by omega⟩
    have ho : out.length = j := by rw [h4, tab_length]
    rw [spec_fill.s0, decide_eq_true (p := sh.length < 9223372036854775808) (by omega), decide_eq_true (p := (j : Int) < volW sh) (by omega), rd_le (q := p + (j : Int)) h (by omega) (by omega), fitsOk (by simp; omega), w1 (by omega), show p + (j : Int) + 1 = p + ((j + 1 : Nat) : Int) by omega]
    exact ih n (j + 1) _ (by omega) (by omega) (by omega) (by rw [tab_succ, h4])
theorem spec_fill.ok : CallSpec Try.prog spec_fill.E := spec_fill.ok_of (by simp [spec_fill.X, spec_volume.ok, spec_someNum.ok, spec_make1.ok]) fun bs p sh h => by
  simp only [Bool.and_eq_true, decide_eq_true_eq] at h
  have hb := vol_bd h.2
  obtain ⟨F, hF⟩ : ∃ F : Nat, 60 < F := ⟨61, by omega⟩
  refine ⟨F, ?_⟩
  have := spec_fill.loop F bs p sh h.1.1 h.1.2 h.2 _ F 0 [] rfl (by omega) (by omega) rfl
  rw [spec_fill.e]
  rw [show p + ((0 : Nat) : Int) = p by omega] at this
  exact this

namespace spec_someArray
noncomputable def E : Entry := ⟨59, false, false, fun | [.box [(.ints .u8 bs), (.int .i64 p)]] => rdOk bs p && decide ((p : Int) ≤ 1000000) | _ => false, fun | [.box [(.ints .u8 bs), (.int .i64 p)]] => ([.agg [((.ints .i64 (sShV bs p)), true), ((.ints .i64 (sDaV bs p)), true)]], [[(.ints .u8 bs), (.int .i64 (sDaP bs p))]]) | _ => ([], []), fun _ => [], false, fun _ => none⟩
end spec_someArray
namespace spec_someArray
noncomputable def X : List Entry := [spec_someShape.E, spec_fill.E]
noncomputable def I : List Inl := [⟨59, Try.f59, ⟨[6], [], [], [], [], []⟩⟩]
theorem I_ok : ∀ i ∈ I, Try.prog.funcs[i.f]? = some i.fn ∧ (i.fn.name == "runtime.NumGoroutine") = false := by
  intro i hi
  simp only [I, List.mem_cons, List.not_mem_nil, or_false] at hi
  subst hi
  exact ⟨by kernel_rfl, by kernel_rfl⟩
theorem e (fuel : Nat) (p0q0 : List Int) (p0q1 : Int) : runF Try.prog X I 0 fuel 59 Try.f59 [.box [(.ints .u8 p0q0), (.int .i64 p0q1)]] =
  (bif rdOk p0q0 p0q1 && decide ((p0q1 : Int) ≤ 2000000) then
  (bif rdOk p0q0 ((sShP p0q0 p0q1)) && decide ((((sShP p0q0 p0q1)) : Int) ≤ 2000000) && validS ((sShV p0q0 p0q1)) then
  some ([.agg [((.ints .i64 ((sShV p0q0 p0q1))), true), ((.ints .i64 (fillV p0q0 ((sShP p0q0 p0q1)) ((sShV p0q0 p0q1)))), true)]], [[(.ints .u8 p0q0), (.int .i64 (((sShP p0q0 p0q1)) + volW ((sShV p0q0 p0q1))))]])
  else
  none)
  else
  none) := by kernel_rfl
end spec_someArray
theorem spec_someArray.ok_of (hX : ∀ E ∈ spec_someArray.X, CallSpec Try.prog E) (h : ∀ (bs : List Int) (p : Int), (rdOk bs p && decide ((p : Int) ≤ 1000000)) = true → ∃ fuel, runF Try.prog spec_someArray.X spec_someArray.I 0 fuel 59 Try.f59 [.box [(.ints .u8 bs), (.int .i64 p)]] = some ([.agg [((.ints .i64 (sShV bs p)), true), ((.ints .i64 (sDaV bs p)), true)]], [[(.ints .u8 bs), (.int .i64 (sDaP bs p))]])) : CallSpec Try.prog spec_someArray.E :=
  callSpec_of (d := 0) hX (by kernel_rfl) spec_someArray.I_ok (by kernel_rfl) (by kernel_rfl) (by kernel_rfl) (fun _ _ _ _ h => by dsimp only [spec_someArray.E] at h; cases h) (fun xs hp => by
    dsimp only [spec_someArray.E] at hp ⊢
    split at hp
    · exact h _ _ hp
    · cases hp)
theorem spec_someArray.ok : CallSpec Try.prog spec_someArray.E := spec_someArray.ok_of (by simp [spec_someArray.X, spec_someShape.ok, spec_fill.ok]) fun bs p h => ⟨0, by
  simp only [Bool.and_eq_true, decide_eq_true_eq] at h
  have b := sShP_bd bs p
  have hs := sShV_ok h.1 (by omega)
  rw [spec_someArray.e, h.1, rd_le (q := sShP bs p) h.1 (by omega) (by omega), decide_eq_true (p := p ≤ 2000000) (by omega), decide_eq_true (p := sShP bs p ≤ 2000000) (by omega), hs]
  rfl⟩

namespace spec_anyShape
noncomputable def E : Entry := ⟨49, false, false, fun | [.box [(.ints .u8 bs), (.int .i64 p)]] => rdOk bs p && decide ((p : Int) ≤ 2000000) | _ => false, fun | [.box [(.ints .u8 bs), (.int .i64 p)]] => ([.one ((.ints .i64 (aShV bs p)), true)], [[(.ints .u8 bs), (.int .i64 (sShP bs p + 1))]]) | _ => ([], []), fun _ => [], false, fun _ => none⟩
end spec_anyShape
namespace spec_anyShape
noncomputable def X : List Entry := [spec_someShape.E, spec_reader_pick.E]
noncomputable def I : List Inl := [⟨49, Try.f49, ⟨[5], [], [], [], [], []⟩⟩]
theorem I_ok : ∀ i ∈ I, Try.prog.funcs[i.f]? = some i.fn ∧ (i.fn.name == "runtime.NumGoroutine") = false := by
  intro i hi
  simp only [I, List.mem_cons, List.not_mem_nil, or_false] at hi
  subst hi
  exact ⟨by kernel_rfl, by kernel_rfl⟩
theorem e (fuel : Nat) (p0q0 : List Int) (p0q1 : Int) : runF Try.prog X I 0 fuel 49 Try.f49 [.box [(.ints .u8 p0q0), (.int .i64 p0q1)]] =
  (bif rdOk p0q0 p0q1 && decide ((p0q1 : Int) ≤ 2000000) then
  (bif rdOk p0q0 ((sShP p0q0 p0q1)) && decide ((24 : Int) ≤ 1048576) then
  (bif (((pickV p0q0 ((sShP p0q0 p0q1)) 24) : Int) == 0) then
  (bif fits ((sShV p0q0 p0q1).length + ([61] : List Int).length) 8 then
  some ([.one ((.ints .i64 ((sShV p0q0 p0q1) ++ [61])), true)], [[(.ints .u8 p0q0), (.int .i64 (((sShP p0q0 p0q1)) + 1))]])
  else
  none)
  else
  (bif (((pickV p0q0 ((sShP p0q0 p0q1)) 24) : Int) == 1) then
  some ([.one ((.ints .i64 [4, 4, 4]), true)], [[(.ints .u8 p0q0), (.int .i64 (((sShP p0q0 p0q1)) + 1))]])
  else
  (bif (((pickV p0q0 ((sShP p0q0 p0q1)) 24) : Int) == 2) then
  some ([.one ((.ints .i64 [1, 1, 1, 1]), true)], [[(.ints .u8 p0q0), (.int .i64 (((sShP p0q0 p0q1)) + 1))]])
  else
  (bif (((pickV p0q0 ((sShP p0q0 p0q1)) 24) : Int) == 3) then
  (bif fits ((sShV p0q0 p0q1).length + ([(-1)] : List Int).length) 8 then
  some ([.one ((.ints .i64 ((sShV p0q0 p0q1) ++ [(-1)])), true)], [[(.ints .u8 p0q0), (.int .i64 (((sShP p0q0 p0q1)) + 1))]])
  else
  none)
  else
  some ([.one ((.ints .i64 (sShV p0q0 p0q1)), true)], [[(.ints .u8 p0q0), (.int .i64 (((sShP p0q0 p0q1)) + 1))]])))))
  else
  none)
  else
  none) := by kernel_rfl
end spec_anyShape
theorem spec_anyShape.ok_of (hX : ∀ E ∈ spec_anyShape.X, CallSpec Try.prog E) (h : ∀ (bs : List Int) (p : Int), (rdOk bs p && decide ((p : Int) ≤ 2000000)) = true → ∃ fuel, runF Try.prog spec_anyShape.X spec_anyShape.I 0 fuel 49 Try.f49 [.box [(.ints .u8 bs), (.int .i64 p)]] = some ([.one ((.ints .i64 (aShV bs p)), true)], [[(.ints .u8 bs), (.int .i64 (sShP bs p + 1))]])) : CallSpec Try.prog spec_anyShape.E :=
  callSpec_of (d := 0) hX (by kernel_rfl) spec_anyShape.I_ok (by kernel_rfl) (by kernel_rfl) (by kernel_rfl) (fun _ _ _ _ h => by dsimp only [spec_anyShape.E] at h; cases h) (fun xs hp => by
    dsimp only [spec_anyShape.E] at hp ⊢
    split at hp
    · exact h _ _ hp
    · cases hp)
theorem spec_anyShape.ok : CallSpec Try.prog spec_anyShape.E := spec_anyShape.ok_of (by simp [spec_anyShape.X, spec_someShape.ok, spec_reader_pick.ok]) fun bs p h => ⟨0, by
  have h' := h
  simp only [Bool.and_eq_true, decide_eq_true_eq] at h'
  have b := sShP_bd bs p
  have r1 := rd_le (q := sShP bs p) h'.1 (by omega) (by omega)
  have l := (validS_inv (sShV_ok h'.1 h'.2)).1
  rw [spec_anyShape.e, h, r1, fitsOk (by simp; omega), fitsOk (by simp; omega)]
  unfold aShV
  cases pickV bs (sShP bs p) 24 == 0 <;> cases pickV bs (sShP bs p) 24 == 1 <;> cases pickV bs (sShP bs p) 24 == 2 <;> cases pickV bs (sShP bs p) 24 == 3 <;> rfl⟩

namespace spec_reader_spoil
noncomputable def E : Entry := ⟨41, false, false, fun | [.box [(.ints .u8 bs), (.int .i64 p)], .d (.ints .i64 xs), .d (.int .i64 n)] => rdOk bs p && decide ((p : Int) ≤ 2000000) && decide ((xs : List Int).length ≤ 1000000) | _ => false, fun | [.box [(.ints .u8 bs), (.int .i64 p)], .d (.ints .i64 xs), .d (.int .i64 n)] => ([.one ((.ints .i64 (spV bs p xs n)), false)], [[(.ints .u8 bs), (.int .i64 (spP bs p xs))]]) | _ => ([], []), fun _ => [], false, fun _ => none⟩
end spec_reader_spoil
namespace spec_reader_spoil
noncomputable def X : List Entry := [spec_copyInts.E, spec_reader_pick.E, spec_reader_one.E]
noncomputable def I : List Inl := [⟨41, Try.f41, ⟨[9], [], [(7, [7]), (11, [7])], [], [37], []⟩⟩]
theorem I_ok : ∀ i ∈ I, Try.prog.funcs[i.f]? = some i.fn ∧ (i.fn.name == "runtime.NumGoroutine") = false := by
  intro i hi
  simp only [I, List.mem_cons, List.not_mem_nil, or_false] at hi
  subst hi
  exact ⟨by kernel_rfl, by kernel_rfl⟩
theorem e (fuel : Nat) (p0q0 : List Int) (p0q1 : Int) (p1 : List Int) (p2 : Int) : runF Try.prog X I 0 fuel 41 Try.f41 [.box [(.ints .u8 p0q0), (.int .i64 p0q1)], .d (.ints .i64 p1), .d (.int .i64 p2)] =
  (bif szB p1 then
  (bif rdOk p0q0 p0q1 && decide ((20 : Int) ≤ 1048576) then
  (bif (((pickV p0q0 p0q1 20) : Int) == 0) then
  (bif fits (p1.length + ([p2] : List Int).length) 8 then
  some ([.one ((.ints .i64 (p1 ++ [p2])), false)], [[(.ints .u8 p0q0), (.int .i64 (p0q1 + 1))]])
  else
  none)
  else
  (bif (((pickV p0q0 p0q1 20) : Int) == 1) then
  (bif (decide ((((p1.length : Nat) : Int) : Int) > 0)) then
  (cutEnds p1.length (some (.imm (.int .i64 1))) (none)).bind fun cq1 =>
  some ([.one ((.ints .i64 ((p1.drop cq1.1).take (cq1.2 - cq1.1))), false)], [[(.ints .u8 p0q0), (.int .i64 (p0q1 + 1))]])
  else
  some ([.one ((.ints .i64 p1), false)], [[(.ints .u8 p0q0), (.int .i64 (p0q1 + 1))]]))
  else
  (bif (((pickV p0q0 p0q1 20) : Int) == 2) then
  (bif (decide ((((p1.length : Nat) : Int) : Int) > 0)) then
  (bif rdOk p0q0 ((p0q1 + 1)) && decide (((((p1.length : Nat) : Int)) : Int) ≤ 1048576) then
  (bif rdOk p0q0 ((((p0q1 + 1)) + 1)) && decide (0 < (([(-1), p2, 0, 1]) : List Int).length) && decide ((([(-1), p2, 0, 1]) : List Int).length ≤ 1048576) then
  (idx (pickV p0q0 ((p0q1 + 1)) (((p1.length : Nat) : Int))) p1.length).bind fun j2 =>
  (bif decide (j2 < p1.length) then
  some ([.one ((.ints .i64 (p1.set j2 (oneV p0q0 ((((p0q1 + 1)) + 1)) ([(-1), p2, 0, 1])))), false)], [[(.ints .u8 p0q0), (.int .i64 (((((p0q1 + 1)) + 1)) + 1))]])
  else
  none)
  else
  none)
  else
  none)
  else
  some ([.one ((.ints .i64 p1), false)], [[(.ints .u8 p0q0), (.int .i64 (p0q1 + 1))]]))
  else
  some ([.one ((.ints .i64 p1), false)], [[(.ints .u8 p0q0), (.int .i64 (p0q1 + 1))]]))))
  else
  none)
  else
  none) := by kernel_rfl
end spec_reader_spoil
theorem spec_reader_spoil.ok_of (hX : ∀ E ∈ spec_reader_spoil.X, CallSpec Try.prog E) (h : ∀ (bs : List Int) (p : Int) (xs : List Int) (n : Int), (rdOk bs p && decide ((p : Int) ≤ 2000000) && decide ((xs : List Int).length ≤ 1000000)) = true → ∃ fuel, runF Try.prog spec_reader_spoil.X spec_reader_spoil.I 0 fuel 41 Try.f41 [.box [(.ints .u8 bs), (.int .i64 p)], .d (.ints .i64 xs), .d (.int .i64 n)] = some ([.one ((.ints .i64 (spV bs p xs n)), false)], [[(.ints .u8 bs), (.int .i64 (spP bs p xs))]])) : CallSpec Try.prog spec_reader_spoil.E :=
  callSpec_of (d := 0) hX (by kernel_rfl) spec_reader_spoil.I_ok (by kernel_rfl) (by kernel_rfl) (by kernel_rfl) (fun _ _ _ _ h => by dsimp only [spec_reader_spoil.E] at h; cases h) (fun xs hp => by
    dsimp only [spec_reader_spoil.E] at hp ⊢
    split at hp
    · exact h _ _ _ _ hp
    · cases hp)
theorem spec_reader_spoil.ok : CallSpec Try.prog spec_reader_spoil.E := spec_reader_spoil.ok_of (by simp [spec_reader_spoil.X, spec_copyInts.ok, spec_reader_pick.ok, spec_reader_one.ok]) fun bs p xs n h => ⟨0, by
  simp only [Bool.and_eq_true, decide_eq_true_eq] at h
  obtain ⟨⟨h1, h2⟩, h3⟩ := h
  have r1 := rd_le (q := p + 1) h1 (by omega) (by omega)
  have r2 := rd_le (q := p + 1 + 1) h1 (by omega) (by omega)
  rw [spec_reader_spoil.e, szB_of (by omega), h1]
  unfold spV spP
  simp only [Bool.true_and, cond_true]
  rw [decide_eq_true (p := (20 : Int) ≤ 1048576) (by omega), cond_true]
  cases pickV bs p 20 == 0 with
  | true => rw [fitsOk (by simp only [List.length_cons, List.length_nil]; omega)]; rfl
  | false =>
    cases pickV bs p 20 == 1 with
    | true =>
      simp only [cond_true, cond_false]
      by_cases h0 : xs.length = 0
      · have e := List.length_eq_zero_iff.mp h0
        subst e
        rfl
      · rw [decide_eq_true (p := ((xs.length : Nat) : Int) > 0) (by omega), cond_true, cut_one (by omega)]
        simp only [Option.bind_some]
        rw [drop_take]
    | false =>
      cases pickV bs p 20 == 2 with
      | false => rfl
      | true =>
        simp only [cond_true, cond_false]
        by_cases h0 : xs.length = 0
        · have e := List.length_eq_zero_iff.mp h0
          subst e
          rfl
        · have pb := pick_bd (n := ((xs.length : Nat) : Int)) r1 (by omega)
          have hi : idx (pickV bs (p + 1) ((xs.length : Nat) : Int)) xs.length = some (pickV bs (p + 1) ((xs.length : Nat) : Int)).toNat := by
            simp only [idx]
            rw [if_pos (by omega)]
          rw [decide_eq_true (p := ((xs.length : Nat) : Int) > 0) (by omega), cond_true, r1, r2, decide_eq_true (p := ((xs.length : Nat) : Int) ≤ 1048576) (by omega), hi, decide_eq_true (p := 0 < xs.length) (by omega)]
          simp only [Bool.true_and, cond_true, Option.bind_some]
          rw [decide_eq_true (p := (pickV bs (p + 1) ((xs.length : Nat) : Int)).toNat < xs.length) (by omega)]
          rfl⟩

namespace spec_anyArray
noncomputable def E : Entry := ⟨34, false, false, fun | [.box [(.ints .u8 bs), (.int .i64 p)]] => rdOk bs p && decide ((p : Int) ≤ 1000000) | _ => false, fun | [.box [(.ints .u8 bs), (.int .i64 p)]] => ([.agg [((.ints .i64 (aArS bs p)), false), ((.ints .i64 (aArD bs p)), false)]], [[(.ints .u8 bs), (.int .i64 (aArP bs p))]]) | _ => ([], []), fun _ => [], false, fun _ => none⟩
end spec_anyArray
namespace spec_anyArray
noncomputable def X : List Entry := [spec_someArray.E, spec_reader_pick.E, spec_anyShape.E, spec_reader_spoil.E]
noncomputable def I : List Inl := [⟨34, Try.f34, ⟨[5, 11, 20], [], [(7, [3, 3]), (3000020, [19])], [], [], [20]⟩⟩]
theorem I_ok : ∀ i ∈ I, Try.prog.funcs[i.f]? = some i.fn ∧ (i.fn.name == "runtime.NumGoroutine") = false := by
  intro i hi
  simp only [I, List.mem_cons, List.not_mem_nil, or_false] at hi
  subst hi
  exact ⟨by kernel_rfl, by kernel_rfl⟩
theorem e (fuel : Nat) (p0q0 : List Int) (p0q1 : Int) : runF Try.prog X I 0 fuel 34 Try.f34 [.box [(.ints .u8 p0q0), (.int .i64 p0q1)]] =
  (bif rdOk p0q0 p0q1 && decide ((p0q1 : Int) ≤ 1000000) then
  (bif rdOk p0q0 ((sDaP p0q0 p0q1)) && decide ((30 : Int) ≤ 1048576) then
  (bif (((pickV p0q0 ((sDaP p0q0 p0q1)) 30) : Int) == 0) then
  (bif rdOk p0q0 ((((sDaP p0q0 p0q1)) + 1)) && decide ((((((sDaP p0q0 p0q1)) + 1)) : Int) ≤ 2000000) then
  some ([.agg [((.ints .i64 (aShV p0q0 ((((sDaP p0q0 p0q1)) + 1)))), false), ((.ints .i64 (sDaV p0q0 p0q1)), false)]], [[(.ints .u8 p0q0), (.int .i64 (sShP p0q0 ((((sDaP p0q0 p0q1)) + 1)) + 1))]])
  else
  none)
  else
  (bif (((pickV p0q0 ((sDaP p0q0 p0q1)) 30) : Int) == 1) then
  (bif fits ((sDaV p0q0 p0q1).length + ([5] : List Int).length) 8 then
  (bif rdOk p0q0 ((((sDaP p0q0 p0q1)) + 1)) && decide ((((((sDaP p0q0 p0q1)) + 1)) : Int) ≤ 2000000) && decide (((((sDaV p0q0 p0q1) ++ [5])) : List Int).length ≤ 1000000) then
  some ([.agg [((.ints .i64 (sShV p0q0 p0q1)), false), ((.ints .i64 (spV p0q0 ((((sDaP p0q0 p0q1)) + 1)) (((sDaV p0q0 p0q1) ++ [5])) 1000001)), false)]], [[(.ints .u8 p0q0), (.int .i64 (spP p0q0 ((((sDaP p0q0 p0q1)) + 1)) (((sDaV p0q0 p0q1) ++ [5]))))]])
  else
  none)
  else
  none)
  else
  some ([.agg [((.ints .i64 (sShV p0q0 p0q1)), false), ((.ints .i64 (sDaV p0q0 p0q1)), false)]], [[(.ints .u8 p0q0), (.int .i64 (((sDaP p0q0 p0q1)) + 1))]])))
  else
  none)
  else
  none) := by kernel_rfl
end spec_anyArray
theorem spec_anyArray.ok_of (hX : ∀ E ∈ spec_anyArray.X, CallSpec Try.prog E) (h : ∀ (bs : List Int) (p : Int), (rdOk bs p && decide ((p : Int) ≤ 1000000)) = true → ∃ fuel, runF Try.prog spec_anyArray.X spec_anyArray.I 0 fuel 34 Try.f34 [.box [(.ints .u8 bs), (.int .i64 p)]] = some ([.agg [((.ints .i64 (aArS bs p)), false), ((.ints .i64 (aArD bs p)), false)]], [[(.ints .u8 bs), (.int .i64 (aArP bs p))]])) : CallSpec Try.prog spec_anyArray.E :=
  callSpec_of (d := 0) hX (by kernel_rfl) spec_anyArray.I_ok (by kernel_rfl) (by kernel_rfl) (by kernel_rfl) (fun _ _ _ _ h => by dsimp only [spec_anyArray.E] at h; cases h) (fun xs hp => by
    dsimp only [spec_anyArray.E] at hp ⊢
    split at hp
    · exact h _ _ hp
    · cases hp)
theorem spec_anyArray.ok : CallSpec Try.prog spec_anyArray.E := spec_anyArray.ok_of (by simp [spec_anyArray.X, spec_someArray.ok, spec_reader_pick.ok, spec_anyShape.ok, spec_reader_spoil.ok]) fun bs p h => ⟨0, by
  simp only [Bool.and_eq_true, decide_eq_true_eq] at h
  obtain ⟨h1, h2, h3⟩ := sDa_bd h.1 (by omega)
  have r1 := rd_le (q := sDaP bs p) h.1 (by omega) (by omega)
  have r2 := rd_le (q := sDaP bs p + 1) h.1 (by omega) (by omega)
  have hz : (sDaV bs p ++ [5]).length ≤ 1000000 := by rw [List.length_append]; simp; omega
  rw [spec_anyArray.e, h.1, r1, r2, decide_eq_true (p := p ≤ 1000000) h.2, decide_eq_true (p := (30 : Int) ≤ 1048576) (by omega), decide_eq_true (p := sDaP bs p + 1 ≤ 2000000) (by omega), fitsOk (by simp only [List.length_cons, List.length_nil]; omega), decide_eq_true hz]
  unfold aArS aArD aArP
  cases pickV bs (sDaP bs p) 30 == 0 with
  | true => rfl
  | false =>
    cases pickV bs (sDaP bs p) 30 == 1 with
    | true => rfl
    | false => rfl⟩

namespace spec_DrawValidArray
noncomputable def E : Entry := ⟨9, false, false, fun | [.d (.ints .u8 bs)] => bytesB bs | _ => false, fun | [.d (.ints .u8 bs)] => ([.agg [((.ints .i64 (aArS (cutC bs) 0)), false), ((.ints .i64 (aArD (cutC bs) 0)), false)]], []) | _ => ([], []), fun _ => [], true, fun _ => none⟩
end spec_DrawValidArray
namespace spec_DrawValidArray
noncomputable def X : List Entry := [spec_newReader.E, spec_anyArray.E]
noncomputable def I : List Inl := [⟨9, Try.f9, ⟨[5], [], [], [], [], []⟩⟩]
theorem I_ok : ∀ i ∈ I, Try.prog.funcs[i.f]? = some i.fn ∧ (i.fn.name == "runtime.NumGoroutine") = false := by
  intro i hi
  simp only [I, List.mem_cons, List.not_mem_nil, or_false] at hi
  subst hi
  exact ⟨by kernel_rfl, by kernel_rfl⟩
theorem e (fuel : Nat) (p0 : List Int) : runF Try.prog X I 0 fuel 9 Try.f9 [.d (.ints .u8 p0)] =
  (bif rdOk ((cutC p0)) 0 && decide ((0 : Int) ≤ 1000000) then
  some ([.agg [((.ints .i64 (aArS ((cutC p0)) 0)), false), ((.ints .i64 (aArD ((cutC p0)) 0)), false)]], [])
  else
  none) := by kernel_rfl
end spec_DrawValidArray
theorem spec_DrawValidArray.ok_of (hX : ∀ E ∈ spec_DrawValidArray.X, CallSpec Try.prog E) (h : ∀ (bs : List Int), (bytesB bs) = true → ∃ fuel, runF Try.prog spec_DrawValidArray.X spec_DrawValidArray.I 0 fuel 9 Try.f9 [.d (.ints .u8 bs)] = some ([.agg [((.ints .i64 (aArS (cutC bs) 0)), false), ((.ints .i64 (aArD (cutC bs) 0)), false)]], [])) : CallSpec Try.prog spec_DrawValidArray.E :=
  callSpec_of (d := 0) hX (by kernel_rfl) spec_DrawValidArray.I_ok (by kernel_rfl) (by kernel_rfl) (by kernel_rfl) (fun _ _ _ _ h => by dsimp only [spec_DrawValidArray.E] at h; cases h) (fun xs hp => by
    dsimp only [spec_DrawValidArray.E] at hp ⊢
    split at hp
    · exact h _ hp
    · cases hp)
theorem spec_DrawValidArray.ok : CallSpec Try.prog spec_DrawValidArray.E := spec_DrawValidArray.ok_of (by simp [spec_DrawValidArray.X, spec_newReader.ok, spec_anyArray.ok]) fun bs h => ⟨0, by
  rw [spec_DrawValidArray.e, cut_ok h (by omega) (by omega)]
  rfl⟩

namespace impl_layoutOf
noncomputable def E : Entry := ⟨36, false, false, fun | [.d (.ints .i64 sh)] => decide (sh.length < 9223372036854775808) | _ => false, fun | [.d (.ints .i64 sh)] => ([.agg [((.ints .i64 nilI), true), ((.int .i64 0), false), ((.int .i64 0), false), ((.int .i64 0), false), ((.int .i64 0), false)], .one ((.bool false), false)], []) | _ => ([], []), fun | [.d (.ints .i64 sh)] => [(validS sh, ([.agg [((.ints .i64 sh), false), ((.int .i64 (strd sh 0)), false), ((.int .i64 (strd sh 1)), false), ((.int .i64 (strd sh 2)), false), ((.int .i64 (volW sh)), false)], .one ((.bool true), false)], []))] | _ => [], true, fun _ => none⟩
end impl_layoutOf
namespace impl_layoutOf
noncomputable def X : List Entry := []
noncomputable def I : List Inl := [⟨36, Try.f36, ⟨[], [(1000005, [1, 3, 6, 7, 8, 9, 10, 11, 12, 13, 14, 15, 16, 17, 18, 19, 20, 21, 22, 23, 24, 25, 26, 27, 28, 29, 30, 31, 32, 33, 34, 35, 36, 37, 38, 39, 40, 41, 42, 43, 44, 45, 46, 47, 48, 49])], [], [(10, [0, 2, 3, 1, 4, 5, 6, 7, 8])], [], []⟩⟩]
theorem I_ok : ∀ i ∈ I, Try.prog.funcs[i.f]? = some i.fn ∧ (i.fn.name == "runtime.NumGoroutine") = false := by
  intro i hi
  simp only [I, List.mem_cons, List.not_mem_nil, or_false] at hi
  subst hi
  exact ⟨by kernel_rfl, by kernel_rfl⟩
noncomputable abbrev L0 (fuel n : Nat) (s : St) (k : Kont) := lAt Try.prog X I fuel true 0 false 36 (bodyOf Try.f36) [1, 1, 1, 0, 1, 0] n s k
noncomputable abbrev k0  (fuel : Nat) : Kont := (kAt Try.prog X I fuel true 0 false 36 (bodyOf Try.f36) [1, 1, 1, 0, 1, 0] [] (endK Try.prog Try.f36))
noncomputable def t0 (p0 : List Int) (x0q1 : Int) (x0q7 : Int) (x0q8 : Int) (x0q9 : Int) (x0q10 : Int) : St := ⟨[(.imm (.ints .i64 p0)), .dead, (.ptr 1000000000 0 0), .dead, (.ptr 1000000001 0 0), (.imm (.int .i64 x0q1)), .dead, .dead, .dead, .dead, .dead, .dead, .dead, .dead, .dead, .dead, .dead, .dead, .dead, .dead, .dead, .dead, .dead, .dead, .dead, .dead, .dead, .dead, .dead, .dead, .dead, .dead, .dead, .dead, .dead, .dead, .dead, .dead, .dead, .dead, .dead, .dead, .dead, .dead, .dead, .dead, .dead, .dead, .dead, .dead], hOf [(1000000000, (.box [(.imm .nils), (.imm (.int .i64 0)), (.imm (.int .i64 0)), (.imm (.int .i64 0)), (.imm (.int .i64 0))])), (1000000001, (.box [(.imm (.ints .i64 p0)), (.imm (.int .i64 x0q7)), (.imm (.int .i64 x0q8)), (.imm (.int .i64 x0q9)), (.imm (.int .i64 x0q10))]))], [], []⟩
theorem e (fuel : Nat) (p0 : List Int) : runF Try.prog X I 0 fuel 36 Try.f36 [.d (.ints .i64 p0)] =
  (bif (decide ((((p0.length : Nat) : Int) : Int) > 3)) then
  some ([.agg [((.ints .i64 []), true), ((.int .i64 0), false), ((.int .i64 0), false), ((.int .i64 0), false), ((.int .i64 0), false)], .one ((.bool false), false)], [])
  else
  L0 fuel fuel (t0 p0 ((IntKind.wrap .i64 (((p0.length : Nat) : Int) - 1))) 0 0 0 1) (k0  fuel)) := by kernel_rfl
theorem s0 (fuel n0 : Nat) (p0 : List Int) (x0q1 : Int) (x0q7 : Int) (x0q8 : Int) (x0q9 : Int) (x0q10 : Int) : L0 fuel (n0 + 1) (t0 p0 x0q1 x0q7 x0q8 x0q9 x0q10) (k0  fuel) =
  (bif (decide ((x0q1 : Int) ≥ 0)) then
  (idx x0q1 p0.length).bind fun j21 =>
  (p0[j21]?).bind fun v22 =>
  (bif (decide ((v22 : Int) < 0)) then
  some ([.agg [((.ints .i64 []), true), ((.int .i64 0), false), ((.int .i64 0), false), ((.int .i64 0), false), ((.int .i64 0), false)], .one ((.bool false), false)], [])
  else
  (idx x0q1 p0.length).bind fun j23 =>
  (p0[j23]?).bind fun v24 =>
  (bif (decide ((v24 : Int) > 60)) then
  some ([.agg [((.ints .i64 []), true), ((.int .i64 0), false), ((.int .i64 0), false), ((.int .i64 0), false), ((.int .i64 0), false)], .one ((.bool false), false)], [])
  else
  (bif decide (x0q1 = ((0 : Nat) : Int)) then
  (idx x0q1 p0.length).bind fun j29 =>
  (p0[j29]?).bind fun v30 =>
  L0 fuel n0 (t0 p0 ((IntKind.wrap .i64 (x0q1 - 1))) x0q10 x0q8 x0q9 ((IntKind.wrap .i64 (x0q10 * v30)))) (k0  fuel)
  else
  (bif decide (x0q1 = ((1 : Nat) : Int)) then
  (idx x0q1 p0.length).bind fun j27 =>
  (p0[j27]?).bind fun v28 =>
  L0 fuel n0 (t0 p0 ((IntKind.wrap .i64 (x0q1 - 1))) x0q7 x0q10 x0q9 ((IntKind.wrap .i64 (x0q10 * v28)))) (k0  fuel)
  else
  (bif decide (x0q1 = ((2 : Nat) : Int)) then
  (idx x0q1 p0.length).bind fun j25 =>
  (p0[j25]?).bind fun v26 =>
  L0 fuel n0 (t0 p0 ((IntKind.wrap .i64 (x0q1 - 1))) x0q7 x0q8 x0q10 ((IntKind.wrap .i64 (x0q10 * v26)))) (k0  fuel)
  else
  none)))))
  else
  (bif (decide ((x0q10 : Int) > 60)) then
  some ([.agg [((.ints .i64 []), true), ((.int .i64 0), false), ((.int .i64 0), false), ((.int .i64 0), false), ((.int .i64 0), false)], .one ((.bool false), false)], [])
  else
  some ([.agg [((.ints .i64 p0), false), ((.int .i64 x0q7), false), ((.int .i64 x0q8), false), ((.int .i64 x0q9), false), ((.int .i64 x0q10), false)], .one ((.bool true), false)], []))) := by kernel_rfl
end impl_layoutOf
theorem impl_layoutOf.ok_of (hX : ∀ E ∈ impl_layoutOf.X, CallSpec Try.prog E) (h : ∀ (sh : List Int), (decide (sh.length < 9223372036854775808)) = true → ∃ fuel, runF Try.prog impl_layoutOf.X impl_layoutOf.I 0 fuel 36 Try.f36 [.d (.ints .i64 sh)] = some (bif validS sh then ([.agg [((.ints .i64 sh), false), ((.int .i64 (strd sh 0)), false), ((.int .i64 (strd sh 1)), false), ((.int .i64 (strd sh 2)), false), ((.int .i64 (volW sh)), false)], .one ((.bool true), false)], []) else ([.agg [((.ints .i64 nilI), true), ((.int .i64 0), false), ((.int .i64 0), false), ((.int .i64 0), false), ((.int .i64 0), false)], .one ((.bool false), false)], []))) : CallSpec Try.prog impl_layoutOf.E :=
  callSpec_of (d := 0) hX (by kernel_rfl) impl_layoutOf.I_ok (by kernel_rfl) (by kernel_rfl) (by kernel_rfl) (fun _ _ _ _ h => by dsimp only [impl_layoutOf.E] at h; cases h) (fun xs hp => by
    dsimp only [impl_layoutOf.E] at hp ⊢
    split at hp
    · exact h _ hp
    · cases hp)
theorem impl_layoutOf.bad (fuel n : Nat) (sh : List Int) (k : Nat) (v : Int) (s0 s1 s2 z : Int) (hk : k < sh.length) (hv : sh[k]? = some v) (h : ¬ (0 ≤ v ∧ v ≤ 60)) :
    impl_layoutOf.L0 fuel (n + 1) (impl_layoutOf.t0 sh (k : Int) s0 s1 s2 z) (impl_layoutOf.k0 fuel) = some ([.agg [(.ints .i64 [], true), (.int .i64 0, false), (.int .i64 0, false), (.int .i64 0, false), (.int .i64 0, false)], .one (.bool false, false)], []) := by
  rw [impl_layoutOf.s0, decide_eq_true (by omega), idx_nat hk]
  simp only [cond_true, Option.bind_some, hv]
  by_cases h0 : v < 0
  · rw [decide_eq_true h0]; rfl
  · rw [decide_eq_false h0, decide_eq_true (by omega)]; rfl
theorem impl_layoutOf.good (fuel n : Nat) (sh : List Int) (k : Nat) (v : Int) (s0 s1 s2 z : Int) (hk : k < sh.length) (hv : sh[k]? = some v) (h : 0 ≤ v ∧ v ≤ 60) (hk3 : k < 3) :
    impl_layoutOf.L0 fuel (n + 1) (impl_layoutOf.t0 sh (k : Int) s0 s1 s2 z) (impl_layoutOf.k0 fuel) =
      impl_layoutOf.L0 fuel n (impl_layoutOf.t0 sh ((k : Int) - 1) (bif k == 0 then z else s0) (bif k == 1 then z else s1) (bif k == 2 then z else s2) (IntKind.wrap .i64 (z * v))) (impl_layoutOf.k0 fuel) := by
  rw [impl_layoutOf.s0, decide_eq_true (by omega), idx_nat hk]
  simp only [cond_true, Option.bind_some, hv]
  rw [decide_eq_false (p := v < 0) (by omega), decide_eq_false (p := v > 60) (by omega), wS (x := (k : Int) - 1) (by omega) (by omega)]
  simp only [cond_false]
  match k, hk3 with
  | 0, _ => rfl
  | 1, _ => rfl
  | 2, _ => rfl
theorem impl_layoutOf.last (fuel n : Nat) (sh : List Int) (i : Int) (s0 s1 s2 z : Int) (hi : i < 0) :
    impl_layoutOf.L0 fuel (n + 1) (impl_layoutOf.t0 sh i s0 s1 s2 z) (impl_layoutOf.k0 fuel) = 
      bif decide (z ≤ 60) then some ([.agg [(.ints .i64 sh, false), (.int .i64 s0, false), (.int .i64 s1, false), (.int .i64 s2, false), (.int .i64 z, false)], .one (.bool true, false)], [])
      else some ([.agg [(.ints .i64 [], true), (.int .i64 0, false), (.int .i64 0, false), (.int .i64 0, false), (.int .i64 0, false)], .one (.bool false, false)], []) := by
  rw [impl_layoutOf.s0, decide_eq_false (by omega)]
  simp only [cond_false]
  by_cases hz : z ≤ 60
  · rw [decide_eq_true hz, decide_eq_false (by omega)]; rfl
  · rw [decide_eq_false hz, decide_eq_true (by omega)]; rfl
theorem rng_dec {v : Int} (h : 0 ≤ v ∧ v ≤ 60) : (decide (0 ≤ v) && decide (v ≤ 60)) = true := by simp [h.1, h.2]
theorem rng_bad {v : Int} (h : ¬ (0 ≤ v ∧ v ≤ 60)) : (decide (0 ≤ v) && decide (v ≤ 60)) = false := by
  cases hb : (decide (0 ≤ v) && decide (v ≤ 60)) with
  | false => rfl
  | true => simp at hb; exact absurd hb h
theorem validS1 (a : Int) : validS [a] = ((decide (0 ≤ a) && decide (a ≤ 60)) && decide (IntKind.wrap .i64 (1 * a) ≤ 60)) := by
  simp only [validS, allB_cons, allB_nil, Bool.and_true, volW, volFrom]; rfl
theorem validS2 (a b : Int) : validS [a, b] = ((decide (0 ≤ a) && decide (a ≤ 60)) && (decide (0 ≤ b) && decide (b ≤ 60)) && decide (IntKind.wrap .i64 (IntKind.wrap .i64 (1 * a) * b) ≤ 60)) := by
  simp only [validS, allB_cons, allB_nil, Bool.and_true, volW, volFrom]; rfl
theorem validS3 (a b c : Int) : validS [a, b, c] = ((decide (0 ≤ a) && decide (a ≤ 60)) && ((decide (0 ≤ b) && decide (b ≤ 60)) && (decide (0 ≤ c) && decide (c ≤ 60))) && decide (IntKind.wrap .i64 (IntKind.wrap .i64 (IntKind.wrap .i64 (1 * a) * b) * c) ≤ 60)) := by
  simp only [validS, allB_cons, allB_nil, Bool.and_true, volW, volFrom]; rfl
theorem impl_layoutOf.ok : CallSpec Try.prog impl_layoutOf.E := impl_layoutOf.ok_of (by simp [impl_layoutOf.X]) fun sh h => by
  refine ⟨5, ?_⟩
  rw [impl_layoutOf.e]
  match sh with
  | [] => rw [show decide (((([] : List Int).length : Nat) : Int) > 3) = false from rfl, cond_false, impl_layoutOf.last _ _ _ _ _ _ _ _ (by decide)]; rfl
  | [a] =>
    rw [show decide (((([a] : List Int).length : Nat) : Int) > 3) = false from rfl, cond_false, show IntKind.wrap .i64 ((([a] : List Int).length : Nat) - 1) = ((0 : Nat) : Int) from rfl, validS1]
    by_cases h1 : 0 ≤ a ∧ a ≤ 60
    · rw [impl_layoutOf.good _ _ _ _ a _ _ _ _ (by simp) rfl h1 (by omega), impl_layoutOf.last _ _ _ _ _ _ _ _ (by decide), rng_dec h1, Int.one_mul, wS (x := a) (by omega) (by omega)]
      simp only [strd, volW, volFrom, Int.one_mul, wS (x := a) (by omega) (by omega)]
      cases decide (a ≤ 60) <;> rfl
    · rw [impl_layoutOf.bad _ _ _ _ a _ _ _ _ (by simp) rfl h1, rng_bad h1]; rfl
  | [a, b] =>
    rw [show decide (((([a, b] : List Int).length : Nat) : Int) > 3) = false from rfl, cond_false, show IntKind.wrap .i64 ((([a, b] : List Int).length : Nat) - 1) = ((1 : Nat) : Int) from rfl, validS2]
    by_cases h1 : 0 ≤ b ∧ b ≤ 60
    case neg => rw [impl_layoutOf.bad _ _ _ _ b _ _ _ _ (by simp) rfl h1, rng_bad h1, Bool.and_false]; rfl
    rw [impl_layoutOf.good _ _ _ _ b _ _ _ _ (by simp) rfl h1 (by omega), show (((1 : Nat) : Int) - 1) = ((0 : Nat) : Int) from rfl]
    by_cases h2 : 0 ≤ a ∧ a ≤ 60
    case neg => rw [impl_layoutOf.bad _ _ _ _ a _ _ _ _ (by simp) rfl h2, rng_bad h2]; rfl
    have hm := mul60 h2.1 h2.2 h1.1 h1.2
    rw [impl_layoutOf.good _ _ _ _ a _ _ _ _ (by simp) rfl h2 (by omega), impl_layoutOf.last _ _ _ _ _ _ _ _ (by decide), rng_dec h1, rng_dec h2, Int.one_mul, Int.one_mul, wS (x := a) (by omega) (by omega), wS (x := b) (by omega) (by omega), Int.mul_comm b a, wS (x := a * b) (by omega) (by omega)]
    simp only [strd, volW, volFrom, Int.one_mul, wS (x := a) (by omega) (by omega), wS (x := b) (by omega) (by omega), wS (x := a * b) (by omega) (by omega), List.drop_succ_cons, List.drop_zero]
    cases decide (a * b ≤ 60) <;> rfl
  | [a, b, c] =>
    rw [show decide (((([a, b, c] : List Int).length : Nat) : Int) > 3) = false from rfl, cond_false, show IntKind.wrap .i64 ((([a, b, c] : List Int).length : Nat) - 1) = ((2 : Nat) : Int) from rfl, validS3]
    by_cases h0 : 0 ≤ c ∧ c ≤ 60
    case neg => rw [impl_layoutOf.bad _ _ _ _ c _ _ _ _ (by simp) rfl h0, rng_bad h0, Bool.and_false, Bool.and_false]; rfl
    rw [impl_layoutOf.good _ _ _ _ c _ _ _ _ (by simp) rfl h0 (by omega), show (((2 : Nat) : Int) - 1) = ((1 : Nat) : Int) from rfl]
    by_cases h1 : 0 ≤ b ∧ b ≤ 60
    case neg => rw [impl_layoutOf.bad _ _ _ _ b _ _ _ _ (by simp) rfl h1, rng_bad h1, Bool.false_and, Bool.and_false]; rfl
    rw [impl_layoutOf.good _ _ _ _ b _ _ _ _ (by simp) rfl h1 (by omega), show (((1 : Nat) : Int) - 1) = ((0 : Nat) : Int) from rfl]
    by_cases h2 : 0 ≤ a ∧ a ≤ 60
    case neg => rw [impl_layoutOf.bad _ _ _ _ a _ _ _ _ (by simp) rfl h2, rng_bad h2]; rfl
    have hm := mul60 h2.1 h2.2 h1.1 h1.2
    have hm1 := mul60 h1.1 h1.2 h0.1 h0.2
    have hm3 := mul3600 hm.1 hm.2 h0.1 h0.2
    have hc : b * c * a = a * b * c := by rw [Int.mul_comm (b * c) a, Int.mul_assoc]
    rw [impl_layoutOf.good _ _ _ _ a _ _ _ _ (by simp) rfl h2 (by omega), impl_layoutOf.last _ _ _ _ _ _ _ _ (by decide), rng_dec h0, rng_dec h1, rng_dec h2, Int.one_mul, Int.one_mul, wS (x := a) (by omega) (by omega), wS (x := c) (by omega) (by omega), Int.mul_comm c b, wS (x := a * b) (by omega) (by omega), wS (x := b * c) (by omega) (by omega), hc, wS (x := a * b * c) (by omega) (by omega)]
    simp only [strd, volW, volFrom, Int.one_mul, wS (x := a) (by omega) (by omega), wS (x := b) (by omega) (by omega), wS (x := c) (by omega) (by omega), wS (x := a * b) (by omega) (by omega), wS (x := b * c) (by omega) (by omega), wS (x := a * b * c) (by omega) (by omega), List.drop_succ_cons, List.drop_zero]
    cases decide (a * b * c ≤ 60) <;> rfl
  | a :: b :: c :: d :: t =>
    have h1 : ((((a :: b :: c :: d :: t).length : Nat) : Int) > 3) := by simp; omega
    have h2 : ¬ ((((a :: b :: c :: d :: t).length : Nat) : Int) ≤ 3) := by omega
    have h3 : validS (a :: b :: c :: d :: t) = false := by unfold validS; rw [decide_eq_false h2]; rfl
    rw [decide_eq_true h1, h3]
    rfl

namespace impl_isNumber
noncomputable def E : Entry := ⟨37, true, false, fun | [.d (.int .i64 v)] => true | _ => false, fun | [.d (.int .i64 v)] => ([.one ((.bool (numB v)), false)], []) | _ => ([], []), fun _ => [], false, fun _ => none⟩
end impl_isNumber
namespace impl_isNumber
noncomputable def X : List Entry := []
noncomputable def I : List Inl := [⟨37, Try.f37, ⟨[], [], [], [], [], []⟩⟩]
theorem I_ok : ∀ i ∈ I, Try.prog.funcs[i.f]? = some i.fn ∧ (i.fn.name == "runtime.NumGoroutine") = false := by
  intro i hi
  simp only [I, List.mem_cons, List.not_mem_nil, or_false] at hi
  subst hi
  exact ⟨by kernel_rfl, by kernel_rfl⟩
theorem e (fuel : Nat) (p0 : Int) : runF Try.prog X I 0 fuel 37 Try.f37 [.d (.int .i64 p0)] =
  (bif (decide (((-1000000) : Int) ≤ p0)) then
  some ([.one ((.bool (decide ((p0 : Int) ≤ 1000000))), false)], [])
  else
  some ([.one ((.bool false), false)], [])) := by kernel_rfl
end impl_isNumber
theorem impl_isNumber.ok_of (hX : ∀ E ∈ impl_isNumber.X, CallSpec Try.prog E) (h : ∀ (v : Int), (true) = true → ∃ fuel, runF Try.prog impl_isNumber.X impl_isNumber.I 0 fuel 37 Try.f37 [.d (.int .i64 v)] = some ([.one ((.bool (numB v)), false)], [])) : CallSpec Try.prog impl_isNumber.E :=
  callSpec_of (d := 0) hX (by kernel_rfl) impl_isNumber.I_ok (by kernel_rfl) (by kernel_rfl) (by kernel_rfl) (fun _ _ _ _ h => by dsimp only [impl_isNumber.E] at h; cases h) (fun xs hp => by
    dsimp only [impl_isNumber.E] at hp ⊢
    split at hp
    · exact h _ hp
    · cases hp)
theorem impl_isNumber.ok : CallSpec Try.prog impl_isNumber.E := impl_isNumber.ok_of (by simp [impl_isNumber.X]) fun v _ => ⟨0, by
  rw [impl_isNumber.e]
  unfold numB
  cases decide (-1000000 ≤ v) <;> rfl⟩

namespace impl_ValidArray
noncomputable def E : Entry := ⟨10, true, false, fun | [.d (.agg [(.ints .i64 sh), (.ints .i64 da)])] => decide (sh.length < 9223372036854775808) && decide (da.length < 9223372036854775808) | _ => false, fun | [.d (.agg [(.ints .i64 sh), (.ints .i64 da)])] => ([.one ((.bool (validA sh da)), false)], []) | _ => ([], []), fun _ => [], false, fun _ => none⟩
end impl_ValidArray
namespace impl_ValidArray
noncomputable def X : List Entry := [impl_layoutOf.E, impl_isNumber.E]
noncomputable def I : List Inl := [⟨10, Try.f10, ⟨[10], [(1000005, [0, 1, 2, 3, 4, 5, 6, 7, 8, 9, 10, 11, 12, 13, 14, 15, 16, 17, 18, 19, 20, 21, 22, 23, 27, 28, 29, 30, 31, 32, 33])], [], [], [], []⟩⟩]
theorem I_ok : ∀ i ∈ I, Try.prog.funcs[i.f]? = some i.fn ∧ (i.fn.name == "runtime.NumGoroutine") = false := by
  intro i hi
  simp only [I, List.mem_cons, List.not_mem_nil, or_false] at hi
  subst hi
  exact ⟨by kernel_rfl, by kernel_rfl⟩
noncomputable abbrev L0 (fuel n : Nat) (s : St) (k : Kont) := lAt Try.prog X I fuel true 0 false 10 (bodyOf Try.f10) [1, 1, 1, 0, 1, 0] n s k
noncomputable abbrev k0  (fuel : Nat) : Kont := (kAt Try.prog X I fuel true 0 false 10 (bodyOf Try.f10) [1, 1, 1, 0, 1, 0] [] (endK Try.prog Try.f10))
noncomputable def t0 (p0q1 : List Int) (x0q2 : Int) : St := ⟨[.dead, .dead, .dead, .dead, .dead, .dead, .dead, .dead, .dead, .dead, .dead, .dead, .dead, .dead, .dead, .dead, .dead, .dead, .dead, .dead, .dead, .dead, .dead, .dead, (.imm (.ints .i64 p0q1)), (.imm (.int .i64 ((p0q1.length : Nat) : Int))), (.imm (.int .i64 x0q2)), .dead, .dead, .dead, .dead, .dead, .dead, .dead], hOf [], [], []⟩
theorem e (fuel : Nat) (p0q0 : List Int) (p0q1 : List Int) : runF Try.prog X I 0 fuel 10 Try.f10 [.d (.agg [(.ints .i64 p0q0), (.ints .i64 p0q1)])] =
  (bif decide (p0q0.length < 9223372036854775808) then
  (bif validS p0q0 then
  (bif ((((p0q1.length : Nat) : Int) : Int) != (volW p0q0)) then
  some ([.one ((.bool false), false)], [])
  else
  L0 fuel fuel (t0 p0q1 0) (k0  fuel))
  else
  some ([.one ((.bool false), false)], []))
  else
  none) := by kernel_rfl
theorem s0 (fuel n0 : Nat) (p0q1 : List Int) (x0q2 : Int) : L0 fuel (n0 + 1) (t0 p0q1 x0q2) (k0  fuel) =
  (bif (decide ((x0q2 : Int) < ((p0q1.length : Nat) : Int))) then
  (idx x0q2 p0q1.length).bind fun j5 =>
  (p0q1[j5]?).bind fun v6 =>
  (bif (!(numB v6)) then
  some ([.one ((.bool false), false)], [])
  else
  L0 fuel n0 (t0 p0q1 ((IntKind.wrap .i64 (x0q2 + 1)))) (k0  fuel))
  else
  some ([.one ((.bool true), false)], [])) := by kernel_rfl
end impl_ValidArray
theorem impl_ValidArray.ok_of (hX : ∀ E ∈ impl_ValidArray.X, CallSpec Try.prog E) (h : ∀ (sh : List Int) (da : List Int), (decide (sh.length < 9223372036854775808) && decide (da.length < 9223372036854775808)) = true → ∃ fuel, runF Try.prog impl_ValidArray.X impl_ValidArray.I 0 fuel 10 Try.f10 [.d (.agg [(.ints .i64 sh), (.ints .i64 da)])] = some ([.one ((.bool (validA sh da)), false)], [])) : CallSpec Try.prog impl_ValidArray.E :=
  callSpec_of (d := 0) hX (by kernel_rfl) impl_ValidArray.I_ok (by kernel_rfl) (by kernel_rfl) (by kernel_rfl) (fun _ _ _ _ h => by dsimp only [impl_ValidArray.E] at h; cases h) (fun xs hp => by
    dsimp only [impl_ValidArray.E] at hp ⊢
    split at hp
    · exact h _ _ hp
    · cases hp)
theorem impl_ValidArray.loop (fuel : Nat) (xs : List Int) (hx : xs.length < 9223372036854775808) : ∀ (m n j : Nat), xs.length - j = m → m < n → j ≤ xs.length →
    impl_ValidArray.L0 fuel n (impl_ValidArray.t0 xs (j : Int)) (impl_ValidArray.k0 fuel) = some ([.one (.bool (allB (xs.drop j) (-1000000) 1000000), false)], []) := by
  intro m
  induction m with
  | zero =>
    intro n j h1 h2 h3
    obtain ⟨n, rfl⟩ : ∃ n', n = n' + 1 := ⟨n - 1, by omega⟩
    have hj : ¬ j < xs.length := by omega
    rw [impl_ValidArray.s0, dge hj, dropE hj]
    rfl
  | succ m ih =>
    intro n j h1 h2 h3
    obtain ⟨n, rfl⟩ : ∃ n', n = n' + 1 := ⟨n - 1, by omega⟩
    have hj : j < xs.length := by omega
    rw [impl_ValidArray.s0, dlt hj, idx_nat hj, w1 (by omega), dropS hj]
    simp only [cond_true, Option.bind_some, getS hj, allB_cons, numB_eq]
    rw [ih n (j + 1) (by omega) (by omega) (by omega)]
    cases decide (-1000000 ≤ xs[j]) && decide (xs[j] ≤ 1000000) <;> rfl

theorem impl_ValidArray.ok : CallSpec Try.prog impl_ValidArray.E := impl_ValidArray.ok_of (by simp [impl_ValidArray.X, impl_layoutOf.ok, impl_isNumber.ok]) fun sh da h => by
  simp only [Bool.and_eq_true, decide_eq_true_eq] at h
  refine ⟨da.length + 1, ?_⟩
  rw [impl_ValidArray.e, lt_of h.1]
  have := impl_ValidArray.loop (da.length + 1) da h.2 da.length (da.length + 1) 0 (by omega) (by omega) (by omega)
  simp only [cond_true, List.drop_zero] at this ⊢
  rw [show ((0 : Nat) : Int) = 0 from rfl] at this
  rw [this]
  unfold validA
  cases validS sh
  · rfl
  · cases hb : (((da.length : Nat) : Int) == volW sh) with
    | true => simp [bne, hb]
    | false => simp [bne, hb]

namespace spec_inRange
noncomputable def E : Entry := ⟨46, true, false, fun | [.d (.int .i64 v), .d (.int .i64 lo), .d (.int .i64 hi)] => true | _ => false, fun | [.d (.int .i64 v), .d (.int .i64 lo), .d (.int .i64 hi)] => ([.one ((.bool (decide (lo ≤ v) && decide (v ≤ hi))), false)], []) | _ => ([], []), fun _ => [], false, fun _ => none⟩
end spec_inRange
namespace spec_inRange
noncomputable def X : List Entry := []
noncomputable def I : List Inl := [⟨46, Try.f46, ⟨[], [], [], [], [], []⟩⟩]
theorem I_ok : ∀ i ∈ I, Try.prog.funcs[i.f]? = some i.fn ∧ (i.fn.name == "runtime.NumGoroutine") = false := by
  intro i hi
  simp only [I, List.mem_cons, List.not_mem_nil, or_false] at hi
  subst hi
  exact ⟨by kernel_rfl, by kernel_rfl⟩
theorem e (fuel : Nat) (p0 : Int) (p1 : Int) (p2 : Int) : runF Try.prog X I 0 fuel 46 Try.f46 [.d (.int .i64 p0), .d (.int .i64 p1), .d (.int .i64 p2)] =
  (bif (decide ((p1 : Int) ≤ p0)) then
  some ([.one ((.bool (decide ((p0 : Int) ≤ p2))), false)], [])
  else
  some ([.one ((.bool false), false)], [])) := by kernel_rfl
end spec_inRange
theorem spec_inRange.ok_of (hX : ∀ E ∈ spec_inRange.X, CallSpec Try.prog E) (h : ∀ (v : Int) (lo : Int) (hi : Int), (true) = true → ∃ fuel, runF Try.prog spec_inRange.X spec_inRange.I 0 fuel 46 Try.f46 [.d (.int .i64 v), .d (.int .i64 lo), .d (.int .i64 hi)] = some ([.one ((.bool (decide (lo ≤ v) && decide (v ≤ hi))), false)], [])) : CallSpec Try.prog spec_inRange.E :=
  callSpec_of (d := 0) hX (by kernel_rfl) spec_inRange.I_ok (by kernel_rfl) (by kernel_rfl) (by kernel_rfl) (fun _ _ _ _ h => by dsimp only [spec_inRange.E] at h; cases h) (fun xs hp => by
    dsimp only [spec_inRange.E] at hp ⊢
    split at hp
    · exact h _ _ _ hp
    · cases hp)
theorem spec_inRange.ok : CallSpec Try.prog spec_inRange.E := spec_inRange.ok_of (by simp [spec_inRange.X]) fun v lo hi _ => ⟨0, by
  rw [spec_inRange.e]
  cases decide (lo ≤ v) <;> rfl⟩

namespace spec_allIn
noncomputable def E : Entry := ⟨43, true, false, fun | [.d (.ints .i64 xs), .d (.int .i64 lo), .d (.int .i64 hi)] => decide (xs.length < 9223372036854775808) | _ => false, fun | [.d (.ints .i64 xs), .d (.int .i64 lo), .d (.int .i64 hi)] => ([.one ((.bool (allB xs lo hi)), false)], []) | _ => ([], []), fun _ => [], false, fun _ => none⟩
end spec_allIn
namespace spec_allIn
noncomputable def X : List Entry := [spec_inRange.E]
noncomputable def I : List Inl := [⟨43, Try.f43, ⟨[], [(1000002, [3, 4, 5, 6, 8, 9, 10, 11, 12, 13, 14, 15, 16, 17, 18, 19, 20, 21])], [], [], [], []⟩⟩]
theorem I_ok : ∀ i ∈ I, Try.prog.funcs[i.f]? = some i.fn ∧ (i.fn.name == "runtime.NumGoroutine") = false := by
  intro i hi
  simp only [I, List.mem_cons, List.not_mem_nil, or_false] at hi
  subst hi
  exact ⟨by kernel_rfl, by kernel_rfl⟩
noncomputable abbrev L0 (fuel n : Nat) (s : St) (k : Kont) := lAt Try.prog X I fuel true 0 false 43 (bodyOf Try.f43) [1, 0, 1, 0] n s k
noncomputable abbrev k0  (fuel : Nat) : Kont := (kAt Try.prog X I fuel true 0 false 43 (bodyOf Try.f43) [1, 0, 1, 0] [] (endK Try.prog Try.f43))
noncomputable def t0 (p0 : List Int) (p1 : Int) (p2 : Int) (x0q3 : Int) : St := ⟨[(.imm (.ints .i64 p0)), (.imm (.int .i64 p1)), (.imm (.int .i64 p2)), .dead, .dead, .dead, .dead, (.imm (.int .i64 x0q3)), .dead, .dead, .dead, .dead, .dead, .dead, .dead, .dead, .dead, .dead, .dead, .dead, .dead, .dead], hOf [], [], []⟩
theorem e (fuel : Nat) (p0 : List Int) (p1 : Int) (p2 : Int) : runF Try.prog X I 0 fuel 43 Try.f43 [.d (.ints .i64 p0), .d (.int .i64 p1), .d (.int .i64 p2)] =
  L0 fuel fuel (t0 p0 p1 p2 0) (k0  fuel) := by kernel_rfl
theorem s0 (fuel n0 : Nat) (p0 : List Int) (p1 : Int) (p2 : Int) (x0q3 : Int) : L0 fuel (n0 + 1) (t0 p0 p1 p2 x0q3) (k0  fuel) =
  (bif (decide ((x0q3 : Int) < ((p0.length : Nat) : Int))) then
  (idx x0q3 p0.length).bind fun j5 =>
  (p0[j5]?).bind fun v6 =>
  (bif (!(decide (p1 ≤ v6) && decide (v6 ≤ p2))) then
  some ([.one ((.bool false), false)], [])
  else
  L0 fuel n0 (t0 p0 p1 p2 ((IntKind.wrap .i64 (x0q3 + 1)))) (k0  fuel))
  else
  some ([.one ((.bool true), false)], [])) := by kernel_rfl
end spec_allIn
theorem spec_allIn.ok_of (hX : ∀ E ∈ spec_allIn.X, CallSpec Try.prog E) (h : ∀ (xs : List Int) (lo : Int) (hi : Int), (decide (xs.length < 9223372036854775808)) = true → ∃ fuel, runF Try.prog spec_allIn.X spec_allIn.I 0 fuel 43 Try.f43 [.d (.ints .i64 xs), .d (.int .i64 lo), .d (.int .i64 hi)] = some ([.one ((.bool (allB xs lo hi)), false)], [])) : CallSpec Try.prog spec_allIn.E :=
  callSpec_of (d := 0) hX (by kernel_rfl) spec_allIn.I_ok (by kernel_rfl) (by kernel_rfl) (by kernel_rfl) (fun _ _ _ _ h => by dsimp only [spec_allIn.E] at h; cases h) (fun xs hp => by
    dsimp only [spec_allIn.E] at hp ⊢
    split at hp
    · exact h _ _ _ hp
    · cases hp)
theorem spec_allIn.loop (fuel : Nat) (xs : List Int) (lo hi : Int) (hx : xs.length < 9223372036854775808) : ∀ (m n j : Nat), xs.length - j = m → m < n → j ≤ xs.length →
    spec_allIn.L0 fuel n (spec_allIn.t0 xs lo hi (j : Int)) (spec_allIn.k0 fuel) = some ([.one (.bool (allB (xs.drop j) lo hi), false)], []) := by
  intro m
  induction m with
  | zero =>
    intro n j h1 h2 h3
    obtain ⟨n, rfl⟩ : ∃ n', n = n' + 1 := ⟨n - 1, by omega⟩
    have hj : ¬ j < xs.length := by omega
    rw [spec_allIn.s0, dge hj, dropE hj]
    rfl
  | succ m ih =>
    intro n j h1 h2 h3
    obtain ⟨n, rfl⟩ : ∃ n', n = n' + 1 := ⟨n - 1, by omega⟩
    have hj : j < xs.length := by omega
    rw [spec_allIn.s0, dlt hj, idx_nat hj, w1 (by omega), dropS hj]
    simp only [cond_true, Option.bind_some, getS hj, allB_cons]
    rw [ih n (j + 1) (by omega) (by omega) (by omega)]
    cases decide (lo ≤ xs[j]) && decide (xs[j] ≤ hi) <;> rfl

theorem spec_allIn.ok : CallSpec Try.prog spec_allIn.E := spec_allIn.ok_of (by simp [spec_allIn.X, spec_inRange.ok]) fun xs lo hi h => by
  simp only [decide_eq_true_eq] at h
  refine ⟨xs.length + 1, ?_⟩
  rw [spec_allIn.e]
  exact spec_allIn.loop (xs.length + 1) xs lo hi h xs.length (xs.length + 1) 0 (by omega) (by omega) (by omega)

namespace spec_validShape
noncomputable def E : Entry := ⟨51, true, false, fun | [.d (.ints .i64 sh)] => decide (sh.length < 9223372036854775808) | _ => false, fun | [.d (.ints .i64 sh)] => ([.one ((.bool (validS sh)), false)], []) | _ => ([], []), fun _ => [], false, fun _ => none⟩
end spec_validShape
namespace spec_validShape
noncomputable def X : List Entry := [spec_allIn.E, spec_volume.E]
noncomputable def I : List Inl := [⟨51, Try.f51, ⟨[], [], [], [], [], []⟩⟩]
theorem I_ok : ∀ i ∈ I, Try.prog.funcs[i.f]? = some i.fn ∧ (i.fn.name == "runtime.NumGoroutine") = false := by
  intro i hi
  simp only [I, List.mem_cons, List.not_mem_nil, or_false] at hi
  subst hi
  exact ⟨by kernel_rfl, by kernel_rfl⟩
theorem e (fuel : Nat) (p0 : List Int) : runF Try.prog X I 0 fuel 51 Try.f51 [.d (.ints .i64 p0)] =
  (bif (decide ((((p0.length : Nat) : Int) : Int) ≤ 3)) then
  (bif decide (p0.length < 9223372036854775808) then
  (bif (allB p0 0 60) then
  (bif decide (p0.length < 9223372036854775808) then
  some ([.one ((.bool (decide (((volW p0) : Int) ≤ 60))), false)], [])
  else
  none)
  else
  some ([.one ((.bool false), false)], []))
  else
  none)
  else
  some ([.one ((.bool false), false)], [])) := by kernel_rfl
end spec_validShape
theorem spec_validShape.ok_of (hX : ∀ E ∈ spec_validShape.X, CallSpec Try.prog E) (h : ∀ (sh : List Int), (decide (sh.length < 9223372036854775808)) = true → ∃ fuel, runF Try.prog spec_validShape.X spec_validShape.I 0 fuel 51 Try.f51 [.d (.ints .i64 sh)] = some ([.one ((.bool (validS sh)), false)], [])) : CallSpec Try.prog spec_validShape.E :=
  callSpec_of (d := 0) hX (by kernel_rfl) spec_validShape.I_ok (by kernel_rfl) (by kernel_rfl) (by kernel_rfl) (fun _ _ _ _ h => by dsimp only [spec_validShape.E] at h; cases h) (fun xs hp => by
    dsimp only [spec_validShape.E] at hp ⊢
    split at hp
    · exact h _ hp
    · cases hp)
theorem spec_validShape.ok : CallSpec Try.prog spec_validShape.E := spec_validShape.ok_of (by simp [spec_validShape.X, spec_allIn.ok, spec_volume.ok]) fun sh h => ⟨0, by
  rw [spec_validShape.e, h]
  unfold validS
  cases decide (((sh.length : Nat) : Int) ≤ 3) <;> cases allB sh 0 60 <;> rfl⟩

namespace spec_valid
noncomputable def E : Entry := ⟨38, true, false, fun | [.d (.agg [(.ints .i64 sh), (.ints .i64 da)])] => decide (sh.length < 9223372036854775808) && decide (da.length < 9223372036854775808) | _ => false, fun | [.d (.agg [(.ints .i64 sh), (.ints .i64 da)])] => ([.one ((.bool (validA sh da)), false)], []) | _ => ([], []), fun _ => [], false, fun _ => none⟩
end spec_valid
namespace spec_valid
noncomputable def X : List Entry := [spec_validShape.E, spec_volume.E, spec_allIn.E]
noncomputable def I : List Inl := [⟨38, Try.f38, ⟨[], [], [], [(1, [0, 1, 2, 3, 4, 7, 5, 6, 8, 9, 10, 11, 12, 13, 14, 15, 16, 17])], [], []⟩⟩]
theorem I_ok : ∀ i ∈ I, Try.prog.funcs[i.f]? = some i.fn ∧ (i.fn.name == "runtime.NumGoroutine") = false := by
  intro i hi
  simp only [I, List.mem_cons, List.not_mem_nil, or_false] at hi
  subst hi
  exact ⟨by kernel_rfl, by kernel_rfl⟩
theorem e (fuel : Nat) (p0q0 : List Int) (p0q1 : List Int) : runF Try.prog X I 0 fuel 38 Try.f38 [.d (.agg [(.ints .i64 p0q0), (.ints .i64 p0q1)])] =
  (bif decide (p0q0.length < 9223372036854775808) then
  (bif (validS p0q0) then
  (bif decide (p0q0.length < 9223372036854775808) then
  (bif ((((p0q1.length : Nat) : Int) : Int) == (volW p0q0)) then
  (bif decide (p0q1.length < 9223372036854775808) then
  some ([.one ((.bool (allB p0q1 ((-1000000)) 1000000)), false)], [])
  else
  none)
  else
  some ([.one ((.bool false), false)], []))
  else
  none)
  else
  some ([.one ((.bool false), false)], []))
  else
  none) := by kernel_rfl
end spec_valid
theorem spec_valid.ok_of (hX : ∀ E ∈ spec_valid.X, CallSpec Try.prog E) (h : ∀ (sh : List Int) (da : List Int), (decide (sh.length < 9223372036854775808) && decide (da.length < 9223372036854775808)) = true → ∃ fuel, runF Try.prog spec_valid.X spec_valid.I 0 fuel 38 Try.f38 [.d (.agg [(.ints .i64 sh), (.ints .i64 da)])] = some ([.one ((.bool (validA sh da)), false)], [])) : CallSpec Try.prog spec_valid.E :=
  callSpec_of (d := 0) hX (by kernel_rfl) spec_valid.I_ok (by kernel_rfl) (by kernel_rfl) (by kernel_rfl) (fun _ _ _ _ h => by dsimp only [spec_valid.E] at h; cases h) (fun xs hp => by
    dsimp only [spec_valid.E] at hp ⊢
    split at hp
    · exact h _ _ hp
    · cases hp)
theorem spec_valid.ok : CallSpec Try.prog spec_valid.E := spec_valid.ok_of (by simp [spec_valid.X, spec_validShape.ok, spec_volume.ok, spec_allIn.ok]) fun sh da h => ⟨0, by
  simp only [Bool.and_eq_true] at h
  rw [spec_valid.e, h.1, h.2]
  unfold validA
  cases validS sh <;> cases (((da.length : Nat) : Int) == volW sh) <;> rfl⟩

namespace spec_ValidArray
noncomputable def E : Entry := ⟨11, true, false, fun | [.d (.agg [(.ints .i64 sh), (.ints .i64 da)])] => decide (sh.length < 9223372036854775808) && decide (da.length < 9223372036854775808) | _ => false, fun | [.d (.agg [(.ints .i64 sh), (.ints .i64 da)])] => ([.one ((.bool (validA sh da)), false)], []) | _ => ([], []), fun _ => [], false, fun _ => none⟩
end spec_ValidArray
namespace spec_ValidArray
noncomputable def X : List Entry := [spec_valid.E]
noncomputable def I : List Inl := [⟨11, Try.f11, ⟨[], [], [], [], [], []⟩⟩]
theorem I_ok : ∀ i ∈ I, Try.prog.funcs[i.f]? = some i.fn ∧ (i.fn.name == "runtime.NumGoroutine") = false := by
  intro i hi
  simp only [I, List.mem_cons, List.not_mem_nil, or_false] at hi
  subst hi
  exact ⟨by kernel_rfl, by kernel_rfl⟩
theorem e (fuel : Nat) (p0q0 : List Int) (p0q1 : List Int) : runF Try.prog X I 0 fuel 11 Try.f11 [.d (.agg [(.ints .i64 p0q0), (.ints .i64 p0q1)])] =
  (bif decide (p0q0.length < 9223372036854775808) && decide (p0q1.length < 9223372036854775808) then
  some ([.one ((.bool (validA p0q0 p0q1)), false)], [])
  else
  none) := by kernel_rfl
end spec_ValidArray
theorem spec_ValidArray.ok_of (hX : ∀ E ∈ spec_ValidArray.X, CallSpec Try.prog E) (h : ∀ (sh : List Int) (da : List Int), (decide (sh.length < 9223372036854775808) && decide (da.length < 9223372036854775808)) = true → ∃ fuel, runF Try.prog spec_ValidArray.X spec_ValidArray.I 0 fuel 11 Try.f11 [.d (.agg [(.ints .i64 sh), (.ints .i64 da)])] = some ([.one ((.bool (validA sh da)), false)], [])) : CallSpec Try.prog spec_ValidArray.E :=
  callSpec_of (d := 0) hX (by kernel_rfl) spec_ValidArray.I_ok (by kernel_rfl) (by kernel_rfl) (by kernel_rfl) (fun _ _ _ _ h => by dsimp only [spec_ValidArray.E] at h; cases h) (fun xs hp => by
    dsimp only [spec_ValidArray.E] at hp ⊢
    split at hp
    · exact h _ _ hp
    · cases hp)
theorem spec_ValidArray.ok : CallSpec Try.prog spec_ValidArray.E := spec_ValidArray.ok_of (by simp [spec_ValidArray.X, spec_valid.ok]) fun sh da h => ⟨0, by
  rw [spec_ValidArray.e, h]
  rfl⟩

namespace impl_RankOf
noncomputable def E : Entry := ⟨12, true, false, fun | [.d (.agg [(.ints .i64 sh), (.ints .i64 da)])] => decide (sh.length < 9223372036854775808) && decide (da.length < 9223372036854775808) | _ => false, fun | [.d (.agg [(.ints .i64 sh), (.ints .i64 da)])] => ([.one ((.int .i64 (rankV sh da)), false)], []) | _ => ([], []), fun _ => [], false, fun _ => none⟩
end impl_RankOf
namespace impl_RankOf
noncomputable def X : List Entry := [impl_ValidArray.E]
noncomputable def I : List Inl := [⟨12, Try.f12, ⟨[], [], [], [], [], []⟩⟩]
theorem I_ok : ∀ i ∈ I, Try.prog.funcs[i.f]? = some i.fn ∧ (i.fn.name == "runtime.NumGoroutine") = false := by
  intro i hi
  simp only [I, List.mem_cons, List.not_mem_nil, or_false] at hi
  subst hi
  exact ⟨by kernel_rfl, by kernel_rfl⟩
theorem e (fuel : Nat) (p0q0 : List Int) (p0q1 : List Int) : runF Try.prog X I 0 fuel 12 Try.f12 [.d (.agg [(.ints .i64 p0q0), (.ints .i64 p0q1)])] =
  (bif decide (p0q0.length < 9223372036854775808) && decide (p0q1.length < 9223372036854775808) then
  (bif (!(validA p0q0 p0q1)) then
  some ([.one ((.int .i64 (-1)), false)], [])
  else
  some ([.one ((.int .i64 ((p0q0.length : Nat) : Int)), false)], []))
  else
  none) := by kernel_rfl
end impl_RankOf
theorem impl_RankOf.ok_of (hX : ∀ E ∈ impl_RankOf.X, CallSpec Try.prog E) (h : ∀ (sh : List Int) (da : List Int), (decide (sh.length < 9223372036854775808) && decide (da.length < 9223372036854775808)) = true → ∃ fuel, runF Try.prog impl_RankOf.X impl_RankOf.I 0 fuel 12 Try.f12 [.d (.agg [(.ints .i64 sh), (.ints .i64 da)])] = some ([.one ((.int .i64 (rankV sh da)), false)], [])) : CallSpec Try.prog impl_RankOf.E :=
  callSpec_of (d := 0) hX (by kernel_rfl) impl_RankOf.I_ok (by kernel_rfl) (by kernel_rfl) (by kernel_rfl) (fun _ _ _ _ h => by dsimp only [impl_RankOf.E] at h; cases h) (fun xs hp => by
    dsimp only [impl_RankOf.E] at hp ⊢
    split at hp
    · exact h _ _ hp
    · cases hp)
theorem impl_RankOf.ok : CallSpec Try.prog impl_RankOf.E := impl_RankOf.ok_of (by simp [impl_RankOf.X, impl_ValidArray.ok]) fun sh da h => ⟨0, by
  rw [impl_RankOf.e, h]
  unfold rankV
  cases validA sh da <;> rfl⟩

namespace impl_SizeOf
noncomputable def E : Entry := ⟨13, true, false, fun | [.d (.agg [(.ints .i64 sh), (.ints .i64 da)])] => decide (sh.length < 9223372036854775808) && decide (da.length < 9223372036854775808) | _ => false, fun | [.d (.agg [(.ints .i64 sh), (.ints .i64 da)])] => ([.one ((.int .i64 (sizeV sh da)), false)], []) | _ => ([], []), fun _ => [], false, fun _ => none⟩
end impl_SizeOf
namespace impl_SizeOf
noncomputable def X : List Entry := [impl_ValidArray.E]
noncomputable def I : List Inl := [⟨13, Try.f13, ⟨[], [], [], [], [], []⟩⟩]
theorem I_ok : ∀ i ∈ I, Try.prog.funcs[i.f]? = some i.fn ∧ (i.fn.name == "runtime.NumGoroutine") = false := by
  intro i hi
  simp only [I, List.mem_cons, List.not_mem_nil, or_false] at hi
  subst hi
  exact ⟨by kernel_rfl, by kernel_rfl⟩
theorem e (fuel : Nat) (p0q0 : List Int) (p0q1 : List Int) : runF Try.prog X I 0 fuel 13 Try.f13 [.d (.agg [(.ints .i64 p0q0), (.ints .i64 p0q1)])] =
  (bif decide (p0q0.length < 9223372036854775808) && decide (p0q1.length < 9223372036854775808) then
  (bif (!(validA p0q0 p0q1)) then
  some ([.one ((.int .i64 (-1)), false)], [])
  else
  some ([.one ((.int .i64 ((p0q1.length : Nat) : Int)), false)], []))
  else
  none) := by kernel_rfl
end impl_SizeOf
theorem impl_SizeOf.ok_of (hX : ∀ E ∈ impl_SizeOf.X, CallSpec Try.prog E) (h : ∀ (sh : List Int) (da : List Int), (decide (sh.length < 9223372036854775808) && decide (da.length < 9223372036854775808)) = true → ∃ fuel, runF Try.prog impl_SizeOf.X impl_SizeOf.I 0 fuel 13 Try.f13 [.d (.agg [(.ints .i64 sh), (.ints .i64 da)])] = some ([.one ((.int .i64 (sizeV sh da)), false)], [])) : CallSpec Try.prog impl_SizeOf.E :=
  callSpec_of (d := 0) hX (by kernel_rfl) impl_SizeOf.I_ok (by kernel_rfl) (by kernel_rfl) (by kernel_rfl) (fun _ _ _ _ h => by dsimp only [impl_SizeOf.E] at h; cases h) (fun xs hp => by
    dsimp only [impl_SizeOf.E] at hp ⊢
    split at hp
    · exact h _ _ hp
    · cases hp)
theorem impl_SizeOf.ok : CallSpec Try.prog impl_SizeOf.E := impl_SizeOf.ok_of (by simp [impl_SizeOf.X, impl_ValidArray.ok]) fun sh da h => ⟨0, by
  rw [impl_SizeOf.e, h]
  unfold sizeV
  cases validA sh da <;> rfl⟩

namespace laws_product
noncomputable def E : Entry := ⟨14, true, false, fun | [.d (.ints .i64 xs)] => decide (xs.length < 9223372036854775808) | _ => false, fun | [.d (.ints .i64 xs)] => ([.one ((.int .i64 (volW xs)), false)], []) | _ => ([], []), fun _ => [], false, fun _ => none⟩
end laws_product
namespace laws_product
noncomputable def X : List Entry := []
noncomputable def I : List Inl := [⟨14, Try.f14, ⟨[], [(1000003, [1, 2, 5, 6, 7, 8, 9, 10, 11, 12, 13, 14, 15, 16, 17])], [], [], [], []⟩⟩]
theorem I_ok : ∀ i ∈ I, Try.prog.funcs[i.f]? = some i.fn ∧ (i.fn.name == "runtime.NumGoroutine") = false := by
  intro i hi
  simp only [I, List.mem_cons, List.not_mem_nil, or_false] at hi
  subst hi
  exact ⟨by kernel_rfl, by kernel_rfl⟩
noncomputable abbrev L0 (fuel n : Nat) (s : St) (k : Kont) := lAt Try.prog X I fuel true 0 false 14 (bodyOf Try.f14) [1, 1, 0, 1, 0] n s k
noncomputable abbrev k0  (fuel : Nat) : Kont := (kAt Try.prog X I fuel true 0 false 14 (bodyOf Try.f14) [1, 1, 0, 1, 0] [] (endK Try.prog Try.f14))
noncomputable def t0 (p0 : List Int) (x0q1 : Int) (x0q2 : Int) : St := ⟨[(.imm (.ints .i64 p0)), .dead, .dead, (.imm (.int .i64 x0q1)), (.imm (.int .i64 x0q2)), .dead, .dead, .dead, .dead, .dead, .dead, .dead, .dead, .dead, .dead, .dead, .dead, .dead], hOf [], [], []⟩
theorem e (fuel : Nat) (p0 : List Int) : runF Try.prog X I 0 fuel 14 Try.f14 [.d (.ints .i64 p0)] =
  L0 fuel fuel (t0 p0 1 0) (k0  fuel) := by kernel_rfl
theorem s0 (fuel n0 : Nat) (p0 : List Int) (x0q1 : Int) (x0q2 : Int) : L0 fuel (n0 + 1) (t0 p0 x0q1 x0q2) (k0  fuel) =
  (bif (decide ((x0q2 : Int) < ((p0.length : Nat) : Int))) then
  (idx x0q2 p0.length).bind fun j5 =>
  (p0[j5]?).bind fun v6 =>
  L0 fuel n0 (t0 p0 ((IntKind.wrap .i64 (x0q1 * v6))) ((IntKind.wrap .i64 (x0q2 + 1)))) (k0  fuel)
  else
  some ([.one ((.int .i64 x0q1), false)], [])) := by kernel_rfl
end laws_product
theorem laws_product.ok_of (hX : ∀ E ∈ laws_product.X, CallSpec Try.prog E) (h : ∀ (xs : List Int), (decide (xs.length < 9223372036854775808)) = true → ∃ fuel, runF Try.prog laws_product.X laws_product.I 0 fuel 14 Try.f14 [.d (.ints .i64 xs)] = some ([.one ((.int .i64 (volW xs)), false)], [])) : CallSpec Try.prog laws_product.E :=
  callSpec_of (d := 0) hX (by kernel_rfl) laws_product.I_ok (by kernel_rfl) (by kernel_rfl) (by kernel_rfl) (fun _ _ _ _ h => by dsimp only [laws_product.E] at h; cases h) (fun xs hp => by
    dsimp only [laws_product.E] at hp ⊢
    split at hp
    · exact h _ hp
    · cases hp)
theorem laws_product.loop (fuel : Nat) (xs : List Int) (hx : xs.length < 9223372036854775808) : ∀ (m n j : Nat) (a : Int), xs.length - j = m → m < n → j ≤ xs.length →
    laws_product.L0 fuel n (laws_product.t0 xs a (j : Int)) (laws_product.k0 fuel) = some ([.one (.int .i64 (volFrom (xs.drop j) a), false)], []) := by
  intro m
  induction m with
  | zero =>
    intro n j a h1 h2 h3
    obtain ⟨n, rfl⟩ : ∃ n', n = n' + 1 := ⟨n - 1, by omega⟩
    have hj : ¬ j < xs.length := by omega
    rw [laws_product.s0, dge hj, dropE hj]
    rfl
  | succ m ih =>
    intro n j a h1 h2 h3
    obtain ⟨n, rfl⟩ : ∃ n', n = n' + 1 := ⟨n - 1, by omega⟩
    have hj : j < xs.length := by omega
    rw [laws_product.s0, dlt hj, idx_nat hj, w1 (by omega), dropS hj]
    simp only [cond_true, Option.bind_some, getS hj, volFrom]
    exact ih n (j + 1) _ (by omega) (by omega) (by omega)

theorem laws_product.ok : CallSpec Try.prog laws_product.E := laws_product.ok_of (by simp [laws_product.X]) fun xs h => by
  simp only [decide_eq_true_eq] at h
  refine ⟨xs.length + 1, ?_⟩
  rw [laws_product.e]
  exact laws_product.loop (xs.length + 1) xs h xs.length (xs.length + 1) 0 1 (by omega) (by omega) (by omega)

namespace laws_FnValidArray
noncomputable def E : Entry := ⟨3, true, false, fun | [.d (.ints .u8 bs)] => bytesB bs | _ => false, fun | [.d (.ints .u8 bs)] => ([.one ((.bool true), false)], []) | _ => ([], []), fun _ => [], false, fun _ => none⟩
end laws_FnValidArray
namespace laws_FnValidArray
noncomputable def X : List Entry := [spec_DrawValidArray.E, impl_ValidArray.E, spec_ValidArray.E, impl_RankOf.E, impl_SizeOf.E, laws_product.E]
noncomputable def I : List Inl := [⟨3, Try.f3, ⟨[9], [], [], [(5, [0, 1, 2, 3, 4, 5, 6, 7, 8, 9, 10, 11, 12, 13, 14, 15, 16, 17, 18, 19, 20, 21, 24, 22, 23, 25, 26, 27, 28, 29, 30])], [], []⟩⟩]
theorem I_ok : ∀ i ∈ I, Try.prog.funcs[i.f]? = some i.fn ∧ (i.fn.name == "runtime.NumGoroutine") = false := by
  intro i hi
  simp only [I, List.mem_cons, List.not_mem_nil, or_false] at hi
  subst hi
  exact ⟨by kernel_rfl, by kernel_rfl⟩
theorem e (fuel : Nat) (p0 : List Int) : runF Try.prog X I 0 fuel 3 Try.f3 [.d (.ints .u8 p0)] =
  (bif (decide ((((p0.length : Nat) : Int) : Int) > 1048576)) then
  some ([.one ((.bool true), false)], [])
  else
  (bif bytesB p0 then
  (bif decide (((aArS (cutC p0) 0)).length < 9223372036854775808) && decide (((aArD (cutC p0) 0)).length < 9223372036854775808) then
  (bif decide (((aArS (cutC p0) 0)).length < 9223372036854775808) && decide (((aArD (cutC p0) 0)).length < 9223372036854775808) then
  (bif ((validA ((aArS (cutC p0) 0)) ((aArD (cutC p0) 0))) == (validA ((aArS (cutC p0) 0)) ((aArD (cutC p0) 0)))) then
  (bif decide (((aArS (cutC p0) 0)).length < 9223372036854775808) && decide (((aArD (cutC p0) 0)).length < 9223372036854775808) then
  (bif ((validA ((aArS (cutC p0) 0)) ((aArD (cutC p0) 0))) == (decide (((rankV ((aArS (cutC p0) 0)) ((aArD (cutC p0) 0))) : Int) ≥ 0))) then
  (bif decide (((aArS (cutC p0) 0)).length < 9223372036854775808) && decide (((aArD (cutC p0) 0)).length < 9223372036854775808) then
  (bif ((validA ((aArS (cutC p0) 0)) ((aArD (cutC p0) 0))) == (decide (((sizeV ((aArS (cutC p0) 0)) ((aArD (cutC p0) 0))) : Int) ≥ 0))) then
  (bif (!(validA ((aArS (cutC p0) 0)) ((aArD (cutC p0) 0)))) then
  some ([.one ((.bool true), false)], [])
  else
  (bif decide (((aArS (cutC p0) 0)).length < 9223372036854775808) && decide (((aArD (cutC p0) 0)).length < 9223372036854775808) then
  (bif decide (((aArS (cutC p0) 0)).length < 9223372036854775808) then
  some ([.one ((.bool (((sizeV ((aArS (cutC p0) 0)) ((aArD (cutC p0) 0))) : Int) == (volW ((aArS (cutC p0) 0))))), false)], [])
  else
  none)
  else
  none))
  else
  some ([.one ((.bool false), false)], []))
  else
  none)
  else
  some ([.one ((.bool false), false)], []))
  else
  none)
  else
  some ([.one ((.bool false), false)], []))
  else
  none)
  else
  none)
  else
  none)) := by kernel_rfl
end laws_FnValidArray
theorem laws_FnValidArray.ok_of (hX : ∀ E ∈ laws_FnValidArray.X, CallSpec Try.prog E) (h : ∀ (bs : List Int), (bytesB bs) = true → ∃ fuel, runF Try.prog laws_FnValidArray.X laws_FnValidArray.I 0 fuel 3 Try.f3 [.d (.ints .u8 bs)] = some ([.one ((.bool true), false)], [])) : CallSpec Try.prog laws_FnValidArray.E :=
  callSpec_of (d := 0) hX (by kernel_rfl) laws_FnValidArray.I_ok (by kernel_rfl) (by kernel_rfl) (by kernel_rfl) (fun _ _ _ _ h => by dsimp only [laws_FnValidArray.E] at h; cases h) (fun xs hp => by
    dsimp only [laws_FnValidArray.E] at hp ⊢
    split at hp
    · exact h _ hp
    · cases hp)
theorem laws_FnValidArray.ok : CallSpec Try.prog laws_FnValidArray.E := laws_FnValidArray.ok_of (by simp [laws_FnValidArray.X, spec_DrawValidArray.ok, impl_ValidArray.ok, spec_ValidArray.ok, impl_RankOf.ok, impl_SizeOf.ok, laws_product.ok]) fun bs h => by
  obtain ⟨F, hF⟩ : ∃ F : Nat, 4000 < F := ⟨4001, by omega⟩
  refine ⟨F, ?_⟩
  rw [laws_FnValidArray.e]
  by_cases hl : ((bs.length : Nat) : Int) > 1048576
  · rw [decide_eq_true hl]; rfl
  rw [decide_eq_false hl, cond_false, h, cond_true]
  have r0 := cut_ok h (p := 0) (by omega) (by omega)
  obtain ⟨a1, a2, _, _⟩ := aAr_bd r0 (by omega)
  generalize aArS (cutC bs) 0 = sh at *
  generalize aArD (cutC bs) 0 = da at *
  have g1 := lt_of (xs := sh) (by omega)
  have g2 := lt_of (xs := da) (by omega)
  cases hv : validA sh da with
  | false =>
    simp only [rankV, sizeV, hv, g1, g2, Bool.and_self, cond_true, cond_false]
    rfl
  | true =>
    have hd := (validA_inv hv).2.1
    have d1 : decide (((sh.length : Nat) : Int) ≥ 0) = true := decide_eq_true (by omega)
    have d2 : decide (((da.length : Nat) : Int) ≥ 0) = true := decide_eq_true (by omega)
    simp only [Bool.and_self, Bool.and_true, Bool.true_and, cond_true, cond_false, Bool.not_true, Bool.not_false, bne_self_eq_false, beq_self_eq_true, decide_true, eq_self, rankV, sizeV, hv, g1, g2, d1, d2, ← hd]

namespace spec_DrawRankOf
noncomputable def E : Entry := ⟨15, false, false, fun | [.d (.ints .u8 bs)] => bytesB bs | _ => false, fun | [.d (.ints .u8 bs)] => ([.agg [((.ints .i64 (aArS (cutC bs) 0)), false), ((.ints .i64 (aArD (cutC bs) 0)), false)]], []) | _ => ([], []), fun _ => [], true, fun _ => none⟩
end spec_DrawRankOf
namespace spec_DrawRankOf
noncomputable def X : List Entry := [spec_newReader.E, spec_anyArray.E]
noncomputable def I : List Inl := [⟨15, Try.f15, ⟨[5], [], [], [], [], []⟩⟩]
theorem I_ok : ∀ i ∈ I, Try.prog.funcs[i.f]? = some i.fn ∧ (i.fn.name == "runtime.NumGoroutine") = false := by
  intro i hi
  simp only [I, List.mem_cons, List.not_mem_nil, or_false] at hi
  subst hi
  exact ⟨by kernel_rfl, by kernel_rfl⟩
theorem e (fuel : Nat) (p0 : List Int) : runF Try.prog X I 0 fuel 15 Try.f15 [.d (.ints .u8 p0)] =
  (bif rdOk ((cutC p0)) 0 && decide ((0 : Int) ≤ 1000000) then
  some ([.agg [((.ints .i64 (aArS ((cutC p0)) 0)), false), ((.ints .i64 (aArD ((cutC p0)) 0)), false)]], [])
  else
  none) := by kernel_rfl
end spec_DrawRankOf
theorem spec_DrawRankOf.ok_of (hX : ∀ E ∈ spec_DrawRankOf.X, CallSpec Try.prog E) (h : ∀ (bs : List Int), (bytesB bs) = true → ∃ fuel, runF Try.prog spec_DrawRankOf.X spec_DrawRankOf.I 0 fuel 15 Try.f15 [.d (.ints .u8 bs)] = some ([.agg [((.ints .i64 (aArS (cutC bs) 0)), false), ((.ints .i64 (aArD (cutC bs) 0)), false)]], [])) : CallSpec Try.prog spec_DrawRankOf.E :=
  callSpec_of (d := 0) hX (by kernel_rfl) spec_DrawRankOf.I_ok (by kernel_rfl) (by kernel_rfl) (by kernel_rfl) (fun _ _ _ _ h => by dsimp only [spec_DrawRankOf.E] at h; cases h) (fun xs hp => by
    dsimp only [spec_DrawRankOf.E] at hp ⊢
    split at hp
    · exact h _ hp
    · cases hp)
theorem spec_DrawRankOf.ok : CallSpec Try.prog spec_DrawRankOf.E := spec_DrawRankOf.ok_of (by simp [spec_DrawRankOf.X, spec_newReader.ok, spec_anyArray.ok]) fun bs h => ⟨0, by
  rw [spec_DrawRankOf.e, cut_ok h (by omega) (by omega)]
  rfl⟩

namespace spec_RankOf
noncomputable def E : Entry := ⟨16, true, false, fun | [.d (.agg [(.ints .i64 sh), (.ints .i64 da)])] => decide (sh.length < 9223372036854775808) && decide (da.length < 9223372036854775808) | _ => false, fun | [.d (.agg [(.ints .i64 sh), (.ints .i64 da)])] => ([.one ((.int .i64 (rankV sh da)), false)], []) | _ => ([], []), fun _ => [], false, fun _ => none⟩
end spec_RankOf
namespace spec_RankOf
noncomputable def X : List Entry := [spec_valid.E]
noncomputable def I : List Inl := [⟨16, Try.f16, ⟨[], [], [], [], [], []⟩⟩]
theorem I_ok : ∀ i ∈ I, Try.prog.funcs[i.f]? = some i.fn ∧ (i.fn.name == "runtime.NumGoroutine") = false := by
  intro i hi
  simp only [I, List.mem_cons, List.not_mem_nil, or_false] at hi
  subst hi
  exact ⟨by kernel_rfl, by kernel_rfl⟩
theorem e (fuel : Nat) (p0q0 : List Int) (p0q1 : List Int) : runF Try.prog X I 0 fuel 16 Try.f16 [.d (.agg [(.ints .i64 p0q0), (.ints .i64 p0q1)])] =
  (bif decide (p0q0.length < 9223372036854775808) && decide (p0q1.length < 9223372036854775808) then
  (bif (!(validA p0q0 p0q1)) then
  some ([.one ((.int .i64 (-1)), false)], [])
  else
  some ([.one ((.int .i64 ((p0q0.length : Nat) : Int)), false)], []))
  else
  none) := by kernel_rfl
end spec_RankOf
theorem spec_RankOf.ok_of (hX : ∀ E ∈ spec_RankOf.X, CallSpec Try.prog E) (h : ∀ (sh : List Int) (da : List Int), (decide (sh.length < 9223372036854775808) && decide (da.length < 9223372036854775808)) = true → ∃ fuel, runF Try.prog spec_RankOf.X spec_RankOf.I 0 fuel 16 Try.f16 [.d (.agg [(.ints .i64 sh), (.ints .i64 da)])] = some ([.one ((.int .i64 (rankV sh da)), false)], [])) : CallSpec Try.prog spec_RankOf.E :=
  callSpec_of (d := 0) hX (by kernel_rfl) spec_RankOf.I_ok (by kernel_rfl) (by kernel_rfl) (by kernel_rfl) (fun _ _ _ _ h => by dsimp only [spec_RankOf.E] at h; cases h) (fun xs hp => by
    dsimp only [spec_RankOf.E] at hp ⊢
    split at hp
    · exact h _ _ hp
    · cases hp)
theorem spec_RankOf.ok : CallSpec Try.prog spec_RankOf.E := spec_RankOf.ok_of (by simp [spec_RankOf.X, spec_valid.ok]) fun sh da h => ⟨0, by
  rw [spec_RankOf.e, h]
  unfold rankV
  cases validA sh da <;> rfl⟩

namespace impl_copyList
noncomputable def E : Entry := ⟨42, false, false, fun | [.d (.ints .i64 xs)] => szB xs | _ => false, fun | [.d (.ints .i64 xs)] => ([.one ((.ints .i64 xs), true)], []) | _ => ([], []), fun _ => [], true, fun _ => none⟩
end impl_copyList
namespace impl_copyList
noncomputable def X : List Entry := []
noncomputable def I : List Inl := [⟨42, Try.f42, ⟨[], [], [], [], [], []⟩⟩]
theorem I_ok : ∀ i ∈ I, Try.prog.funcs[i.f]? = some i.fn ∧ (i.fn.name == "runtime.NumGoroutine") = false := by
  intro i hi
  simp only [I, List.mem_cons, List.not_mem_nil, or_false] at hi
  subst hi
  exact ⟨by kernel_rfl, by kernel_rfl⟩
theorem e (fuel : Nat) (p0 : List Int) : runF Try.prog X I 0 fuel 42 Try.f42 [.d (.ints .i64 p0)] =
  (bif decide (0 ≤ (((p0.length : Nat) : Int) : Int)) && decide ((((p0.length : Nat) : Int) : Int) ≤ ((p0.length : Nat) : Int)) && decide ((((p0.length : Nat) : Int) : Int) ≤ 1152921504606846976) && decide (((8 : Nat) : Int) * ((p0.length : Nat) : Int) ≤ 281474976710656) then
  some ([.one ((.ints .i64 (copyL (List.replicate (((p0.length : Nat) : Int)).toNat (0 : Int)) 0 (List.replicate (((p0.length : Nat) : Int)).toNat (0 : Int)).length p0)), true)], [])
  else
  none) := by kernel_rfl
end impl_copyList
theorem impl_copyList.ok_of (hX : ∀ E ∈ impl_copyList.X, CallSpec Try.prog E) (h : ∀ (xs : List Int), (szB xs) = true → ∃ fuel, runF Try.prog impl_copyList.X impl_copyList.I 0 fuel 42 Try.f42 [.d (.ints .i64 xs)] = some ([.one ((.ints .i64 xs), true)], [])) : CallSpec Try.prog impl_copyList.E :=
  callSpec_of (d := 0) hX (by kernel_rfl) impl_copyList.I_ok (by kernel_rfl) (by kernel_rfl) (by kernel_rfl) (fun _ _ _ _ h => by dsimp only [impl_copyList.E] at h; cases h) (fun xs hp => by
    dsimp only [impl_copyList.E] at hp ⊢
    split at hp
    · exact h _ hp
    · cases hp)
theorem impl_copyList.ok : CallSpec Try.prog impl_copyList.E := impl_copyList.ok_of (by simp [impl_copyList.X]) fun xs h => ⟨0, by
  have hx := szB_le h
  rw [impl_copyList.e, mkOk (by omega) (by omega)]
  simp only [cond_true, Int.toNat_natCast, copyL_all]⟩

namespace impl_VectorOf
noncomputable def E : Entry := ⟨19, false, false, fun | [.d (.ints .i64 xs)] => szB xs | _ => false, fun | [.d (.ints .i64 xs)] => ([.agg [((.ints .i64 (vecS xs)), true), ((.ints .i64 (vecD xs)), true)]], []) | _ => ([], []), fun _ => [], true, fun _ => none⟩
end impl_VectorOf
namespace impl_VectorOf
noncomputable def X : List Entry := [impl_ValidArray.E, impl_copyList.E]
noncomputable def I : List Inl := [⟨19, Try.f19, ⟨[15], [], [], [], [], []⟩⟩]
theorem I_ok : ∀ i ∈ I, Try.prog.funcs[i.f]? = some i.fn ∧ (i.fn.name == "runtime.NumGoroutine") = false := by
  intro i hi
  simp only [I, List.mem_cons, List.not_mem_nil, or_false] at hi
  subst hi
  exact ⟨by kernel_rfl, by kernel_rfl⟩
theorem e (fuel : Nat) (p0 : List Int) : runF Try.prog X I 0 fuel 19 Try.f19 [.d (.ints .i64 p0)] =
  (bif decide (([((p0.length : Nat) : Int)]).length < 9223372036854775808) && decide (p0.length < 9223372036854775808) then
  (bif (!(validA ([((p0.length : Nat) : Int)]) p0)) then
  some ([.agg [((.ints .i64 []), true), ((.ints .i64 []), true)]], [])
  else
  (bif szB p0 then
  some ([.agg [((.ints .i64 [((p0.length : Nat) : Int)]), true), ((.ints .i64 p0), true)]], [])
  else
  none))
  else
  none) := by kernel_rfl
end impl_VectorOf
theorem impl_VectorOf.ok_of (hX : ∀ E ∈ impl_VectorOf.X, CallSpec Try.prog E) (h : ∀ (xs : List Int), (szB xs) = true → ∃ fuel, runF Try.prog impl_VectorOf.X impl_VectorOf.I 0 fuel 19 Try.f19 [.d (.ints .i64 xs)] = some ([.agg [((.ints .i64 (vecS xs)), true), ((.ints .i64 (vecD xs)), true)]], [])) : CallSpec Try.prog impl_VectorOf.E :=
  callSpec_of (d := 0) hX (by kernel_rfl) impl_VectorOf.I_ok (by kernel_rfl) (by kernel_rfl) (by kernel_rfl) (fun _ _ _ _ h => by dsimp only [impl_VectorOf.E] at h; cases h) (fun xs hp => by
    dsimp only [impl_VectorOf.E] at hp ⊢
    split at hp
    · exact h _ hp
    · cases hp)
theorem validA_vec0 (xs : List Int) (hx : xs.length < 9223372036854775808) : validA [((xs.length : Nat) : Int)] xs = vecOk xs := by
  have e1 := @wS ((xs.length : Nat) : Int) (by omega) (by omega)
  by_cases h1 : xs.length ≤ 60
  · have h2 : ((xs.length : Nat) : Int) ≤ 60 := by omega
    simp [validA, validS, vecOk, allB_cons, allB_nil, volW, volFrom, e1, h1, h2]
  · have h2 : ¬ ((xs.length : Nat) : Int) ≤ 60 := by omega
    simp [validA, validS, vecOk, allB_cons, allB_nil, volW, volFrom, e1, h1, h2]

theorem impl_VectorOf.ok : CallSpec Try.prog impl_VectorOf.E := impl_VectorOf.ok_of (by simp [impl_VectorOf.X, impl_ValidArray.ok, impl_copyList.ok]) fun xs h => ⟨0, by
  rw [impl_VectorOf.e, lt_of (szB_lt h), h, validA_vec0 xs (szB_lt h), lt_of (by simp)]
  unfold vecS vecD
  cases vecOk xs <;> rfl⟩

namespace impl_Ravel
noncomputable def E : Entry := ⟨17, false, false, fun | [.d (.agg [(.ints .i64 sh), (.ints .i64 da)])] => decide (sh.length < 9223372036854775808) && decide (da.length < 9223372036854775808) | _ => false, fun | [.d (.agg [(.ints .i64 sh), (.ints .i64 da)])] => ([.agg [((.ints .i64 (ravS sh da)), true), ((.ints .i64 (ravD sh da)), true)]], []) | _ => ([], []), fun _ => [], true, fun _ => none⟩
end impl_Ravel
namespace impl_Ravel
noncomputable def X : List Entry := [impl_ValidArray.E, impl_VectorOf.E]
noncomputable def I : List Inl := [⟨17, Try.f17, ⟨[9], [], [], [], [], []⟩⟩]
theorem I_ok : ∀ i ∈ I, Try.prog.funcs[i.f]? = some i.fn ∧ (i.fn.name == "runtime.NumGoroutine") = false := by
  intro i hi
  simp only [I, List.mem_cons, List.not_mem_nil, or_false] at hi
  subst hi
  exact ⟨by kernel_rfl, by kernel_rfl⟩
theorem e (fuel : Nat) (p0q0 : List Int) (p0q1 : List Int) : runF Try.prog X I 0 fuel 17 Try.f17 [.d (.agg [(.ints .i64 p0q0), (.ints .i64 p0q1)])] =
  (bif decide (p0q0.length < 9223372036854775808) && decide (p0q1.length < 9223372036854775808) then
  (bif (!(validA p0q0 p0q1)) then
  some ([.agg [((.ints .i64 []), true), ((.ints .i64 []), true)]], [])
  else
  (bif szB p0q1 then
  some ([.agg [((.ints .i64 (vecS p0q1)), true), ((.ints .i64 (vecD p0q1)), true)]], [])
  else
  none))
  else
  none) := by kernel_rfl
end impl_Ravel
theorem impl_Ravel.ok_of (hX : ∀ E ∈ impl_Ravel.X, CallSpec Try.prog E) (h : ∀ (sh : List Int) (da : List Int), (decide (sh.length < 9223372036854775808) && decide (da.length < 9223372036854775808)) = true → ∃ fuel, runF Try.prog impl_Ravel.X impl_Ravel.I 0 fuel 17 Try.f17 [.d (.agg [(.ints .i64 sh), (.ints .i64 da)])] = some ([.agg [((.ints .i64 (ravS sh da)), true), ((.ints .i64 (ravD sh da)), true)]], [])) : CallSpec Try.prog impl_Ravel.E :=
  callSpec_of (d := 0) hX (by kernel_rfl) impl_Ravel.I_ok (by kernel_rfl) (by kernel_rfl) (by kernel_rfl) (fun _ _ _ _ h => by dsimp only [impl_Ravel.E] at h; cases h) (fun xs hp => by
    dsimp only [impl_Ravel.E] at hp ⊢
    split at hp
    · exact h _ _ hp
    · cases hp)
theorem impl_Ravel.ok : CallSpec Try.prog impl_Ravel.E := impl_Ravel.ok_of (by simp [impl_Ravel.X, impl_ValidArray.ok, impl_VectorOf.ok]) fun sh da h => ⟨0, by
  rw [impl_Ravel.e, h]
  unfold ravS ravD vecS vecD
  cases hv : validA sh da with
  | false => rfl
  | true => rw [szB_of (by have := validA_len hv; omega), vecOk_of hv]; rfl⟩

namespace laws_FnRankOf
noncomputable def E : Entry := ⟨4, true, false, fun | [.d (.ints .u8 bs)] => bytesB bs | _ => false, fun | [.d (.ints .u8 bs)] => ([.one ((.bool true), false)], []) | _ => ([], []), fun _ => [], false, fun _ => none⟩
end laws_FnRankOf
namespace laws_FnRankOf
noncomputable def X : List Entry := [spec_DrawRankOf.E, impl_RankOf.E, spec_RankOf.E, impl_Ravel.E]
noncomputable def I : List Inl := [⟨4, Try.f4, ⟨[9, 35], [], [], [], [], []⟩⟩]
theorem I_ok : ∀ i ∈ I, Try.prog.funcs[i.f]? = some i.fn ∧ (i.fn.name == "runtime.NumGoroutine") = false := by
  intro i hi
  simp only [I, List.mem_cons, List.not_mem_nil, or_false] at hi
  subst hi
  exact ⟨by kernel_rfl, by kernel_rfl⟩
theorem e (fuel : Nat) (p0 : List Int) : runF Try.prog X I 0 fuel 4 Try.f4 [.d (.ints .u8 p0)] =
  (bif (decide ((((p0.length : Nat) : Int) : Int) > 1048576)) then
  some ([.one ((.bool true), false)], [])
  else
  (bif bytesB p0 then
  (bif decide (((aArS (cutC p0) 0)).length < 9223372036854775808) && decide (((aArD (cutC p0) 0)).length < 9223372036854775808) then
  (bif decide (((aArS (cutC p0) 0)).length < 9223372036854775808) && decide (((aArD (cutC p0) 0)).length < 9223372036854775808) then
  (bif (((rankV ((aArS (cutC p0) 0)) ((aArD (cutC p0) 0))) : Int) != (rankV ((aArS (cutC p0) 0)) ((aArD (cutC p0) 0)))) then
  (bif decide (((aArS (cutC p0) 0)).length < 9223372036854775808) && decide (((aArD (cutC p0) 0)).length < 9223372036854775808) then
  some ([.one ((.bool (((rankV ((aArS (cutC p0) 0)) ((aArD (cutC p0) 0))) : Int) == (rankV ((aArS (cutC p0) 0)) ((aArD (cutC p0) 0))))), false)], [])
  else
  none)
  else
  (bif (decide (((rankV ((aArS (cutC p0) 0)) ((aArD (cutC p0) 0))) : Int) < 0)) then
  (bif decide (((aArS (cutC p0) 0)).length < 9223372036854775808) && decide (((aArD (cutC p0) 0)).length < 9223372036854775808) then
  some ([.one ((.bool (((rankV ((aArS (cutC p0) 0)) ((aArD (cutC p0) 0))) : Int) == (rankV ((aArS (cutC p0) 0)) ((aArD (cutC p0) 0))))), false)], [])
  else
  none)
  else
  (bif (((rankV ((aArS (cutC p0) 0)) ((aArD (cutC p0) 0))) : Int) == (((aArS (cutC p0) 0).length : Nat) : Int)) then
  (bif (decide (((rankV ((aArS (cutC p0) 0)) ((aArD (cutC p0) 0))) : Int) ≤ 3)) then
  (bif decide (((aArS (cutC p0) 0)).length < 9223372036854775808) && decide (((aArD (cutC p0) 0)).length < 9223372036854775808) then
  (bif decide (((ravS ((aArS (cutC p0) 0)) ((aArD (cutC p0) 0)))).length < 9223372036854775808) && decide (((ravD ((aArS (cutC p0) 0)) ((aArD (cutC p0) 0)))).length < 9223372036854775808) then
  some ([.one ((.bool (((rankV ((ravS ((aArS (cutC p0) 0)) ((aArD (cutC p0) 0)))) ((ravD ((aArS (cutC p0) 0)) ((aArD (cutC p0) 0))))) : Int) == 1)), false)], [])
  else
  none)
  else
  none)
  else
  some ([.one ((.bool false), false)], []))
  else
  some ([.one ((.bool false), false)], []))))
  else
  none)
  else
  none)
  else
  none)) := by kernel_rfl
end laws_FnRankOf
theorem laws_FnRankOf.ok_of (hX : ∀ E ∈ laws_FnRankOf.X, CallSpec Try.prog E) (h : ∀ (bs : List Int), (bytesB bs) = true → ∃ fuel, runF Try.prog laws_FnRankOf.X laws_FnRankOf.I 0 fuel 4 Try.f4 [.d (.ints .u8 bs)] = some ([.one ((.bool true), false)], [])) : CallSpec Try.prog laws_FnRankOf.E :=
  callSpec_of (d := 0) hX (by kernel_rfl) laws_FnRankOf.I_ok (by kernel_rfl) (by kernel_rfl) (by kernel_rfl) (fun _ _ _ _ h => by dsimp only [laws_FnRankOf.E] at h; cases h) (fun xs hp => by
    dsimp only [laws_FnRankOf.E] at hp ⊢
    split at hp
    · exact h _ hp
    · cases hp)
theorem laws_FnRankOf.ok : CallSpec Try.prog laws_FnRankOf.E := laws_FnRankOf.ok_of (by simp [laws_FnRankOf.X, spec_DrawRankOf.ok, impl_RankOf.ok, spec_RankOf.ok, impl_Ravel.ok]) fun bs h => by
  obtain ⟨F, hF⟩ : ∃ F : Nat, 4000 < F := ⟨4001, by omega⟩
  refine ⟨F, ?_⟩
  rw [laws_FnRankOf.e]
  by_cases hl : ((bs.length : Nat) : Int) > 1048576
  · rw [decide_eq_true hl]; rfl
  rw [decide_eq_false hl, cond_false, h, cond_true]
  have r0 := cut_ok h (p := 0) (by omega) (by omega)
  obtain ⟨a1, a2, _, _⟩ := aAr_bd r0 (by omega)
  generalize aArS (cutC bs) 0 = sh at *
  generalize aArD (cutC bs) 0 = da at *
  have g1 := lt_of (xs := sh) (by omega)
  have g2 := lt_of (xs := da) (by omega)
  cases hv : validA sh da with
  | false =>
    simp only [rankV, hv, g1, g2, Bool.and_self, cond_true, cond_false]
    rfl
  | true =>
    have hr := (validA_len hv).1
    have d1 : decide (((sh.length : Nat) : Int) < 0) = false := decide_eq_false (by omega)
    have d2 : decide (((sh.length : Nat) : Int) ≤ 3) = true := decide_eq_true (by omega)
    have hq := rav_valid hv
    simp only [Bool.and_self, Bool.and_true, Bool.true_and, cond_true, cond_false, Bool.not_true, Bool.not_false, bne_self_eq_false, beq_self_eq_true, decide_true, eq_self, rankV, ravS, ravD, hv, g1, g2, d1, d2, hq]
    rfl

namespace spec_DrawVectorOf
noncomputable def E : Entry := ⟨18, true, false, fun | [.d (.ints .u8 bs)] => bytesB bs | _ => false, fun | [.d (.ints .u8 bs)] => ([.one ((.ints .i64 (dVec (cutC bs))), false)], []) | _ => ([], []), fun _ => [], false, fun _ => none⟩
end spec_DrawVectorOf
namespace spec_DrawVectorOf
noncomputable def X : List Entry := [spec_newReader.E, spec_reader_one.E, spec_someNum.E, spec_reader_spoil.E]
noncomputable def I : List Inl := [⟨18, Try.f18, ⟨[23], [(1000004, [0, 1, 2, 6, 7, 8, 9, 10, 11, 12, 13, 14, 15, 16, 17, 18, 19, 20, 21, 22, 23])], [(7, [4])], [], [10], []⟩⟩]
theorem I_ok : ∀ i ∈ I, Try.prog.funcs[i.f]? = some i.fn ∧ (i.fn.name == "runtime.NumGoroutine") = false := by
  intro i hi
  simp only [I, List.mem_cons, List.not_mem_nil, or_false] at hi
  subst hi
  exact ⟨by kernel_rfl, by kernel_rfl⟩
noncomputable abbrev L0 (fuel n : Nat) (s : St) (k : Kont) := lAt Try.prog X I fuel true 0 false 18 (bodyOf Try.f18) [1, 1, 1, 0, 1, 0] n s k
noncomputable abbrev k0  (fuel : Nat) : Kont := (kAt Try.prog X I fuel true 0 false 18 (bodyOf Try.f18) [1, 1, 1, 0, 1, 0] [] (endK Try.prog Try.f18))
noncomputable def t0 (x0q0 : Int) (x0q1 : List Int) (x0q2 : Int) (x0q3 : List Int) : St := ⟨[.dead, .dead, .dead, (.ptr 1000000000 0 0), (.all 1000000001 1), (.imm (.int .i64 x0q0)), .dead, .dead, .dead, .dead, .dead, .dead, .dead, .dead, .dead, .dead, .dead, .dead, .dead, .dead, .dead, .dead, .dead, .dead], hOf [(1000000000, (.box [(.imm (.ints .u8 x0q1)), (.imm (.int .i64 x0q2))])), (1000000001, (.ints .i64 x0q3))], [], []⟩
theorem e (fuel : Nat) (p0 : List Int) : runF Try.prog X I 0 fuel 18 Try.f18 [.d (.ints .u8 p0)] =
  (bif rdOk ((cutC p0)) 0 && decide (0 < (([3, 5, 1, 0, 60, 61]) : List Int).length) && decide ((([3, 5, 1, 0, 60, 61]) : List Int).length ≤ 1048576) then
  L0 fuel fuel (t0 ((oneV ((cutC p0)) 0 ([3, 5, 1, 0, 60, 61]))) (((cutC p0))) ((0 + 1)) ([])) (k0  fuel)
  else
  none) := by kernel_rfl
theorem s0 (fuel n0 : Nat) (x0q0 : Int) (x0q1 : List Int) (x0q2 : Int) (x0q3 : List Int) : L0 fuel (n0 + 1) (t0 x0q0 x0q1 x0q2 x0q3) (k0  fuel) =
  (bif (decide ((x0q0 : Int) > 0)) then
  (bif rdOk x0q1 x0q2 then
  (bif fits (x0q3.length + ([(oneV x0q1 x0q2 someL)] : List Int).length) 8 then
  L0 fuel n0 (t0 ((IntKind.wrap .i64 (x0q0 - 1))) x0q1 ((x0q2 + 1)) ((x0q3 ++ [(oneV x0q1 x0q2 someL)]))) (k0  fuel)
  else
  none)
  else
  none)
  else
  (bif rdOk x0q1 x0q2 && decide ((x0q2 : Int) ≤ 2000000) && decide ((x0q3 : List Int).length ≤ 1000000) then
  some ([.one ((.ints .i64 (spV x0q1 x0q2 x0q3 1000001)), false)], [])
  else
  none)) := by kernel_rfl
end spec_DrawVectorOf
theorem spec_DrawVectorOf.ok_of (hX : ∀ E ∈ spec_DrawVectorOf.X, CallSpec Try.prog E) (h : ∀ (bs : List Int), (bytesB bs) = true → ∃ fuel, runF Try.prog spec_DrawVectorOf.X spec_DrawVectorOf.I 0 fuel 18 Try.f18 [.d (.ints .u8 bs)] = some ([.one ((.ints .i64 (dVec (cutC bs))), false)], [])) : CallSpec Try.prog spec_DrawVectorOf.E :=
  callSpec_of (d := 0) hX (by kernel_rfl) spec_DrawVectorOf.I_ok (by kernel_rfl) (by kernel_rfl) (by kernel_rfl) (fun _ _ _ _ h => by dsimp only [spec_DrawVectorOf.E] at h; cases h) (fun xs hp => by
    dsimp only [spec_DrawVectorOf.E] at hp ⊢
    split at hp
    · exact h _ hp
    · cases hp)
theorem spec_DrawVectorOf.ok : CallSpec Try.prog spec_DrawVectorOf.E := spec_DrawVectorOf.ok_of (by simp [spec_DrawVectorOf.X, spec_newReader.ok, spec_reader_one.ok, spec_someNum.ok, spec_reader_spoil.ok]) fun bs h => by
  obtain ⟨F, hF⟩ : ∃ F : Nat, 1000 < F := ⟨1001, by omega⟩
  refine ⟨F, ?_⟩
  have r0 := cut_ok h (p := 0) (by omega) (by omega)
  have hn := dVecN_bd r0
  have hlen : (dVec0 (cutC bs)).length = dVecN (cutC bs) := tab_length _ _
  rw [spec_DrawVectorOf.e, r0, hn.2, show (0 : Int) + 1 = 1 from rfl]
  refine run_loop (N := dVecN (cutC bs)) (fun n j (st : Int × Int × List Int) => spec_DrawVectorOf.L0 F n (spec_DrawVectorOf.t0 st.1 (cutC bs) st.2.1 st.2.2) (spec_DrawVectorOf.k0 F)) (fun j st => st.1 = ((dVecN (cutC bs) - j : Nat) : Int) ∧ st.2.1 = 1 + ((j : Nat) : Int) ∧ st.2.2 = (dVec0 (cutC bs)).take j) ?_ ?_ F 0 (_, 1, []) (by omega) (by omega) ⟨rfl, rfl, by simp⟩
  · rintro n ⟨c, q, out⟩ ⟨e0, e1, e2⟩
    simp only at e0 e1 e2
    rw [← hlen, List.take_length] at e2
    subst e0
    subst e1
    subst e2
    have r1 := rd_le (q := 1 + ((dVecN (cutC bs) : Nat) : Int)) r0 (by omega) (by omega)
    rw [spec_DrawVectorOf.s0, decide_eq_false (by omega), cond_false, r1, decide_eq_true (p := 1 + ((dVecN (cutC bs) : Nat) : Int) ≤ 2000000) (by omega), decide_eq_true (p := (dVec0 (cutC bs)).length ≤ 1000000) (by omega)]
    rfl
  · rintro n j ⟨c, q, out⟩ hj ⟨e0, e1, e2⟩
    simp only at e0 e1 e2
    subst e0
    subst e1
    have hol : out.length = j := by rw [e2, take_len (by omega)]
    have r1 := rd_le (q := 1 + ((j : Nat) : Int)) r0 (by omega) (by omega)
    rw [spec_DrawVectorOf.s0, decide_eq_true (by omega), cond_true, r1, cond_true, fitsOk (by simp only [List.length_cons, List.length_nil]; omega), cond_true]
    refine ⟨(((dVecN (cutC bs) - (j + 1) : Nat) : Int), 1 + ((j + 1 : Nat) : Int), out ++ [oneV (cutC bs) (1 + ((j : Nat) : Int)) someL]), ⟨rfl, rfl, ?_⟩, ?_⟩
    · simp only
      rw [e2]
      refine take_push (by omega) ?_
      simp only [dVec0]
      rw [tab_getD hj]
    · rw [wS (by omega) (by omega), show ((dVecN (cutC bs) - j : Nat) : Int) - 1 = ((dVecN (cutC bs) - (j + 1) : Nat) : Int) by omega, show 1 + ((j + 1 : Nat) : Int) = 1 + ((j : Nat) : Int) + 1 by omega]

namespace spec_vector
noncomputable def E : Entry := ⟨44, false, false, fun | [.d (.ints .i64 xs)] => szB xs | _ => false, fun | [.d (.ints .i64 xs)] => ([.agg [((.ints .i64 [((xs.length : Nat) : Int)]), true), ((.ints .i64 xs), true)]], []) | _ => ([], []), fun _ => [], true, fun _ => none⟩
end spec_vector
namespace spec_vector
noncomputable def X : List Entry := [spec_make1.E]
noncomputable def I : List Inl := [⟨44, Try.f44, ⟨[7], [], [], [], [5], []⟩⟩]
theorem I_ok : ∀ i ∈ I, Try.prog.funcs[i.f]? = some i.fn ∧ (i.fn.name == "runtime.NumGoroutine") = false := by
  intro i hi
  simp only [I, List.mem_cons, List.not_mem_nil, or_false] at hi
  subst hi
  exact ⟨by kernel_rfl, by kernel_rfl⟩
theorem e (fuel : Nat) (p0 : List Int) : runF Try.prog X I 0 fuel 44 Try.f44 [.d (.ints .i64 p0)] =
  (bif szB ([((p0.length : Nat) : Int)]) && szB p0 then
  some ([.agg [((.ints .i64 ([((p0.length : Nat) : Int)])), true), ((.ints .i64 p0), true)]], [])
  else
  none) := by kernel_rfl
end spec_vector
theorem spec_vector.ok_of (hX : ∀ E ∈ spec_vector.X, CallSpec Try.prog E) (h : ∀ (xs : List Int), (szB xs) = true → ∃ fuel, runF Try.prog spec_vector.X spec_vector.I 0 fuel 44 Try.f44 [.d (.ints .i64 xs)] = some ([.agg [((.ints .i64 [((xs.length : Nat) : Int)]), true), ((.ints .i64 xs), true)]], [])) : CallSpec Try.prog spec_vector.E :=
  callSpec_of (d := 0) hX (by kernel_rfl) spec_vector.I_ok (by kernel_rfl) (by kernel_rfl) (by kernel_rfl) (fun _ _ _ _ h => by dsimp only [spec_vector.E] at h; cases h) (fun xs hp => by
    dsimp only [spec_vector.E] at hp ⊢
    split at hp
    · exact h _ hp
    · cases hp)
theorem spec_vector.ok : CallSpec Try.prog spec_vector.E := spec_vector.ok_of (by simp [spec_vector.X, spec_make1.ok]) fun xs h => ⟨0, by
  rw [spec_vector.e, h, szB_of (by simp)]
  rfl⟩

namespace spec_VectorOf
noncomputable def E : Entry := ⟨21, false, false, fun | [.d (.ints .i64 xs)] => szB xs | _ => false, fun | [.d (.ints .i64 xs)] => ([.agg [((.ints .i64 (vecS xs)), true), ((.ints .i64 (vecD xs)), true)]], []) | _ => ([], []), fun _ => [], true, fun _ => none⟩
end spec_VectorOf
namespace spec_VectorOf
noncomputable def X : List Entry := [spec_allIn.E, spec_vector.E]
noncomputable def I : List Inl := [⟨21, Try.f21, ⟨[13], [], [], [], [], []⟩⟩]
theorem I_ok : ∀ i ∈ I, Try.prog.funcs[i.f]? = some i.fn ∧ (i.fn.name == "runtime.NumGoroutine") = false := by
  intro i hi
  simp only [I, List.mem_cons, List.not_mem_nil, or_false] at hi
  subst hi
  exact ⟨by kernel_rfl, by kernel_rfl⟩
theorem e (fuel : Nat) (p0 : List Int) : runF Try.prog X I 0 fuel 21 Try.f21 [.d (.ints .i64 p0)] =
  (bif (decide ((((p0.length : Nat) : Int) : Int) > 60)) then
  some ([.agg [((.ints .i64 []), true), ((.ints .i64 []), true)]], [])
  else
  (bif decide (p0.length < 9223372036854775808) then
  (bif (!(allB p0 ((-1000000)) 1000000)) then
  some ([.agg [((.ints .i64 []), true), ((.ints .i64 []), true)]], [])
  else
  (bif szB p0 then
  some ([.agg [((.ints .i64 [((p0.length : Nat) : Int)]), true), ((.ints .i64 p0), true)]], [])
  else
  none))
  else
  none)) := by kernel_rfl
end spec_VectorOf
theorem spec_VectorOf.ok_of (hX : ∀ E ∈ spec_VectorOf.X, CallSpec Try.prog E) (h : ∀ (xs : List Int), (szB xs) = true → ∃ fuel, runF Try.prog spec_VectorOf.X spec_VectorOf.I 0 fuel 21 Try.f21 [.d (.ints .i64 xs)] = some ([.agg [((.ints .i64 (vecS xs)), true), ((.ints .i64 (vecD xs)), true)]], [])) : CallSpec Try.prog spec_VectorOf.E :=
  callSpec_of (d := 0) hX (by kernel_rfl) spec_VectorOf.I_ok (by kernel_rfl) (by kernel_rfl) (by kernel_rfl) (fun _ _ _ _ h => by dsimp only [spec_VectorOf.E] at h; cases h) (fun xs hp => by
    dsimp only [spec_VectorOf.E] at hp ⊢
    split at hp
    · exact h _ hp
    · cases hp)
theorem spec_VectorOf.ok : CallSpec Try.prog spec_VectorOf.E := spec_VectorOf.ok_of (by simp [spec_VectorOf.X, spec_allIn.ok, spec_vector.ok]) fun xs h => ⟨0, by
  rw [spec_VectorOf.e, lt_of (szB_lt h), h]
  unfold vecS vecD vecOk
  by_cases h1 : xs.length ≤ 60
  · rw [decide_eq_false (by omega), decide_eq_true h1]
    cases allB xs (-1000000) 1000000 <;> rfl
  · rw [decide_eq_true (by omega), decide_eq_false h1]
    rfl⟩

namespace laws_equalInts
noncomputable def E : Entry := ⟨22, true, false, fun | [.d (.ints .i64 xs), .d (.ints .i64 ys)] => decide (xs.length < 9223372036854775808) && decide (ys.length < 9223372036854775808) | _ => false, fun | [.d (.ints .i64 xs), .d (.ints .i64 ys)] => ([.one ((.bool (decide (xs = ys))), false)], []) | _ => ([], []), fun _ => [], false, fun _ => none⟩
end laws_equalInts
namespace laws_equalInts
noncomputable def X : List Entry := []
noncomputable def I : List Inl := [⟨22, Try.f22, ⟨[], [(1000004, [2, 3, 4, 6, 7, 8, 9, 10, 11, 12, 13, 14, 15, 16, 17, 18, 19, 20, 21, 22, 23, 24, 25])], [], [(6, [0, 1, 4, 5, 2, 3, 6, 7, 8])], [], []⟩⟩]
theorem I_ok : ∀ i ∈ I, Try.prog.funcs[i.f]? = some i.fn ∧ (i.fn.name == "runtime.NumGoroutine") = false := by
  intro i hi
  simp only [I, List.mem_cons, List.not_mem_nil, or_false] at hi
  subst hi
  exact ⟨by kernel_rfl, by kernel_rfl⟩
noncomputable abbrev L0 (fuel n : Nat) (s : St) (k : Kont) := lAt Try.prog X I fuel true 0 false 22 (bodyOf Try.f22) [1, 1, 0, 1, 0] n s k
noncomputable abbrev k0  (fuel : Nat) : Kont := (kAt Try.prog X I fuel true 0 false 22 (bodyOf Try.f22) [1, 1, 0, 1, 0] [] (endK Try.prog Try.f22))
noncomputable def t0 (p0 : List Int) (p1 : List Int) (x0q2 : Int) : St := ⟨[(.imm (.ints .i64 p0)), (.imm (.ints .i64 p1)), .dead, .dead, .dead, (.imm (.int .i64 x0q2)), .dead, .dead, .dead, .dead, .dead, .dead, .dead, .dead, .dead, .dead, .dead, .dead, .dead, .dead, .dead, .dead, .dead, .dead, .dead, .dead], hOf [], [], []⟩
theorem e (fuel : Nat) (p0 : List Int) (p1 : List Int) : runF Try.prog X I 0 fuel 22 Try.f22 [.d (.ints .i64 p0), .d (.ints .i64 p1)] =
  (bif ((((p0.length : Nat) : Int) : Int) != ((p1.length : Nat) : Int)) then
  some ([.one ((.bool false), false)], [])
  else
  L0 fuel fuel (t0 p0 p1 0) (k0  fuel)) := by kernel_rfl
theorem s0 (fuel n0 : Nat) (p0 : List Int) (p1 : List Int) (x0q2 : Int) : L0 fuel (n0 + 1) (t0 p0 p1 x0q2) (k0  fuel) =
  (bif (decide ((x0q2 : Int) < ((p0.length : Nat) : Int))) then
  (idx x0q2 p0.length).bind fun j9 =>
  (p0[j9]?).bind fun v10 =>
  (idx x0q2 p1.length).bind fun j11 =>
  (p1[j11]?).bind fun v12 =>
  (bif ((v10 : Int) != v12) then
  some ([.one ((.bool false), false)], [])
  else
  L0 fuel n0 (t0 p0 p1 ((IntKind.wrap .i64 (x0q2 + 1)))) (k0  fuel))
  else
  some ([.one ((.bool true), false)], [])) := by kernel_rfl
end laws_equalInts
theorem laws_equalInts.ok_of (hX : ∀ E ∈ laws_equalInts.X, CallSpec Try.prog E) (h : ∀ (xs : List Int) (ys : List Int), (decide (xs.length < 9223372036854775808) && decide (ys.length < 9223372036854775808)) = true → ∃ fuel, runF Try.prog laws_equalInts.X laws_equalInts.I 0 fuel 22 Try.f22 [.d (.ints .i64 xs), .d (.ints .i64 ys)] = some ([.one ((.bool (decide (xs = ys))), false)], [])) : CallSpec Try.prog laws_equalInts.E :=
  callSpec_of (d := 0) hX (by kernel_rfl) laws_equalInts.I_ok (by kernel_rfl) (by kernel_rfl) (by kernel_rfl) (fun _ _ _ _ h => by dsimp only [laws_equalInts.E] at h; cases h) (fun xs hp => by
    dsimp only [laws_equalInts.E] at hp ⊢
    split at hp
    · exact h _ _ hp
    · cases hp)
theorem laws_equalInts.loop (fuel : Nat) (xs ys : List Int) (hl : xs.length = ys.length) (hx : xs.length < 9223372036854775808) : ∀ (m n j : Nat), xs.length - j = m → m < n → j ≤ xs.length →
    laws_equalInts.L0 fuel n (laws_equalInts.t0 xs ys (j : Int)) (laws_equalInts.k0 fuel) = some ([.one (.bool (decide (xs.drop j = ys.drop j)), false)], []) := by
  intro m
  induction m with
  | zero =>
    intro n j h1 h2 h3
    obtain ⟨n, rfl⟩ : ∃ n', n = n' + 1 := ⟨n - 1, by omega⟩
    have hj : ¬ j < xs.length := by omega
    rw [laws_equalInts.s0, dge hj, dropE hj, dropE (xs := ys) (by omega)]
    rfl
  | succ m ih =>
    intro n j h1 h2 h3
    obtain ⟨n, rfl⟩ : ∃ n', n = n' + 1 := ⟨n - 1, by omega⟩
    have hj : j < xs.length := by omega
    have hj2 : j < ys.length := by omega
    rw [laws_equalInts.s0, dlt hj, idx_nat hj, idx_nat hj2, w1 (by omega), dropS hj, dropS hj2]
    simp only [cond_true, Option.bind_some, getS hj, getS hj2]
    rw [ih n (j + 1) (by omega) (by omega) (by omega)]
    by_cases hv : xs[j] = ys[j]
    · rw [hv]
      simp only [bne_self_eq_false, cond_false, List.cons.injEq, true_and]
    · have : (xs[j] != ys[j]) = true := by simp [hv]
      rw [this]
      simp only [cond_true, List.cons.injEq, hv, false_and, decide_false]

theorem laws_equalInts.ok : CallSpec Try.prog laws_equalInts.E := laws_equalInts.ok_of (by simp [laws_equalInts.X]) fun xs ys h => by
  simp only [Bool.and_eq_true, decide_eq_true_eq] at h
  refine ⟨xs.length + 1, ?_⟩
  rw [laws_equalInts.e]
  by_cases hl : xs.length = ys.length
  · have := laws_equalInts.loop (xs.length + 1) xs ys hl h.1 xs.length (xs.length + 1) 0 (by omega) (by omega) (by omega)
    simp only [List.drop_zero] at this
    simp only [hl, bne_self_eq_false, cond_false]
    rw [← hl]
    exact this
  · have hne : xs ≠ ys := fun e => hl (e ▸ rfl)
    have : (((xs.length : Nat) : Int) != ((ys.length : Nat) : Int)) = true := by simp; omega
    rw [this]
    simp [hne]

namespace laws_equalArray
noncomputable def E : Entry := ⟨20, true, false, fun | [.d (.agg [(.ints .i64 sa), (.ints .i64 da)]), .d (.agg [(.ints .i64 sb), (.ints .i64 db)])] => decide (sa.length < 9223372036854775808) && decide (da.length < 9223372036854775808) && decide (sb.length < 9223372036854775808) && decide (db.length < 9223372036854775808) | _ => false, fun | [.d (.agg [(.ints .i64 sa), (.ints .i64 da)]), .d (.agg [(.ints .i64 sb), (.ints .i64 db)])] => ([.one ((.bool (decide (sa = sb) && decide (da = db))), false)], []) | _ => ([], []), fun _ => [], false, fun _ => none⟩
end laws_equalArray
namespace laws_equalArray
noncomputable def X : List Entry := [laws_equalInts.E]
noncomputable def I : List Inl := [⟨20, Try.f20, ⟨[], [], [], [], [], []⟩⟩]
theorem I_ok : ∀ i ∈ I, Try.prog.funcs[i.f]? = some i.fn ∧ (i.fn.name == "runtime.NumGoroutine") = false := by
  intro i hi
  simp only [I, List.mem_cons, List.not_mem_nil, or_false] at hi
  subst hi
  exact ⟨by kernel_rfl, by kernel_rfl⟩
theorem e (fuel : Nat) (p0q0 : List Int) (p0q1 : List Int) (p1q0 : List Int) (p1q1 : List Int) : runF Try.prog X I 0 fuel 20 Try.f20 [.d (.agg [(.ints .i64 p0q0), (.ints .i64 p0q1)]), .d (.agg [(.ints .i64 p1q0), (.ints .i64 p1q1)])] =
  (bif decide (p0q0.length < 9223372036854775808) && decide (p1q0.length < 9223372036854775808) then
  (bif (decide (p0q0 = p1q0)) then
  (bif decide (p0q1.length < 9223372036854775808) && decide (p1q1.length < 9223372036854775808) then
  some ([.one ((.bool (decide (p0q1 = p1q1))), false)], [])
  else
  none)
  else
  some ([.one ((.bool false), false)], []))
  else
  none) := by kernel_rfl
end laws_equalArray
theorem laws_equalArray.ok_of (hX : ∀ E ∈ laws_equalArray.X, CallSpec Try.prog E) (h : ∀ (sa : List Int) (da : List Int) (sb : List Int) (db : List Int), (decide (sa.length < 9223372036854775808) && decide (da.length < 9223372036854775808) && decide (sb.length < 9223372036854775808) && decide (db.length < 9223372036854775808)) = true → ∃ fuel, runF Try.prog laws_equalArray.X laws_equalArray.I 0 fuel 20 Try.f20 [.d (.agg [(.ints .i64 sa), (.ints .i64 da)]), .d (.agg [(.ints .i64 sb), (.ints .i64 db)])] = some ([.one ((.bool (decide (sa = sb) && decide (da = db))), false)], [])) : CallSpec Try.prog laws_equalArray.E :=
  callSpec_of (d := 0) hX (by kernel_rfl) laws_equalArray.I_ok (by kernel_rfl) (by kernel_rfl) (by kernel_rfl) (fun _ _ _ _ h => by dsimp only [laws_equalArray.E] at h; cases h) (fun xs hp => by
    dsimp only [laws_equalArray.E] at hp ⊢
    split at hp
    · exact h _ _ _ _ hp
    · cases hp)
theorem laws_equalArray.ok : CallSpec Try.prog laws_equalArray.E := laws_equalArray.ok_of (by simp [laws_equalArray.X, laws_equalInts.ok]) fun sa da sb db h => ⟨0, by
  simp only [Bool.and_eq_true, decide_eq_true_eq] at h
  obtain ⟨⟨⟨h1, h2⟩, h3⟩, h4⟩ := h
  rw [laws_equalArray.e]
  simp only [h1, h2, h3, h4, decide_true, Bool.and_self, cond_true]
  cases decide (sa = sb) <;> cases decide (da = db) <;> rfl⟩

namespace laws_FnVectorOf
noncomputable def E : Entry := ⟨5, true, false, fun | [.d (.ints .u8 bs)] => bytesB bs | _ => false, fun | [.d (.ints .u8 bs)] => ([.one ((.bool true), false)], []) | _ => ([], []), fun _ => [], false, fun _ => none⟩
end laws_FnVectorOf
namespace laws_FnVectorOf
noncomputable def X : List Entry := [spec_DrawVectorOf.E, impl_VectorOf.E, spec_VectorOf.E, laws_equalArray.E, impl_ValidArray.E, laws_equalInts.E, impl_Ravel.E]
noncomputable def I : List Inl := [⟨5, Try.f5, ⟨[9, 11, 14, 24, 40], [], [], [(5, [1, 0, 2, 3, 4, 5, 6, 7, 8, 9]), (6, [1, 0, 2, 3, 4]), (7, [0, 2, 1, 3, 4, 5, 7, 6, 8, 9, 10, 11, 12, 13, 15, 14, 16, 17, 18])], [35], []⟩⟩]
theorem I_ok : ∀ i ∈ I, Try.prog.funcs[i.f]? = some i.fn ∧ (i.fn.name == "runtime.NumGoroutine") = false := by
  intro i hi
  simp only [I, List.mem_cons, List.not_mem_nil, or_false] at hi
  subst hi
  exact ⟨by kernel_rfl, by kernel_rfl⟩
theorem e (fuel : Nat) (p0 : List Int) : runF Try.prog X I 0 fuel 5 Try.f5 [.d (.ints .u8 p0)] =
  (bif (decide ((((p0.length : Nat) : Int) : Int) > 1048576)) then
  some ([.one ((.bool true), false)], [])
  else
  (bif bytesB p0 then
  (bif szB ((dVec (cutC p0))) then
  (bif szB ((dVec (cutC p0))) then
  (bif decide (((vecS ((dVec (cutC p0))))).length < 9223372036854775808) && decide (((vecD ((dVec (cutC p0))))).length < 9223372036854775808) && decide (((vecS ((dVec (cutC p0))))).length < 9223372036854775808) && decide (((vecD ((dVec (cutC p0))))).length < 9223372036854775808) then
  (bif (!(decide (((vecS ((dVec (cutC p0))))) = ((vecS ((dVec (cutC p0)))))) && decide (((vecD ((dVec (cutC p0))))) = ((vecD ((dVec (cutC p0)))))))) then
  (bif szB ((dVec (cutC p0))) then
  (bif decide (((vecS ((dVec (cutC p0))))).length < 9223372036854775808) && decide (((vecD ((dVec (cutC p0))))).length < 9223372036854775808) && decide (((vecS ((dVec (cutC p0))))).length < 9223372036854775808) && decide (((vecD ((dVec (cutC p0))))).length < 9223372036854775808) then
  some ([.one ((.bool (decide (((vecS ((dVec (cutC p0))))) = ((vecS ((dVec (cutC p0)))))) && decide (((vecD ((dVec (cutC p0))))) = ((vecD ((dVec (cutC p0)))))))), false)], [])
  else
  none)
  else
  none)
  else
  (bif decide (((vecS ((dVec (cutC p0))))).length < 9223372036854775808) && decide (((vecD ((dVec (cutC p0))))).length < 9223372036854775808) then
  (bif (!(validA ((vecS ((dVec (cutC p0))))) ((vecD ((dVec (cutC p0))))))) then
  (bif szB ((dVec (cutC p0))) then
  (bif decide (((vecS ((dVec (cutC p0))))).length < 9223372036854775808) && decide (((vecD ((dVec (cutC p0))))).length < 9223372036854775808) && decide (((vecS ((dVec (cutC p0))))).length < 9223372036854775808) && decide (((vecD ((dVec (cutC p0))))).length < 9223372036854775808) then
  some ([.one ((.bool (decide (((vecS ((dVec (cutC p0))))) = ((vecS ((dVec (cutC p0)))))) && decide (((vecD ((dVec (cutC p0))))) = ((vecD ((dVec (cutC p0)))))))), false)], [])
  else
  none)
  else
  none)
  else
  (bif decide (((vecD ((dVec (cutC p0))))).length < 9223372036854775808) && decide (((dVec (cutC p0))).length < 9223372036854775808) then
  (bif (decide (((vecD ((dVec (cutC p0))))) = ((dVec (cutC p0))))) then
  (bif decide (((vecS ((dVec (cutC p0))))).length < 9223372036854775808) && decide (([(((dVec (cutC p0)).length : Nat) : Int)]).length < 9223372036854775808) then
  (bif (decide (((vecS ((dVec (cutC p0))))) = ([(((dVec (cutC p0)).length : Nat) : Int)]))) then
  (bif decide (((vecS ((dVec (cutC p0))))).length < 9223372036854775808) && decide (((vecD ((dVec (cutC p0))))).length < 9223372036854775808) then
  (bif decide (((ravS ((vecS ((dVec (cutC p0))))) ((vecD ((dVec (cutC p0))))))).length < 9223372036854775808) && decide (((ravD ((vecS ((dVec (cutC p0))))) ((vecD ((dVec (cutC p0))))))).length < 9223372036854775808) && decide (((vecS ((dVec (cutC p0))))).length < 9223372036854775808) && decide (((vecD ((dVec (cutC p0))))).length < 9223372036854775808) then
  some ([.one ((.bool (decide (((ravS ((vecS ((dVec (cutC p0))))) ((vecD ((dVec (cutC p0))))))) = ((vecS ((dVec (cutC p0)))))) && decide (((ravD ((vecS ((dVec (cutC p0))))) ((vecD ((dVec (cutC p0))))))) = ((vecD ((dVec (cutC p0)))))))), false)], [])
  else
  none)
  else
  none)
  else
  some ([.one ((.bool false), false)], []))
  else
  none)
  else
  some ([.one ((.bool false), false)], []))
  else
  none))
  else
  none))
  else
  none)
  else
  none)
  else
  none)
  else
  none)) := by kernel_rfl
end laws_FnVectorOf
theorem laws_FnVectorOf.ok_of (hX : ∀ E ∈ laws_FnVectorOf.X, CallSpec Try.prog E) (h : ∀ (bs : List Int), (bytesB bs) = true → ∃ fuel, runF Try.prog laws_FnVectorOf.X laws_FnVectorOf.I 0 fuel 5 Try.f5 [.d (.ints .u8 bs)] = some ([.one ((.bool true), false)], [])) : CallSpec Try.prog laws_FnVectorOf.E :=
  callSpec_of (d := 0) hX (by kernel_rfl) laws_FnVectorOf.I_ok (by kernel_rfl) (by kernel_rfl) (by kernel_rfl) (fun _ _ _ _ h => by dsimp only [laws_FnVectorOf.E] at h; cases h) (fun xs hp => by
    dsimp only [laws_FnVectorOf.E] at hp ⊢
    split at hp
    · exact h _ hp
    · cases hp)
theorem laws_FnVectorOf.ok : CallSpec Try.prog laws_FnVectorOf.E := laws_FnVectorOf.ok_of (by simp [laws_FnVectorOf.X, spec_DrawVectorOf.ok, impl_VectorOf.ok, spec_VectorOf.ok, laws_equalArray.ok, impl_ValidArray.ok, laws_equalInts.ok, impl_Ravel.ok]) fun bs h => by
  obtain ⟨F, hF⟩ : ∃ F : Nat, 4000 < F := ⟨4001, by omega⟩
  refine ⟨F, ?_⟩
  rw [laws_FnVectorOf.e]
  by_cases hl : ((bs.length : Nat) : Int) > 1048576
  · rw [decide_eq_true hl]; rfl
  rw [decide_eq_false hl, cond_false, h, cond_true]
  have r0 := cut_ok h (p := 0) (by omega) (by omega)
  have hx := dVec_len r0
  generalize dVec (cutC bs) = xs at *
  have g1 := lt_of (xs := xs) (by omega)
  have z1 := szB_of (xs := xs) (by omega)
  cases hv : vecOk xs with
  | false =>
    simp only [vecS, vecD, hv, z1, cond_true, cond_false]
    rfl
  | true =>
    have hq := validA_vec hv
    have g2 := lt_of (xs := [((xs.length : Nat) : Int)]) (by simp)
    simp only [Bool.and_self, Bool.and_true, Bool.true_and, cond_true, cond_false, Bool.not_true, Bool.not_false, bne_self_eq_false, beq_self_eq_true, decide_true, eq_self, vecS, vecD, ravS, ravD, hv, g1, g2, z1, hq]

namespace spec_anyNum
noncomputable def E : Entry := ⟨45, false, false, fun | [.box [(.ints .u8 bs), (.int .i64 p)]] => rdOk bs (p + 1) && rdOk bs p | _ => false, fun | [.box [(.ints .u8 bs), (.int .i64 p)]] => ([.one ((.int .i64 (anyNumV bs p)), false)], [[(.ints .u8 bs), (.int .i64 (p + 2))]]) | _ => ([], []), fun _ => [], false, fun _ => none⟩
end spec_anyNum
namespace spec_anyNum
noncomputable def X : List Entry := [spec_reader_pick.E, spec_reader_one.E, spec_someNum.E]
noncomputable def I : List Inl := [⟨45, Try.f45, ⟨[], [], [], [], [7], []⟩⟩]
theorem I_ok : ∀ i ∈ I, Try.prog.funcs[i.f]? = some i.fn ∧ (i.fn.name == "runtime.NumGoroutine") = false := by
  intro i hi
  simp only [I, List.mem_cons, List.not_mem_nil, or_false] at hi
  subst hi
  exact ⟨by kernel_rfl, by kernel_rfl⟩
theorem e (fuel : Nat) (p0q0 : List Int) (p0q1 : Int) : runF Try.prog X I 0 fuel 45 Try.f45 [.box [(.ints .u8 p0q0), (.int .i64 p0q1)]] =
  (bif rdOk p0q0 p0q1 && decide ((12 : Int) ≤ 1048576) then
  (bif (((pickV p0q0 p0q1 12) : Int) == 0) then
  (bif rdOk p0q0 ((p0q1 + 1)) && decide (0 < (([1000001, (-1000001)]) : List Int).length) && decide ((([1000001, (-1000001)]) : List Int).length ≤ 1048576) then
  some ([.one ((.int .i64 (oneV p0q0 ((p0q1 + 1)) ([1000001, (-1000001)]))), false)], [[(.ints .u8 p0q0), (.int .i64 (((p0q1 + 1)) + 1))]])
  else
  none)
  else
  (bif rdOk p0q0 ((p0q1 + 1)) then
  some ([.one ((.int .i64 (oneV p0q0 ((p0q1 + 1)) someL)), false)], [[(.ints .u8 p0q0), (.int .i64 (((p0q1 + 1)) + 1))]])
  else
  none))
  else
  none) := by kernel_rfl
end spec_anyNum
theorem spec_anyNum.ok_of (hX : ∀ E ∈ spec_anyNum.X, CallSpec Try.prog E) (h : ∀ (bs : List Int) (p : Int), (rdOk bs (p + 1) && rdOk bs p) = true → ∃ fuel, runF Try.prog spec_anyNum.X spec_anyNum.I 0 fuel 45 Try.f45 [.box [(.ints .u8 bs), (.int .i64 p)]] = some ([.one ((.int .i64 (anyNumV bs p)), false)], [[(.ints .u8 bs), (.int .i64 (p + 2))]])) : CallSpec Try.prog spec_anyNum.E :=
  callSpec_of (d := 0) hX (by kernel_rfl) spec_anyNum.I_ok (by kernel_rfl) (by kernel_rfl) (by kernel_rfl) (fun _ _ _ _ h => by dsimp only [spec_anyNum.E] at h; cases h) (fun xs hp => by
    dsimp only [spec_anyNum.E] at hp ⊢
    split at hp
    · exact h _ _ hp
    · cases hp)
theorem spec_anyNum.ok : CallSpec Try.prog spec_anyNum.E := spec_anyNum.ok_of (by simp [spec_anyNum.X, spec_reader_pick.ok, spec_reader_one.ok, spec_someNum.ok]) fun bs p h => ⟨0, by
  simp only [Bool.and_eq_true] at h
  rw [spec_anyNum.e, h.1, h.2, show p + 2 = p + 1 + 1 by omega]
  unfold anyNumV
  cases pickV bs p 12 == 0 <;> rfl⟩

namespace spec_DrawScalarOf
noncomputable def E : Entry := ⟨23, true, false, fun | [.d (.ints .u8 bs)] => bytesB bs | _ => false, fun | [.d (.ints .u8 bs)] => ([.one ((.int .i64 (anyNumV (cutC bs) 0)), false)], []) | _ => ([], []), fun _ => [], false, fun _ => none⟩
end spec_DrawScalarOf
namespace spec_DrawScalarOf
noncomputable def X : List Entry := [spec_newReader.E, spec_anyNum.E]
noncomputable def I : List Inl := [⟨23, Try.f23, ⟨[], [], [], [], [], []⟩⟩]
theorem I_ok : ∀ i ∈ I, Try.prog.funcs[i.f]? = some i.fn ∧ (i.fn.name == "runtime.NumGoroutine") = false := by
  intro i hi
  simp only [I, List.mem_cons, List.not_mem_nil, or_false] at hi
  subst hi
  exact ⟨by kernel_rfl, by kernel_rfl⟩
theorem e (fuel : Nat) (p0 : List Int) : runF Try.prog X I 0 fuel 23 Try.f23 [.d (.ints .u8 p0)] =
  (bif rdOk ((cutC p0)) (0 + 1) && rdOk ((cutC p0)) 0 then
  some ([.one ((.int .i64 (anyNumV ((cutC p0)) 0)), false)], [])
  else
  none) := by kernel_rfl
end spec_DrawScalarOf
theorem spec_DrawScalarOf.ok_of (hX : ∀ E ∈ spec_DrawScalarOf.X, CallSpec Try.prog E) (h : ∀ (bs : List Int), (bytesB bs) = true → ∃ fuel, runF Try.prog spec_DrawScalarOf.X spec_DrawScalarOf.I 0 fuel 23 Try.f23 [.d (.ints .u8 bs)] = some ([.one ((.int .i64 (anyNumV (cutC bs) 0)), false)], [])) : CallSpec Try.prog spec_DrawScalarOf.E :=
  callSpec_of (d := 0) hX (by kernel_rfl) spec_DrawScalarOf.I_ok (by kernel_rfl) (by kernel_rfl) (by kernel_rfl) (fun _ _ _ _ h => by dsimp only [spec_DrawScalarOf.E] at h; cases h) (fun xs hp => by
    dsimp only [spec_DrawScalarOf.E] at hp ⊢
    split at hp
    · exact h _ hp
    · cases hp)
theorem spec_DrawScalarOf.ok : CallSpec Try.prog spec_DrawScalarOf.E := spec_DrawScalarOf.ok_of (by simp [spec_DrawScalarOf.X, spec_newReader.ok, spec_anyNum.ok]) fun bs h => ⟨0, by
  rw [spec_DrawScalarOf.e, cut_ok h (by omega) (by omega), cut_ok h (by omega) (by omega)]
  rfl⟩

namespace impl_ScalarOf
noncomputable def E : Entry := ⟨24, false, false, fun | [.d (.int .i64 v)] => true | _ => false, fun | [.d (.int .i64 v)] => ([.agg [((.ints .i64 nilI), true), ((.ints .i64 (scalL v)), true)]], []) | _ => ([], []), fun _ => [], true, fun _ => none⟩
end impl_ScalarOf
namespace impl_ScalarOf
noncomputable def X : List Entry := [impl_isNumber.E]
noncomputable def I : List Inl := [⟨24, Try.f24, ⟨[], [], [], [], [], []⟩⟩]
theorem I_ok : ∀ i ∈ I, Try.prog.funcs[i.f]? = some i.fn ∧ (i.fn.name == "runtime.NumGoroutine") = false := by
  intro i hi
  simp only [I, List.mem_cons, List.not_mem_nil, or_false] at hi
  subst hi
  exact ⟨by kernel_rfl, by kernel_rfl⟩
theorem e (fuel : Nat) (p0 : Int) : runF Try.prog X I 0 fuel 24 Try.f24 [.d (.int .i64 p0)] =
  (bif (!(numB p0)) then
  some ([.agg [((.ints .i64 []), true), ((.ints .i64 []), true)]], [])
  else
  some ([.agg [((.ints .i64 []), true), ((.ints .i64 [p0]), true)]], [])) := by kernel_rfl
end impl_ScalarOf
theorem impl_ScalarOf.ok_of (hX : ∀ E ∈ impl_ScalarOf.X, CallSpec Try.prog E) (h : ∀ (v : Int), (true) = true → ∃ fuel, runF Try.prog impl_ScalarOf.X impl_ScalarOf.I 0 fuel 24 Try.f24 [.d (.int .i64 v)] = some ([.agg [((.ints .i64 nilI), true), ((.ints .i64 (scalL v)), true)]], [])) : CallSpec Try.prog impl_ScalarOf.E :=
  callSpec_of (d := 0) hX (by kernel_rfl) impl_ScalarOf.I_ok (by kernel_rfl) (by kernel_rfl) (by kernel_rfl) (fun _ _ _ _ h => by dsimp only [impl_ScalarOf.E] at h; cases h) (fun xs hp => by
    dsimp only [impl_ScalarOf.E] at hp ⊢
    split at hp
    · exact h _ hp
    · cases hp)
theorem impl_ScalarOf.ok : CallSpec Try.prog impl_ScalarOf.E := impl_ScalarOf.ok_of (by simp [impl_ScalarOf.X, impl_isNumber.ok]) fun v _ => ⟨0, by
  rw [impl_ScalarOf.e]
  unfold scalL
  cases numB v <;> rfl⟩

namespace spec_scalar
noncomputable def E : Entry := ⟨47, false, false, fun | [.d (.int .i64 v)] => true | _ => false, fun | [.d (.int .i64 v)] => ([.agg [((.ints .i64 nilI), true), ((.ints .i64 [v]), true)]], []) | _ => ([], []), fun _ => [], true, fun _ => none⟩
end spec_scalar
namespace spec_scalar
noncomputable def X : List Entry := []
noncomputable def I : List Inl := [⟨47, Try.f47, ⟨[], [], [], [], [], []⟩⟩]
theorem I_ok : ∀ i ∈ I, Try.prog.funcs[i.f]? = some i.fn ∧ (i.fn.name == "runtime.NumGoroutine") = false := by
  intro i hi
  simp only [I, List.mem_cons, List.not_mem_nil, or_false] at hi
  subst hi
  exact ⟨by kernel_rfl, by kernel_rfl⟩
theorem e (fuel : Nat) (p0 : Int) : runF Try.prog X I 0 fuel 47 Try.f47 [.d (.int .i64 p0)] =
  some ([.agg [((.ints .i64 []), true), ((.ints .i64 [p0]), true)]], []) := by kernel_rfl
end spec_scalar
theorem spec_scalar.ok_of (hX : ∀ E ∈ spec_scalar.X, CallSpec Try.prog E) (h : ∀ (v : Int), (true) = true → ∃ fuel, runF Try.prog spec_scalar.X spec_scalar.I 0 fuel 47 Try.f47 [.d (.int .i64 v)] = some ([.agg [((.ints .i64 nilI), true), ((.ints .i64 [v]), true)]], [])) : CallSpec Try.prog spec_scalar.E :=
  callSpec_of (d := 0) hX (by kernel_rfl) spec_scalar.I_ok (by kernel_rfl) (by kernel_rfl) (by kernel_rfl) (fun _ _ _ _ h => by dsimp only [spec_scalar.E] at h; cases h) (fun xs hp => by
    dsimp only [spec_scalar.E] at hp ⊢
    split at hp
    · exact h _ hp
    · cases hp)
theorem spec_scalar.ok : CallSpec Try.prog spec_scalar.E := spec_scalar.ok_of (by simp [spec_scalar.X]) fun v _ => ⟨0, by
  rw [spec_scalar.e]⟩

namespace spec_ScalarOf
noncomputable def E : Entry := ⟨25, false, false, fun | [.d (.int .i64 v)] => true | _ => false, fun | [.d (.int .i64 v)] => ([.agg [((.ints .i64 nilI), true), ((.ints .i64 (scalL v)), true)]], []) | _ => ([], []), fun _ => [], true, fun _ => none⟩
end spec_ScalarOf
namespace spec_ScalarOf
noncomputable def X : List Entry := [spec_inRange.E, spec_scalar.E]
noncomputable def I : List Inl := [⟨25, Try.f25, ⟨[8], [], [], [], [], []⟩⟩]
theorem I_ok : ∀ i ∈ I, Try.prog.funcs[i.f]? = some i.fn ∧ (i.fn.name == "runtime.NumGoroutine") = false := by
  intro i hi
  simp only [I, List.mem_cons, List.not_mem_nil, or_false] at hi
  subst hi
  exact ⟨by kernel_rfl, by kernel_rfl⟩
theorem e (fuel : Nat) (p0 : Int) : runF Try.prog X I 0 fuel 25 Try.f25 [.d (.int .i64 p0)] =
  (bif (!(decide (((-1000000)) ≤ p0) && decide (p0 ≤ 1000000))) then
  some ([.agg [((.ints .i64 []), true), ((.ints .i64 []), true)]], [])
  else
  some ([.agg [((.ints .i64 nilI), true), ((.ints .i64 [p0]), true)]], [])) := by kernel_rfl
end spec_ScalarOf
theorem spec_ScalarOf.ok_of (hX : ∀ E ∈ spec_ScalarOf.X, CallSpec Try.prog E) (h : ∀ (v : Int), (true) = true → ∃ fuel, runF Try.prog spec_ScalarOf.X spec_ScalarOf.I 0 fuel 25 Try.f25 [.d (.int .i64 v)] = some ([.agg [((.ints .i64 nilI), true), ((.ints .i64 (scalL v)), true)]], [])) : CallSpec Try.prog spec_ScalarOf.E :=
  callSpec_of (d := 0) hX (by kernel_rfl) spec_ScalarOf.I_ok (by kernel_rfl) (by kernel_rfl) (by kernel_rfl) (fun _ _ _ _ h => by dsimp only [spec_ScalarOf.E] at h; cases h) (fun xs hp => by
    dsimp only [spec_ScalarOf.E] at hp ⊢
    split at hp
    · exact h _ hp
    · cases hp)
theorem spec_ScalarOf.ok : CallSpec Try.prog spec_ScalarOf.E := spec_ScalarOf.ok_of (by simp [spec_ScalarOf.X, spec_inRange.ok, spec_scalar.ok]) fun v _ => ⟨0, by
  rw [spec_ScalarOf.e]
  unfold scalL numB
  cases (decide (-1000000 ≤ v) && decide (v ≤ 1000000)) <;> rfl⟩

namespace impl_OffsetOf
noncomputable def E : Entry := ⟨28, true, false, fun | [.d (.ints .i64 sh), .d (.ints .i64 pl)] => decide (sh.length < 9223372036854775808) && decide (pl.length < 9223372036854775808) | _ => false, fun | [.d (.ints .i64 sh), .d (.ints .i64 pl)] => ([.one ((.int .i64 (offS sh pl)), false)], []) | _ => ([], []), fun _ => [], false, fun _ => none⟩
end impl_OffsetOf
namespace impl_OffsetOf
noncomputable def X : List Entry := [impl_layoutOf.E]
noncomputable def I : List Inl := [⟨28, Try.f28, ⟨[12], [(1000006, [1, 2, 3, 4, 6, 8, 9, 10, 11, 12, 13, 14, 15, 16, 17, 18, 19, 20, 21, 22, 23, 27, 28, 29, 30, 31, 32, 33, 34, 35, 36, 37, 38, 39, 40, 41, 42, 43, 44, 45, 46, 47, 48, 49, 50])], [], [], [], []⟩⟩]
theorem I_ok : ∀ i ∈ I, Try.prog.funcs[i.f]? = some i.fn ∧ (i.fn.name == "runtime.NumGoroutine") = false := by
  intro i hi
  simp only [I, List.mem_cons, List.not_mem_nil, or_false] at hi
  subst hi
  exact ⟨by kernel_rfl, by kernel_rfl⟩
noncomputable abbrev L0 (fuel n : Nat) (s : St) (k : Kont) := lAt Try.prog X I fuel true 0 false 28 (bodyOf Try.f28) [1, 1, 1, 1, 0, 1, 0] n s k
noncomputable abbrev k0  (fuel : Nat) : Kont := (kAt Try.prog X I fuel true 0 false 28 (bodyOf Try.f28) [1, 1, 1, 1, 0, 1, 0] [] (endK Try.prog Try.f28))
noncomputable def t0 (p0 : List Int) (p1 : List Int) (x0q1 : Int) (x0q4 : Int) : St := ⟨[(.imm (.ints .i64 p0)), .dead, .dead, .dead, .dead, (.ptr 1000000000 0 0), .dead, (.imm (.int .i64 x0q1)), .dead, .dead, .dead, .dead, .dead, .dead, .dead, .dead, .dead, .dead, .dead, .dead, .dead, .dead, .dead, .dead, (.imm (.ints .i64 p1)), (.imm (.int .i64 ((p1.length : Nat) : Int))), (.imm (.int .i64 x0q4)), .dead, .dead, .dead, .dead, .dead, .dead, .dead, .dead, .dead, .dead, .dead, .dead, .dead, .dead, .dead, .dead, .dead, .dead, .dead, .dead, .dead, .dead, .dead, .dead], hOf [(1000000000, (.box [(.imm (.ints .i64 p0)), (.imm (.int .i64 (strd p0 0))), (.imm (.int .i64 (strd p0 1))), (.imm (.int .i64 (strd p0 2))), (.imm (.int .i64 (volW p0)))]))], [], []⟩
theorem e (fuel : Nat) (p0 : List Int) (p1 : List Int) : runF Try.prog X I 0 fuel 28 Try.f28 [.d (.ints .i64 p0), .d (.ints .i64 p1)] =
  (bif decide (p0.length < 9223372036854775808) then
  (bif validS p0 then
  (bif ((((p1.length : Nat) : Int) : Int) != ((p0.length : Nat) : Int)) then
  some ([.one ((.int .i64 (-1)), false)], [])
  else
  L0 fuel fuel (t0 p0 p1 0 0) (k0  fuel))
  else
  some ([.one ((.int .i64 (-1)), false)], []))
  else
  none) := by kernel_rfl
theorem s0 (fuel n0 : Nat) (p0 : List Int) (p1 : List Int) (x0q1 : Int) (x0q4 : Int) : L0 fuel (n0 + 1) (t0 p0 p1 x0q1 x0q4) (k0  fuel) =
  (bif (decide ((x0q4 : Int) < ((p1.length : Nat) : Int))) then
  (idx x0q4 p1.length).bind fun j9 =>
  (p1[j9]?).bind fun v10 =>
  (bif (decide ((v10 : Int) < 0)) then
  some ([.one ((.int .i64 (-1)), false)], [])
  else
  (idx x0q4 p0.length).bind fun j11 =>
  (p0[j11]?).bind fun v12 =>
  (bif (decide ((v10 : Int) ≥ v12)) then
  some ([.one ((.int .i64 (-1)), false)], [])
  else
  (bif decide (x0q4 = ((0 : Nat) : Int)) then
  L0 fuel n0 (t0 p0 p1 ((IntKind.wrap .i64 (x0q1 + (IntKind.wrap .i64 (v10 * (strd p0 0)))))) ((IntKind.wrap .i64 (x0q4 + 1)))) (k0  fuel)
  else
  (bif decide (x0q4 = ((1 : Nat) : Int)) then
  L0 fuel n0 (t0 p0 p1 ((IntKind.wrap .i64 (x0q1 + (IntKind.wrap .i64 (v10 * (strd p0 1)))))) ((IntKind.wrap .i64 (x0q4 + 1)))) (k0  fuel)
  else
  (bif decide (x0q4 = ((2 : Nat) : Int)) then
  L0 fuel n0 (t0 p0 p1 ((IntKind.wrap .i64 (x0q1 + (IntKind.wrap .i64 (v10 * (strd p0 2)))))) ((IntKind.wrap .i64 (x0q4 + 1)))) (k0  fuel)
  else
  none)))))
  else
  some ([.one ((.int .i64 x0q1), false)], [])) := by kernel_rfl
end impl_OffsetOf
theorem impl_OffsetOf.ok_of (hX : ∀ E ∈ impl_OffsetOf.X, CallSpec Try.prog E) (h : ∀ (sh : List Int) (pl : List Int), (decide (sh.length < 9223372036854775808) && decide (pl.length < 9223372036854775808)) = true → ∃ fuel, runF Try.prog impl_OffsetOf.X impl_OffsetOf.I 0 fuel 28 Try.f28 [.d (.ints .i64 sh), .d (.ints .i64 pl)] = some ([.one ((.int .i64 (offS sh pl)), false)], [])) : CallSpec Try.prog impl_OffsetOf.E :=
  callSpec_of (d := 0) hX (by kernel_rfl) impl_OffsetOf.I_ok (by kernel_rfl) (by kernel_rfl) (by kernel_rfl) (fun _ _ _ _ h => by dsimp only [impl_OffsetOf.E] at h; cases h) (fun xs hp => by
    dsimp only [impl_OffsetOf.E] at hp ⊢
    split at hp
    · exact h _ _ hp
    · cases hp)
theorem impl_OffsetOf.bad (fuel n : Nat) (sh pl : List Int) (k : Nat) (v s acc : Int) (hk : k < pl.length) (hs : k < sh.length) (hv : pl[k]? = some v) (hsv : sh[k]? = some s) (h : ¬ (0 ≤ v ∧ v < s)) :
    impl_OffsetOf.L0 fuel (n + 1) (impl_OffsetOf.t0 sh pl acc (k : Int)) (impl_OffsetOf.k0 fuel) = some ([.one (.int .i64 (-1), false)], []) := by
  rw [impl_OffsetOf.s0, dlt hk, idx_nat hk, idx_nat hs]
  simp only [cond_true, Option.bind_some, hv, hsv]
  by_cases h0 : v < 0
  · rw [decide_eq_true h0]; rfl
  · rw [decide_eq_false h0, decide_eq_true (by omega)]; rfl
theorem impl_OffsetOf.good (fuel n : Nat) (sh pl : List Int) (k : Nat) (v s acc : Int) (hk : k < pl.length) (hs : k < sh.length) (hv : pl[k]? = some v) (hsv : sh[k]? = some s) (h : 0 ≤ v ∧ v < s) (hk3 : k < 3) :
    impl_OffsetOf.L0 fuel (n + 1) (impl_OffsetOf.t0 sh pl acc (k : Int)) (impl_OffsetOf.k0 fuel) = impl_OffsetOf.L0 fuel n (impl_OffsetOf.t0 sh pl (IntKind.wrap .i64 (acc + IntKind.wrap .i64 (v * strd sh k))) ((k + 1 : Nat) : Int)) (impl_OffsetOf.k0 fuel) := by
  rw [impl_OffsetOf.s0, dlt hk, idx_nat hk, idx_nat hs, w1 (by omega)]
  simp only [cond_true, Option.bind_some, hv, hsv]
  rw [decide_eq_false (p := v < 0) (by omega), decide_eq_false (p := v ≥ s) (by omega)]
  match k, hk3 with
  | 0, _ => rfl
  | 1, _ => rfl
  | 2, _ => rfl
theorem impl_OffsetOf.last (fuel n : Nat) (sh pl : List Int) (k : Nat) (acc : Int) (hk : ¬ k < pl.length) :
    impl_OffsetOf.L0 fuel (n + 1) (impl_OffsetOf.t0 sh pl acc (k : Int)) (impl_OffsetOf.k0 fuel) = some ([.one (.int .i64 acc, false)], []) := by
  rw [impl_OffsetOf.s0, dge hk]
  rfl
theorem plB0 {a p : Int} (h0 : 0 ≤ a) (h1 : a ≤ 60) : (decide (0 ≤ p) && decide (p ≤ IntKind.wrap .i64 (a - 1))) = decide (0 ≤ p ∧ p < a) := by
  rw [wS (x := a - 1) (by omega) (by omega)]
  by_cases h : 0 ≤ p ∧ p < a
  · rw [decide_eq_true h, decide_eq_true h.1, decide_eq_true (by omega)]; rfl
  · rw [decide_eq_false h]
    by_cases h2 : 0 ≤ p
    · rw [decide_eq_false (p := p ≤ a - 1) (by omega), Bool.and_false]
    · rw [decide_eq_false h2]; rfl
theorem impl_OffsetOf.ok : CallSpec Try.prog impl_OffsetOf.E := impl_OffsetOf.ok_of (by simp [impl_OffsetOf.X, impl_layoutOf.ok]) fun sh pl h => by
  simp only [Bool.and_eq_true] at h
  refine ⟨4, ?_⟩
  rw [impl_OffsetOf.e, h.1]
  unfold offS
  cases hv : validS sh with
  | false => rfl
  | true =>
    simp only [cond_true, Bool.true_and]
    by_cases hl : pl.length = sh.length
    case neg =>
      rw [isPl_ne hl]
      have : (((pl.length : Nat) : Int) != ((sh.length : Nat) : Int)) = true := by simp; omega
      rw [this]
      rfl
    have : (((pl.length : Nat) : Int) != ((sh.length : Nat) : Int)) = false := by simp [hl]
    rw [this, cond_false, show (0 : Int) = ((0 : Nat) : Int) from rfl]
    rcases validS_cases hv with rfl | ⟨a, rfl, a0, a1⟩ | ⟨a, b, rfl, a0, a1, b0, b1, v⟩ | ⟨a, b, c, rfl, a0, a1, b0, b1, c0, c1, v⟩
    · match pl, hl with
      | [], _ => rw [impl_OffsetOf.last _ _ _ _ _ _ (by simp)]; rfl
    · match pl, hl with
      | [p], _ =>
        simp only [isPl, Bool.and_true, plB0 a0 a1]
        by_cases h1 : 0 ≤ p ∧ p < a
        case neg => rw [impl_OffsetOf.bad _ _ _ _ _ p a _ (by simp) (by simp) rfl rfl h1, decide_eq_false h1]; rfl
        rw [impl_OffsetOf.good _ _ _ _ _ p a _ (by simp) (by simp) rfl rfl h1 (by omega), impl_OffsetOf.last _ _ _ _ _ _ (by simp), decide_eq_true h1]
        simp only [cond_true, offW, strd, volW, volFrom, List.length_cons, List.length_nil, List.drop_succ_cons, List.drop_zero, List.drop_nil, Int.zero_mul, Int.one_mul, Int.mul_one, Nat.lt_add_one, decide_true, Int.zero_add, Nat.zero_add, Int.ofNat_zero, Int.natCast_zero]
        rw [wS (x := 0) (by omega) (by omega), Int.zero_add]
        simp only [wS (x := p) (by omega) (by omega)]
    · match pl, hl with
      | [p, q], _ =>
        simp only [isPl, Bool.and_true, plB0 a0 a1, plB0 b0 b1]
        by_cases h1 : 0 ≤ p ∧ p < a
        case neg => rw [impl_OffsetOf.bad _ _ _ _ _ p a _ (by simp) (by simp) rfl rfl h1, decide_eq_false h1]; rfl
        rw [impl_OffsetOf.good _ _ _ _ _ p a _ (by simp) (by simp) rfl rfl h1 (by omega), decide_eq_true h1]
        by_cases h2 : 0 ≤ q ∧ q < b
        case neg => rw [impl_OffsetOf.bad _ _ _ _ _ q b _ (by simp) (by simp) rfl rfl h2, decide_eq_false h2]; rfl
        rw [impl_OffsetOf.good _ _ _ _ _ q b _ (by simp) (by simp) rfl rfl h2 (by omega), impl_OffsetOf.last _ _ _ _ _ _ (by simp), decide_eq_true h2]
        have hpb := mul60 (a := p) (b := b) h1.1 (by omega) b0 b1
        have s0 : strd [a, b] 0 = b := by simp [strd, volW, volFrom, wS (x := b) (by omega) (by omega)]
        have s1 : strd [a, b] 1 = 1 := by simp [strd, volW, volFrom]
        simp only [cond_true, Bool.and_self, offW, s0, s1, Int.zero_mul, Int.mul_one]
        rw [show ((0 : Nat) : Int) = 0 from rfl, Int.zero_mul, wS (x := 0) (by omega) (by omega), Int.zero_add, Int.zero_add, wS (x := p) (by omega) (by omega), wS (x := p * b) (by omega) (by omega), wS (x := p * b) (by omega) (by omega), wS (x := q) (by omega) (by omega)]
    · match pl, hl with
      | [p, q, r], _ =>
        simp only [isPl, Bool.and_true, plB0 a0 a1, plB0 b0 b1, plB0 c0 c1]
        by_cases h1 : 0 ≤ p ∧ p < a
        case neg => rw [impl_OffsetOf.bad _ _ _ _ _ p a _ (by simp) (by simp) rfl rfl h1, decide_eq_false h1]; rfl
        rw [impl_OffsetOf.good _ _ _ _ _ p a _ (by simp) (by simp) rfl rfl h1 (by omega), decide_eq_true h1]
        by_cases h2 : 0 ≤ q ∧ q < b
        case neg => rw [impl_OffsetOf.bad _ _ _ _ _ q b _ (by simp) (by simp) rfl rfl h2, decide_eq_false h2]; rfl
        rw [impl_OffsetOf.good _ _ _ _ _ q b _ (by simp) (by simp) rfl rfl h2 (by omega), decide_eq_true h2]
        by_cases h3 : 0 ≤ r ∧ r < c
        case neg => rw [impl_OffsetOf.bad _ _ _ _ _ r c _ (by simp) (by simp) rfl rfl h3, decide_eq_false h3]; rfl
        rw [impl_OffsetOf.good _ _ _ _ _ r c _ (by simp) (by simp) rfl rfl h3 (by omega), impl_OffsetOf.last _ _ _ _ _ _ (by simp), decide_eq_true h3]
        have hpb := mul60 (a := p) (b := b) h1.1 (by omega) b0 b1
        have hbc := mul60 b0 b1 c0 c1
        have hqc := mul60 (a := q) (b := c) h2.1 (by omega) c0 c1
        have hpbc := mul3600 (a := p * b) (b := c) hpb.1 hpb.2 c0 c1
        have hpq := mul3600 (a := p * b + q) (b := c) (by omega) (by
          have := horner (a := a) (b := b) h1.1 h1.2 h2.1 h2.2
          have := mul60 a0 a1 b0 b1
          omega) c0 c1
        have s0 : strd [a, b, c] 0 = b * c := by simp [strd, volW, volFrom, wS (x := b) (by omega) (by omega), wS (x := b * c) (by omega) (by omega)]
        have s1 : strd [a, b, c] 1 = c := by simp [strd, volW, volFrom, wS (x := c) (by omega) (by omega)]
        have s2 : strd [a, b, c] 2 = 1 := by simp [strd, volW, volFrom]
        have e1 : p * (b * c) = p * b * c := by rw [Int.mul_assoc]
        have e2 : (p * b + q) * c = p * b * c + q * c := by rw [Int.add_mul]
        simp only [cond_true, Bool.and_self, offW, s0, s1, s2, Int.zero_mul, Int.mul_one, e1]
        rw [e2] at hpq
        rw [show ((0 : Nat) : Int) = 0 from rfl, Int.zero_mul, wS (x := 0) (by omega) (by omega), Int.zero_add, Int.zero_add, wS (x := p) (by omega) (by omega), wS (x := p * b * c) (by omega) (by omega), wS (x := p * b * c) (by omega) (by omega), wS (x := q * c) (by omega) (by omega), wS (x := r) (by omega) (by omega),
          wS (x := p * b) (by omega) (by omega), wS (x := p * b + q) (by omega) (by omega), e2]

namespace impl_offsetIn
noncomputable def E : Entry := ⟨48, true, false, fun | [.d (.agg [(.ints .i64 sh), (.ints .i64 da)]), .d (.ints .i64 pl)] => decide (sh.length < 9223372036854775808) && decide (da.length < 9223372036854775808) && decide (pl.length < 9223372036854775808) | _ => false, fun | [.d (.agg [(.ints .i64 sh), (.ints .i64 da)]), .d (.ints .i64 pl)] => ([.one ((.int .i64 (offA sh da pl)), false)], []) | _ => ([], []), fun _ => [], false, fun _ => none⟩
end impl_offsetIn
namespace impl_offsetIn
noncomputable def X : List Entry := [impl_ValidArray.E, impl_OffsetOf.E]
noncomputable def I : List Inl := [⟨48, Try.f48, ⟨[], [], [], [], [], []⟩⟩]
theorem I_ok : ∀ i ∈ I, Try.prog.funcs[i.f]? = some i.fn ∧ (i.fn.name == "runtime.NumGoroutine") = false := by
  intro i hi
  simp only [I, List.mem_cons, List.not_mem_nil, or_false] at hi
  subst hi
  exact ⟨by kernel_rfl, by kernel_rfl⟩
theorem e (fuel : Nat) (p0q0 : List Int) (p0q1 : List Int) (p1 : List Int) : runF Try.prog X I 0 fuel 48 Try.f48 [.d (.agg [(.ints .i64 p0q0), (.ints .i64 p0q1)]), .d (.ints .i64 p1)] =
  (bif decide (p0q0.length < 9223372036854775808) && decide (p0q1.length < 9223372036854775808) then
  (bif (!(validA p0q0 p0q1)) then
  some ([.one ((.int .i64 (-1)), false)], [])
  else
  (bif decide (p0q0.length < 9223372036854775808) && decide (p1.length < 9223372036854775808) then
  some ([.one ((.int .i64 (offS p0q0 p1)), false)], [])
  else
  none))
  else
  none) := by kernel_rfl
end impl_offsetIn
theorem impl_offsetIn.ok_of (hX : ∀ E ∈ impl_offsetIn.X, CallSpec Try.prog E) (h : ∀ (sh : List Int) (da : List Int) (pl : List Int), (decide (sh.length < 9223372036854775808) && decide (da.length < 9223372036854775808) && decide (pl.length < 9223372036854775808)) = true → ∃ fuel, runF Try.prog impl_offsetIn.X impl_offsetIn.I 0 fuel 48 Try.f48 [.d (.agg [(.ints .i64 sh), (.ints .i64 da)]), .d (.ints .i64 pl)] = some ([.one ((.int .i64 (offA sh da pl)), false)], [])) : CallSpec Try.prog impl_offsetIn.E :=
  callSpec_of (d := 0) hX (by kernel_rfl) impl_offsetIn.I_ok (by kernel_rfl) (by kernel_rfl) (by kernel_rfl) (fun _ _ _ _ h => by dsimp only [impl_offsetIn.E] at h; cases h) (fun xs hp => by
    dsimp only [impl_offsetIn.E] at hp ⊢
    split at hp
    · exact h _ _ _ hp
    · cases hp)
theorem impl_offsetIn.ok : CallSpec Try.prog impl_offsetIn.E := impl_offsetIn.ok_of (by simp [impl_offsetIn.X, impl_ValidArray.ok, impl_OffsetOf.ok]) fun sh da pl h => ⟨0, by
  simp only [Bool.and_eq_true] at h
  rw [impl_offsetIn.e, h.1.1, h.1.2, h.2]
  unfold offA
  cases validA sh da <;> rfl⟩

namespace impl_ItemAt
noncomputable def E : Entry := ⟨26, true, false, fun | [.d (.agg [(.ints .i64 sh), (.ints .i64 da)]), .d (.ints .i64 pl)] => decide (sh.length < 9223372036854775808) && decide (da.length < 9223372036854775808) && decide (pl.length < 9223372036854775808) | _ => false, fun | [.d (.agg [(.ints .i64 sh), (.ints .i64 da)]), .d (.ints .i64 pl)] => ([.one ((.int .i64 (itemV sh da pl)), false), .one ((.bool (itemB sh da pl)), false)], []) | _ => ([], []), fun _ => [], false, fun _ => none⟩
end impl_ItemAt
namespace impl_ItemAt
noncomputable def X : List Entry := [impl_offsetIn.E]
noncomputable def I : List Inl := [⟨26, Try.f26, ⟨[], [], [], [], [], []⟩⟩]
theorem I_ok : ∀ i ∈ I, Try.prog.funcs[i.f]? = some i.fn ∧ (i.fn.name == "runtime.NumGoroutine") = false := by
  intro i hi
  simp only [I, List.mem_cons, List.not_mem_nil, or_false] at hi
  subst hi
  exact ⟨by kernel_rfl, by kernel_rfl⟩
theorem e (fuel : Nat) (p0q0 : List Int) (p0q1 : List Int) (p1 : List Int) : runF Try.prog X I 0 fuel 26 Try.f26 [.d (.agg [(.ints .i64 p0q0), (.ints .i64 p0q1)]), .d (.ints .i64 p1)] =
  (bif decide (p0q0.length < 9223372036854775808) && decide (p0q1.length < 9223372036854775808) && decide (p1.length < 9223372036854775808) then
  (bif (decide (((offA p0q0 p0q1 p1) : Int) < 0)) then
  some ([.one ((.int .i64 0), false), .one ((.bool false), false)], [])
  else
  (idx (offA p0q0 p0q1 p1) p0q1.length).bind fun j1 =>
  (p0q1[j1]?).bind fun v2 =>
  some ([.one ((.int .i64 v2), false), .one ((.bool true), false)], []))
  else
  none) := by kernel_rfl
end impl_ItemAt
theorem impl_ItemAt.ok_of (hX : ∀ E ∈ impl_ItemAt.X, CallSpec Try.prog E) (h : ∀ (sh : List Int) (da : List Int) (pl : List Int), (decide (sh.length < 9223372036854775808) && decide (da.length < 9223372036854775808) && decide (pl.length < 9223372036854775808)) = true → ∃ fuel, runF Try.prog impl_ItemAt.X impl_ItemAt.I 0 fuel 26 Try.f26 [.d (.agg [(.ints .i64 sh), (.ints .i64 da)]), .d (.ints .i64 pl)] = some ([.one ((.int .i64 (itemV sh da pl)), false), .one ((.bool (itemB sh da pl)), false)], [])) : CallSpec Try.prog impl_ItemAt.E :=
  callSpec_of (d := 0) hX (by kernel_rfl) impl_ItemAt.I_ok (by kernel_rfl) (by kernel_rfl) (by kernel_rfl) (fun _ _ _ _ h => by dsimp only [impl_ItemAt.E] at h; cases h) (fun xs hp => by
    dsimp only [impl_ItemAt.E] at hp ⊢
    split at hp
    · exact h _ _ _ hp
    · cases hp)
theorem impl_ItemAt.ok : CallSpec Try.prog impl_ItemAt.E := impl_ItemAt.ok_of (by simp [impl_ItemAt.X, impl_offsetIn.ok]) fun sh da pl h => ⟨0, by
  rw [impl_ItemAt.e, h]
  unfold itemV
  cases hb : itemB sh da pl with
  | false => rw [item_no hb]; rfl
  | true =>
    obtain ⟨g1, g2, g3, g4⟩ := item_idx hb
    rw [decide_eq_false g4, g3, g2]
    simp [g1]⟩

namespace laws_FnScalarOf
noncomputable def E : Entry := ⟨6, true, false, fun | [.d (.ints .u8 bs)] => bytesB bs | _ => false, fun | [.d (.ints .u8 bs)] => ([.one ((.bool true), false)], []) | _ => ([], []), fun _ => [], false, fun _ => none⟩
end laws_FnScalarOf
namespace laws_FnScalarOf
noncomputable def X : List Entry := [spec_DrawScalarOf.E, impl_ScalarOf.E, spec_ScalarOf.E, laws_equalArray.E, impl_ValidArray.E, impl_ItemAt.E, impl_RankOf.E, impl_SizeOf.E]
noncomputable def I : List Inl := [⟨6, Try.f6, ⟨[13, 16, 26], [], [], [(5, [1, 0, 2, 3, 4, 5, 6, 7, 8, 9]), (6, [1, 0, 2, 3, 4])], [], []⟩⟩]
theorem I_ok : ∀ i ∈ I, Try.prog.funcs[i.f]? = some i.fn ∧ (i.fn.name == "runtime.NumGoroutine") = false := by
  intro i hi
  simp only [I, List.mem_cons, List.not_mem_nil, or_false] at hi
  subst hi
  exact ⟨by kernel_rfl, by kernel_rfl⟩
theorem e (fuel : Nat) (p0 : List Int) : runF Try.prog X I 0 fuel 6 Try.f6 [.d (.ints .u8 p0)] =
  (bif (decide ((((p0.length : Nat) : Int) : Int) > 1048576)) then
  some ([.one ((.bool true), false)], [])
  else
  (bif bytesB p0 then
  (bif decide (nilI.length < 9223372036854775808) && decide (((scalL ((anyNumV (cutC p0) 0)))).length < 9223372036854775808) && decide (nilI.length < 9223372036854775808) && decide (((scalL ((anyNumV (cutC p0) 0)))).length < 9223372036854775808) then
  (bif (!(decide (nilI = nilI) && decide (((scalL ((anyNumV (cutC p0) 0)))) = ((scalL ((anyNumV (cutC p0) 0))))))) then
  (bif decide (nilI.length < 9223372036854775808) && decide (((scalL ((anyNumV (cutC p0) 0)))).length < 9223372036854775808) && decide (nilI.length < 9223372036854775808) && decide (((scalL ((anyNumV (cutC p0) 0)))).length < 9223372036854775808) then
  some ([.one ((.bool (decide (nilI = nilI) && decide (((scalL ((anyNumV (cutC p0) 0)))) = ((scalL ((anyNumV (cutC p0) 0))))))), false)], [])
  else
  none)
  else
  (bif decide (nilI.length < 9223372036854775808) && decide (((scalL ((anyNumV (cutC p0) 0)))).length < 9223372036854775808) then
  (bif (!(validA nilI ((scalL ((anyNumV (cutC p0) 0)))))) then
  (bif decide (nilI.length < 9223372036854775808) && decide (((scalL ((anyNumV (cutC p0) 0)))).length < 9223372036854775808) && decide (nilI.length < 9223372036854775808) && decide (((scalL ((anyNumV (cutC p0) 0)))).length < 9223372036854775808) then
  some ([.one ((.bool (decide (nilI = nilI) && decide (((scalL ((anyNumV (cutC p0) 0)))) = ((scalL ((anyNumV (cutC p0) 0))))))), false)], [])
  else
  none)
  else
  (bif decide (nilI.length < 9223372036854775808) && decide (((scalL ((anyNumV (cutC p0) 0)))).length < 9223372036854775808) && decide ((([] : List Int)).length < 9223372036854775808) then
  (bif decide (nilI.length < 9223372036854775808) && decide (((scalL ((anyNumV (cutC p0) 0)))).length < 9223372036854775808) then
  (bif (((rankV nilI ((scalL ((anyNumV (cutC p0) 0))))) : Int) == 0) then
  (bif decide (nilI.length < 9223372036854775808) && decide (((scalL ((anyNumV (cutC p0) 0)))).length < 9223372036854775808) then
  (bif (((sizeV nilI ((scalL ((anyNumV (cutC p0) 0))))) : Int) == 1) then
  (bif (itemB nilI ((scalL ((anyNumV (cutC p0) 0)))) (([] : List Int))) then
  some ([.one ((.bool (((itemV nilI ((scalL ((anyNumV (cutC p0) 0)))) (([] : List Int))) : Int) == (anyNumV (cutC p0) 0))), false)], [])
  else
  some ([.one ((.bool false), false)], []))
  else
  some ([.one ((.bool false), false)], []))
  else
  none)
  else
  some ([.one ((.bool false), false)], []))
  else
  none)
  else
  none))
  else
  none))
  else
  none)
  else
  none)) := by kernel_rfl
end laws_FnScalarOf
theorem laws_FnScalarOf.ok_of (hX : ∀ E ∈ laws_FnScalarOf.X, CallSpec Try.prog E) (h : ∀ (bs : List Int), (bytesB bs) = true → ∃ fuel, runF Try.prog laws_FnScalarOf.X laws_FnScalarOf.I 0 fuel 6 Try.f6 [.d (.ints .u8 bs)] = some ([.one ((.bool true), false)], [])) : CallSpec Try.prog laws_FnScalarOf.E :=
  callSpec_of (d := 0) hX (by kernel_rfl) laws_FnScalarOf.I_ok (by kernel_rfl) (by kernel_rfl) (by kernel_rfl) (fun _ _ _ _ h => by dsimp only [laws_FnScalarOf.E] at h; cases h) (fun xs hp => by
    dsimp only [laws_FnScalarOf.E] at hp ⊢
    split at hp
    · exact h _ hp
    · cases hp)
theorem laws_FnScalarOf.ok : CallSpec Try.prog laws_FnScalarOf.E := laws_FnScalarOf.ok_of (by simp [laws_FnScalarOf.X, spec_DrawScalarOf.ok, impl_ScalarOf.ok, spec_ScalarOf.ok, laws_equalArray.ok, impl_ValidArray.ok, impl_ItemAt.ok, impl_RankOf.ok, impl_SizeOf.ok]) fun bs h => by
  obtain ⟨F, hF⟩ : ∃ F : Nat, 4000 < F := ⟨4001, by omega⟩
  refine ⟨F, ?_⟩
  rw [laws_FnScalarOf.e]
  by_cases hl : ((bs.length : Nat) : Int) > 1048576
  · rw [decide_eq_true hl]; rfl
  rw [decide_eq_false hl, cond_false, h, cond_true]
  have r0 := cut_ok h (p := 0) (by omega) (by omega)
  generalize anyNumV (cutC bs) 0 = n at *
  cases hn : numB n with
  | false =>
    simp only [scalL, hn, cond_true, cond_false]
    rfl
  | true =>
    have hq : validA [] [n] = true := by
      simp only [numB, Bool.and_eq_true, decide_eq_true_eq] at hn
      simp only [validA, allB_cons, allB_nil, Bool.and_true, Bool.and_eq_true, decide_eq_true_eq]
      exact ⟨⟨rfl, rfl⟩, hn⟩
    have g2 := lt_of (xs := [n]) (by simp)
    have g3 := lt_of (xs := nilI) (by simp)
    simp only [Bool.and_self, Bool.and_true, Bool.true_and, cond_true, cond_false, Bool.not_true, Bool.not_false, bne_self_eq_false, beq_self_eq_true, decide_true, eq_self, scalL, hn, g2, g3, rankV, sizeV, itemB, itemV, hq]
    simp only [isPl, cond_true, List.length_nil, List.length_cons]
    have e : ([n] : List Int).getD (offW [] [] 0).toNat 0 = n := rfl
    rw [e]
    simp

namespace spec_anyPlace
noncomputable def E : Entry := ⟨50, false, false, fun | [.box [(.ints .u8 bs), (.int .i64 p)], .d (.ints .i64 sh)] => rdOk bs p && decide ((p : Int) ≤ 1000000) && decide ((sh : List Int).length ≤ 1000) | _ => false, fun | [.box [(.ints .u8 bs), (.int .i64 p)], .d (.ints .i64 sh)] => ([.one ((.ints .i64 (aPl bs p sh)), false)], [[(.ints .u8 bs), (.int .i64 (aPlP bs p sh))]]) | _ => ([], []), fun _ => [], false, fun _ => none⟩
end spec_anyPlace
namespace spec_anyPlace
noncomputable def X : List Entry := [spec_reader_pick.E, spec_reader_spoil.E]
noncomputable def I : List Inl := [⟨50, Try.f50, ⟨[32], [(1000003, [2, 3, 4, 7, 8, 9, 10, 11, 12, 13, 14, 15, 16, 17, 18, 19, 20, 21, 22, 23, 24, 25, 26, 27, 28, 29, 30, 31, 32, 33])], [(8, [5]), (3000032, [31])], [], [], [32]⟩⟩]
theorem I_ok : ∀ i ∈ I, Try.prog.funcs[i.f]? = some i.fn ∧ (i.fn.name == "runtime.NumGoroutine") = false := by
  intro i hi
  simp only [I, List.mem_cons, List.not_mem_nil, or_false] at hi
  subst hi
  exact ⟨by kernel_rfl, by kernel_rfl⟩
noncomputable abbrev L0 (fuel n : Nat) (s : St) (k : Kont) := lAt Try.prog X I fuel false 0 false 50 (bodyOf Try.f50) [1, 1, 0, 1, 0] n s k
noncomputable abbrev k0  (fuel : Nat) : Kont := (kAt Try.prog X I fuel false 0 false 50 (bodyOf Try.f50) [1, 1, 0, 1, 0] [] (endK Try.prog Try.f50))
noncomputable def t0 (p1 : List Int) (p0q0 : List Int) (x0q1 : Int) (x0q3 : Int) (x0q4 : List Int) : St := ⟨[(.ptr 1000000000 0 0), (.imm (.ints .i64 p1)), .dead, .dead, .dead, (.all 1000000001 1), (.imm (.int .i64 x0q1)), .dead, .dead, .dead, .dead, .dead, .dead, .dead, .dead, .dead, .dead, .dead, .dead, .dead, .dead, .dead, .dead, .dead, .dead, .dead, .dead, .dead, .dead, .dead, .dead, .dead, .dead, .dead], hOf [(1000000000, (.box [(.imm (.ints .u8 p0q0)), (.imm (.int .i64 x0q3))])), (1000000001, (.ints .i64 x0q4))], [(.ptr 1000000000 0 0)], []⟩
theorem e (fuel : Nat) (p0q0 : List Int) (p0q1 : Int) (p1 : List Int) : runF Try.prog X I 0 fuel 50 Try.f50 [.box [(.ints .u8 p0q0), (.int .i64 p0q1)], .d (.ints .i64 p1)] =
  L0 fuel fuel (t0 p1 p0q0 0 p0q1 ([])) (k0  fuel) := by kernel_rfl
theorem s0 (fuel n0 : Nat) (p1 : List Int) (p0q0 : List Int) (x0q1 : Int) (x0q3 : Int) (x0q4 : List Int) : L0 fuel (n0 + 1) (t0 p1 p0q0 x0q1 x0q3 x0q4) (k0  fuel) =
  (bif (decide ((x0q1 : Int) < ((p1.length : Nat) : Int))) then
  (idx x0q1 p1.length).bind fun j5 =>
  (p1[j5]?).bind fun v6 =>
  (bif rdOk p0q0 x0q3 && decide ((((maxI 1 (minI v6 9))) : Int) ≤ 1048576) then
  (bif fits (x0q4.length + ([(pickV p0q0 x0q3 ((maxI 1 (minI v6 9))))] : List Int).length) 8 then
  L0 fuel n0 (t0 p1 p0q0 ((IntKind.wrap .i64 (x0q1 + 1))) ((x0q3 + 1)) ((x0q4 ++ [(pickV p0q0 x0q3 ((maxI 1 (minI v6 9))))]))) (k0  fuel)
  else
  none)
  else
  none)
  else
  (bif rdOk p0q0 x0q3 && decide ((8 : Int) ≤ 1048576) then
  (bif (((pickV p0q0 x0q3 8) : Int) == 0) then
  (bif fits (x0q4.length + ([0] : List Int).length) 8 then
  (bif rdOk p0q0 ((x0q3 + 1)) && decide ((((x0q3 + 1)) : Int) ≤ 2000000) && decide ((((x0q4 ++ [0])) : List Int).length ≤ 1000000) then
  some ([.one ((.ints .i64 (spV p0q0 ((x0q3 + 1)) ((x0q4 ++ [0])) 4)), false)], [[(.ints .u8 p0q0), (.int .i64 (spP p0q0 ((x0q3 + 1)) ((x0q4 ++ [0]))))]])
  else
  none)
  else
  none)
  else
  some ([.one ((.ints .i64 x0q4), false)], [[(.ints .u8 p0q0), (.int .i64 (x0q3 + 1))]]))
  else
  none)) := by kernel_rfl
end spec_anyPlace
theorem spec_anyPlace.ok_of (hX : ∀ E ∈ spec_anyPlace.X, CallSpec Try.prog E) (h : ∀ (bs : List Int) (p : Int) (sh : List Int), (rdOk bs p && decide ((p : Int) ≤ 1000000) && decide ((sh : List Int).length ≤ 1000)) = true → ∃ fuel, runF Try.prog spec_anyPlace.X spec_anyPlace.I 0 fuel 50 Try.f50 [.box [(.ints .u8 bs), (.int .i64 p)], .d (.ints .i64 sh)] = some ([.one ((.ints .i64 (aPl bs p sh)), false)], [[(.ints .u8 bs), (.int .i64 (aPlP bs p sh))]])) : CallSpec Try.prog spec_anyPlace.E :=
  callSpec_of (d := 0) hX (by kernel_rfl) spec_anyPlace.I_ok (by kernel_rfl) (by kernel_rfl) (by kernel_rfl) (fun _ _ _ _ h => by dsimp only [spec_anyPlace.E] at h; cases h) (fun xs hp => by
    dsimp only [spec_anyPlace.E] at hp ⊢
    split at hp
    · exact h _ _ _ hp
    · cases hp)
theorem spec_anyPlace.ok : CallSpec Try.prog spec_anyPlace.E := spec_anyPlace.ok_of (by simp [spec_anyPlace.X, spec_reader_pick.ok, spec_reader_spoil.ok]) fun bs p sh h => by
  obtain ⟨F, hF⟩ : ∃ F : Nat, 1000 < F := ⟨1001, by omega⟩
  refine ⟨F, ?_⟩
  simp only [Bool.and_eq_true, decide_eq_true_eq] at h
  obtain ⟨⟨h1, h2⟩, h3⟩ := h
  have hlen := aPl0_length bs p sh
  rw [spec_anyPlace.e]
  refine run_loop (N := sh.length) (fun n j (st : Int × List Int) => spec_anyPlace.L0 F n (spec_anyPlace.t0 sh bs (j : Int) st.1 st.2) (spec_anyPlace.k0 F)) (fun j st => st.1 = p + ((j : Nat) : Int) ∧ st.2 = (aPl0 bs p sh).take j) ?_ ?_ F 0 (p, []) (by omega) (by omega) ⟨by simp, by simp⟩
  · rintro n ⟨q, out⟩ ⟨e1, e2⟩
    simp only at e1 e2
    rw [← hlen, List.take_length] at e2
    subst e1
    subst e2
    have r1 := rd_le (q := p + ((sh.length : Nat) : Int)) h1 (by omega) (by omega)
    have r2 := rd_le (q := p + ((sh.length : Nat) : Int) + 1) h1 (by omega) (by omega)
    have hz : (aPl0 bs p sh ++ [0]).length ≤ 1000000 := by rw [List.length_append, List.length_cons, List.length_nil]; omega
    rw [spec_anyPlace.s0, dge (by omega), cond_false, r1, r2, fitsOk (by simp only [List.length_cons, List.length_nil]; omega), decide_eq_true hz, decide_eq_true (p := (8 : Int) ≤ 1048576) (by omega), decide_eq_true (p := p + ((sh.length : Nat) : Int) + 1 ≤ 2000000) (by omega)]
    unfold aPl aPlP
    cases pickV bs (p + ((sh.length : Nat) : Int)) 8 == 0 <;> rfl
  · rintro n j ⟨q, out⟩ hj ⟨e1, e2⟩
    simp only at e1 e2
    subst e1
    have hol : out.length = j := by rw [e2, take_len (by omega)]
    have r1 := rd_le (q := p + ((j : Nat) : Int)) h1 (by omega) (by omega)
    have hm : maxI 1 (minI (sh.getD j 0) 9) ≤ 1048576 := by unfold maxI minI; split <;> split <;> omega
    rw [spec_anyPlace.s0, dlt hj, cond_true, idx_nat hj, w1 (by omega)]
    simp only [Option.bind_some, getD_get hj]
    rw [r1, decide_eq_true hm, fitsOk (by simp only [List.length_cons, List.length_nil]; omega)]
    simp only [Bool.and_self, cond_true]
    refine ⟨(p + ((j + 1 : Nat) : Int), out ++ [pickV bs (p + ((j : Nat) : Int)) (maxI 1 (minI (sh.getD j 0) 9))]), ⟨rfl, ?_⟩, by rw [show p + ((j + 1 : Nat) : Int) = p + ((j : Nat) : Int) + 1 by omega]⟩
    simp only
    rw [e2]
    refine take_push (by omega) ?_
    simp only [aPl0]
    rw [tab_getD hj]

namespace spec_DrawOffsetOf
noncomputable def E : Entry := ⟨27, true, false, fun | [.d (.ints .u8 bs)] => bytesB bs | _ => false, fun | [.d (.ints .u8 bs)] => ([.one ((.ints .i64 (aShV (cutC bs) 0)), false), .one ((.ints .i64 (aPl (cutC bs) (sShP (cutC bs) 0 + 1) (aShV (cutC bs) 0))), false)], []) | _ => ([], []), fun _ => [], false, fun _ => none⟩
end spec_DrawOffsetOf
namespace spec_DrawOffsetOf
noncomputable def X : List Entry := [spec_newReader.E, spec_anyShape.E, spec_anyPlace.E]
noncomputable def I : List Inl := [⟨27, Try.f27, ⟨[9, 13], [], [(3000013, [5])], [], [], [13]⟩⟩]
theorem I_ok : ∀ i ∈ I, Try.prog.funcs[i.f]? = some i.fn ∧ (i.fn.name == "runtime.NumGoroutine") = false := by
  intro i hi
  simp only [I, List.mem_cons, List.not_mem_nil, or_false] at hi
  subst hi
  exact ⟨by kernel_rfl, by kernel_rfl⟩
theorem e (fuel : Nat) (p0 : List Int) : runF Try.prog X I 0 fuel 27 Try.f27 [.d (.ints .u8 p0)] =
  (bif rdOk ((cutC p0)) 0 && decide ((0 : Int) ≤ 2000000) then
  (bif rdOk (((cutC p0))) ((sShP ((cutC p0)) 0 + 1)) && decide ((((sShP ((cutC p0)) 0 + 1)) : Int) ≤ 1000000) && decide ((((aShV ((cutC p0)) 0)) : List Int).length ≤ 1000) then
  some ([.one ((.ints .i64 (aShV ((cutC p0)) 0)), false), .one ((.ints .i64 (aPl (((cutC p0))) ((sShP ((cutC p0)) 0 + 1)) ((aShV ((cutC p0)) 0)))), false)], [])
  else
  none)
  else
  none) := by kernel_rfl
end spec_DrawOffsetOf
theorem spec_DrawOffsetOf.ok_of (hX : ∀ E ∈ spec_DrawOffsetOf.X, CallSpec Try.prog E) (h : ∀ (bs : List Int), (bytesB bs) = true → ∃ fuel, runF Try.prog spec_DrawOffsetOf.X spec_DrawOffsetOf.I 0 fuel 27 Try.f27 [.d (.ints .u8 bs)] = some ([.one ((.ints .i64 (aShV (cutC bs) 0)), false), .one ((.ints .i64 (aPl (cutC bs) (sShP (cutC bs) 0 + 1) (aShV (cutC bs) 0))), false)], [])) : CallSpec Try.prog spec_DrawOffsetOf.E :=
  callSpec_of (d := 0) hX (by kernel_rfl) spec_DrawOffsetOf.I_ok (by kernel_rfl) (by kernel_rfl) (by kernel_rfl) (fun _ _ _ _ h => by dsimp only [spec_DrawOffsetOf.E] at h; cases h) (fun xs hp => by
    dsimp only [spec_DrawOffsetOf.E] at hp ⊢
    split at hp
    · exact h _ hp
    · cases hp)
theorem spec_DrawOffsetOf.ok : CallSpec Try.prog spec_DrawOffsetOf.E := spec_DrawOffsetOf.ok_of (by simp [spec_DrawOffsetOf.X, spec_newReader.ok, spec_anyShape.ok, spec_anyPlace.ok]) fun bs h => ⟨0, by
  have r0 := cut_ok h (p := 0) (by omega) (by omega)
  have b := sShP_bd (cutC bs) 0
  have hl := aSh_len (cutC bs) 0
  rw [spec_DrawOffsetOf.e, r0, rd_le (q := sShP (cutC bs) 0 + 1) r0 (by omega) (by omega), decide_eq_true (p := sShP (cutC bs) 0 + 1 ≤ 1000000) (by omega), decide_eq_true (p := (aShV (cutC bs) 0).length ≤ 1000) (by omega)]
  rfl⟩

namespace spec_isPlace
noncomputable def E : Entry := ⟨52, true, false, fun | [.d (.ints .i64 sh), .d (.ints .i64 pl)] => decide (sh.length < 9223372036854775808) && decide (pl.length < 9223372036854775808) | _ => false, fun | [.d (.ints .i64 sh), .d (.ints .i64 pl)] => ([.one ((.bool (isPl sh pl)), false)], []) | _ => ([], []), fun _ => [], false, fun _ => none⟩
end spec_isPlace
namespace spec_isPlace
noncomputable def X : List Entry := [spec_inRange.E]
noncomputable def I : List Inl := [⟨52, Try.f52, ⟨[], [(1000004, [2, 3, 4, 6, 7, 8, 9, 10, 11, 12, 13, 14, 15, 16, 17, 18, 19, 20, 21, 22, 23, 24, 25, 26, 27])], [], [(6, [0, 1, 4, 5, 2, 3, 6, 7, 8, 9, 10])], [], []⟩⟩]
theorem I_ok : ∀ i ∈ I, Try.prog.funcs[i.f]? = some i.fn ∧ (i.fn.name == "runtime.NumGoroutine") = false := by
  intro i hi
  simp only [I, List.mem_cons, List.not_mem_nil, or_false] at hi
  subst hi
  exact ⟨by kernel_rfl, by kernel_rfl⟩
noncomputable abbrev L0 (fuel n : Nat) (s : St) (k : Kont) := lAt Try.prog X I fuel true 0 false 52 (bodyOf Try.f52) [1, 1, 0, 1, 0] n s k
noncomputable abbrev k0  (fuel : Nat) : Kont := (kAt Try.prog X I fuel true 0 false 52 (bodyOf Try.f52) [1, 1, 0, 1, 0] [] (endK Try.prog Try.f52))
noncomputable def t0 (p0 : List Int) (p1 : List Int) (x0q2 : Int) : St := ⟨[(.imm (.ints .i64 p0)), (.imm (.ints .i64 p1)), .dead, .dead, .dead, (.imm (.int .i64 x0q2)), .dead, .dead, .dead, .dead, .dead, .dead, .dead, .dead, .dead, .dead, .dead, .dead, .dead, .dead, .dead, .dead, .dead, .dead, .dead, .dead, .dead, .dead], hOf [], [], []⟩
theorem e (fuel : Nat) (p0 : List Int) (p1 : List Int) : runF Try.prog X I 0 fuel 52 Try.f52 [.d (.ints .i64 p0), .d (.ints .i64 p1)] =
  (bif ((((p1.length : Nat) : Int) : Int) != ((p0.length : Nat) : Int)) then
  some ([.one ((.bool false), false)], [])
  else
  L0 fuel fuel (t0 p0 p1 0) (k0  fuel)) := by kernel_rfl
theorem s0 (fuel n0 : Nat) (p0 : List Int) (p1 : List Int) (x0q2 : Int) : L0 fuel (n0 + 1) (t0 p0 p1 x0q2) (k0  fuel) =
  (bif (decide ((x0q2 : Int) < ((p0.length : Nat) : Int))) then
  (idx x0q2 p1.length).bind fun j9 =>
  (p1[j9]?).bind fun v10 =>
  (idx x0q2 p0.length).bind fun j11 =>
  (p0[j11]?).bind fun v12 =>
  (bif (!(decide (0 ≤ v10) && decide (v10 ≤ ((IntKind.wrap .i64 (v12 - 1)))))) then
  some ([.one ((.bool false), false)], [])
  else
  L0 fuel n0 (t0 p0 p1 ((IntKind.wrap .i64 (x0q2 + 1)))) (k0  fuel))
  else
  some ([.one ((.bool true), false)], [])) := by kernel_rfl
end spec_isPlace
theorem spec_isPlace.ok_of (hX : ∀ E ∈ spec_isPlace.X, CallSpec Try.prog E) (h : ∀ (sh : List Int) (pl : List Int), (decide (sh.length < 9223372036854775808) && decide (pl.length < 9223372036854775808)) = true → ∃ fuel, runF Try.prog spec_isPlace.X spec_isPlace.I 0 fuel 52 Try.f52 [.d (.ints .i64 sh), .d (.ints .i64 pl)] = some ([.one ((.bool (isPl sh pl)), false)], [])) : CallSpec Try.prog spec_isPlace.E :=
  callSpec_of (d := 0) hX (by kernel_rfl) spec_isPlace.I_ok (by kernel_rfl) (by kernel_rfl) (by kernel_rfl) (fun _ _ _ _ h => by dsimp only [spec_isPlace.E] at h; cases h) (fun xs hp => by
    dsimp only [spec_isPlace.E] at hp ⊢
    split at hp
    · exact h _ _ hp
    · cases hp)
theorem spec_isPlace.loop (fuel : Nat) (sh pl : List Int) (hx : sh.length < 9223372036854775808) (hl : pl.length = sh.length) : ∀ (m n j : Nat), sh.length - j = m → m < n → j ≤ sh.length →
    spec_isPlace.L0 fuel n (spec_isPlace.t0 sh pl (j : Int)) (spec_isPlace.k0 fuel) = some ([.one (.bool (isPl (sh.drop j) (pl.drop j)), false)], []) := by
  intro m
  induction m with
  | zero =>
    intro n j h1 h2 h3
    obtain ⟨n, rfl⟩ : ∃ n', n = n' + 1 := ⟨n - 1, by omega⟩
    have hj : ¬ j < sh.length := by omega
    rw [spec_isPlace.s0, dge hj, dropE hj, dropE (xs := pl) (by omega)]
    rfl
  | succ m ih =>
    intro n j h1 h2 h3
    obtain ⟨n, rfl⟩ : ∃ n', n = n' + 1 := ⟨n - 1, by omega⟩
    have hj : j < sh.length := by omega
    have hj2 : j < pl.length := by omega
    rw [spec_isPlace.s0, dlt hj, idx_nat hj, idx_nat hj2, w1 (by omega), dropS hj, dropS hj2]
    simp only [cond_true, Option.bind_some, getS hj, getS hj2, isPl]
    rw [ih n (j + 1) (by omega) (by omega) (by omega)]
    cases decide (0 ≤ pl[j]) && decide (pl[j] ≤ IntKind.wrap .i64 (sh[j] - 1)) <;> rfl

theorem spec_isPlace.ok : CallSpec Try.prog spec_isPlace.E := spec_isPlace.ok_of (by simp [spec_isPlace.X, spec_inRange.ok]) fun sh pl h => by
  simp only [Bool.and_eq_true, decide_eq_true_eq] at h
  refine ⟨sh.length + 1, ?_⟩
  rw [spec_isPlace.e]
  by_cases hl : pl.length = sh.length
  · have := spec_isPlace.loop (sh.length + 1) sh pl h.1 hl sh.length (sh.length + 1) 0 (by omega) (by omega) (by omega)
    simp only [hl, bne_self_eq_false, cond_false]
    exact this
  · rw [isPl_ne hl]
    have : (((pl.length : Nat) : Int) != ((sh.length : Nat) : Int)) = true := by simp; omega
    rw [this]
    rfl

namespace spec_offset
noncomputable def E : Entry := ⟨53, true, false, fun | [.d (.ints .i64 sh), .d (.ints .i64 pl)] => decide (sh.length < 9223372036854775808) && decide (pl.length < 9223372036854775808) && decide (sh.length ≤ pl.length) | _ => false, fun | [.d (.ints .i64 sh), .d (.ints .i64 pl)] => ([.one ((.int .i64 (offW sh pl 0)), false)], []) | _ => ([], []), fun _ => [], false, fun _ => none⟩
end spec_offset
namespace spec_offset
noncomputable def X : List Entry := []
noncomputable def I : List Inl := [⟨53, Try.f53, ⟨[], [(1000003, [2, 3, 4, 7, 8, 9, 10, 11, 12, 13, 14, 15, 16, 17, 18, 19, 20, 21, 22, 23, 24])], [], [(5, [0, 1, 2, 6, 7, 3, 4, 5, 8, 9, 10, 11])], [], []⟩⟩]
theorem I_ok : ∀ i ∈ I, Try.prog.funcs[i.f]? = some i.fn ∧ (i.fn.name == "runtime.NumGoroutine") = false := by
  intro i hi
  simp only [I, List.mem_cons, List.not_mem_nil, or_false] at hi
  subst hi
  exact ⟨by kernel_rfl, by kernel_rfl⟩
noncomputable abbrev L0 (fuel n : Nat) (s : St) (k : Kont) := lAt Try.prog X I fuel true 0 false 53 (bodyOf Try.f53) [1, 1, 0, 1, 0] n s k
noncomputable abbrev k0  (fuel : Nat) : Kont := (kAt Try.prog X I fuel true 0 false 53 (bodyOf Try.f53) [1, 1, 0, 1, 0] [] (endK Try.prog Try.f53))
noncomputable def t0 (p0 : List Int) (p1 : List Int) (x0q2 : Int) (x0q3 : Int) : St := ⟨[(.imm (.ints .i64 p0)), (.imm (.ints .i64 p1)), .dead, .dead, .dead, (.imm (.int .i64 x0q2)), (.imm (.int .i64 x0q3)), .dead, .dead, .dead, .dead, .dead, .dead, .dead, .dead, .dead, .dead, .dead, .dead, .dead, .dead, .dead, .dead, .dead, .dead], hOf [], [], []⟩
theorem e (fuel : Nat) (p0 : List Int) (p1 : List Int) : runF Try.prog X I 0 fuel 53 Try.f53 [.d (.ints .i64 p0), .d (.ints .i64 p1)] =
  L0 fuel fuel (t0 p0 p1 0 0) (k0  fuel) := by kernel_rfl
theorem s0 (fuel n0 : Nat) (p0 : List Int) (p1 : List Int) (x0q2 : Int) (x0q3 : Int) : L0 fuel (n0 + 1) (t0 p0 p1 x0q2 x0q3) (k0  fuel) =
  (bif (decide ((x0q3 : Int) < ((p0.length : Nat) : Int))) then
  (idx x0q3 p0.length).bind fun j9 =>
  (p0[j9]?).bind fun v10 =>
  (idx x0q3 p1.length).bind fun j11 =>
  (p1[j11]?).bind fun v12 =>
  L0 fuel n0 (t0 p0 p1 ((IntKind.wrap .i64 ((IntKind.wrap .i64 (x0q2 * v10)) + v12))) ((IntKind.wrap .i64 (x0q3 + 1)))) (k0  fuel)
  else
  some ([.one ((.int .i64 x0q2), false)], [])) := by kernel_rfl
end spec_offset
theorem spec_offset.ok_of (hX : ∀ E ∈ spec_offset.X, CallSpec Try.prog E) (h : ∀ (sh : List Int) (pl : List Int), (decide (sh.length < 9223372036854775808) && decide (pl.length < 9223372036854775808) && decide (sh.length ≤ pl.length)) = true → ∃ fuel, runF Try.prog spec_offset.X spec_offset.I 0 fuel 53 Try.f53 [.d (.ints .i64 sh), .d (.ints .i64 pl)] = some ([.one ((.int .i64 (offW sh pl 0)), false)], [])) : CallSpec Try.prog spec_offset.E :=
  callSpec_of (d := 0) hX (by kernel_rfl) spec_offset.I_ok (by kernel_rfl) (by kernel_rfl) (by kernel_rfl) (fun _ _ _ _ h => by dsimp only [spec_offset.E] at h; cases h) (fun xs hp => by
    dsimp only [spec_offset.E] at hp ⊢
    split at hp
    · exact h _ _ hp
    · cases hp)
theorem spec_offset.loop (fuel : Nat) (sh pl : List Int) (hx : sh.length < 9223372036854775808) (hl : sh.length ≤ pl.length) : ∀ (m n j : Nat) (a : Int), sh.length - j = m → m < n → j ≤ sh.length →
    spec_offset.L0 fuel n (spec_offset.t0 sh pl a (j : Int)) (spec_offset.k0 fuel) = some ([.one (.int .i64 (offW (sh.drop j) (pl.drop j) a), false)], []) := by
  intro m
  induction m with
  | zero =>
    intro n j a h1 h2 h3
    obtain ⟨n, rfl⟩ : ∃ n', n = n' + 1 := ⟨n - 1, by omega⟩
    have hj : ¬ j < sh.length := by omega
    rw [spec_offset.s0, dge hj, dropE hj]
    rfl
  | succ m ih =>
    intro n j a h1 h2 h3
    obtain ⟨n, rfl⟩ : ∃ n', n = n' + 1 := ⟨n - 1, by omega⟩
    have hj : j < sh.length := by omega
    have hj2 : j < pl.length := by omega
    rw [spec_offset.s0, dlt hj, idx_nat hj, idx_nat hj2, w1 (by omega), dropS hj, dropS hj2]
    simp only [cond_true, Option.bind_some, getS hj, getS hj2, offW]
    exact ih n (j + 1) _ (by omega) (by omega) (by omega)

theorem spec_offset.ok : CallSpec Try.prog spec_offset.E := spec_offset.ok_of (by simp [spec_offset.X]) fun sh pl h => by
  simp only [Bool.and_eq_true, decide_eq_true_eq] at h
  refine ⟨sh.length + 1, ?_⟩
  rw [spec_offset.e]
  exact spec_offset.loop (sh.length + 1) sh pl h.1.1 h.2 sh.length (sh.length + 1) 0 0 (by omega) (by omega) (by omega)

namespace spec_OffsetOf
noncomputable def E : Entry := ⟨29, true, false, fun | [.d (.ints .i64 sh), .d (.ints .i64 pl)] => decide (sh.length < 9223372036854775808) && decide (pl.length < 9223372036854775808) | _ => false, fun | [.d (.ints .i64 sh), .d (.ints .i64 pl)] => ([.one ((.int .i64 (offS sh pl)), false)], []) | _ => ([], []), fun _ => [], false, fun _ => none⟩
end spec_OffsetOf
namespace spec_OffsetOf
noncomputable def X : List Entry := [spec_validShape.E, spec_isPlace.E, spec_offset.E]
noncomputable def I : List Inl := [⟨29, Try.f29, ⟨[], [], [], [], [], []⟩⟩]
theorem I_ok : ∀ i ∈ I, Try.prog.funcs[i.f]? = some i.fn ∧ (i.fn.name == "runtime.NumGoroutine") = false := by
  intro i hi
  simp only [I, List.mem_cons, List.not_mem_nil, or_false] at hi
  subst hi
  exact ⟨by kernel_rfl, by kernel_rfl⟩
theorem e (fuel : Nat) (p0 : List Int) (p1 : List Int) : runF Try.prog X I 0 fuel 29 Try.f29 [.d (.ints .i64 p0), .d (.ints .i64 p1)] =
  (bif decide (p0.length < 9223372036854775808) then
  (bif (!(validS p0)) then
  some ([.one ((.int .i64 (-1)), false)], [])
  else
  (bif decide (p0.length < 9223372036854775808) && decide (p1.length < 9223372036854775808) then
  (bif (!(isPl p0 p1)) then
  some ([.one ((.int .i64 (-1)), false)], [])
  else
  (bif decide (p0.length < 9223372036854775808) && decide (p1.length < 9223372036854775808) && decide (p0.length ≤ p1.length) then
  some ([.one ((.int .i64 (offW p0 p1 0)), false)], [])
  else
  none))
  else
  none))
  else
  none) := by kernel_rfl
end spec_OffsetOf
theorem spec_OffsetOf.ok_of (hX : ∀ E ∈ spec_OffsetOf.X, CallSpec Try.prog E) (h : ∀ (sh : List Int) (pl : List Int), (decide (sh.length < 9223372036854775808) && decide (pl.length < 9223372036854775808)) = true → ∃ fuel, runF Try.prog spec_OffsetOf.X spec_OffsetOf.I 0 fuel 29 Try.f29 [.d (.ints .i64 sh), .d (.ints .i64 pl)] = some ([.one ((.int .i64 (offS sh pl)), false)], [])) : CallSpec Try.prog spec_OffsetOf.E :=
  callSpec_of (d := 0) hX (by kernel_rfl) spec_OffsetOf.I_ok (by kernel_rfl) (by kernel_rfl) (by kernel_rfl) (fun _ _ _ _ h => by dsimp only [spec_OffsetOf.E] at h; cases h) (fun xs hp => by
    dsimp only [spec_OffsetOf.E] at hp ⊢
    split at hp
    · exact h _ _ hp
    · cases hp)
theorem spec_OffsetOf.ok : CallSpec Try.prog spec_OffsetOf.E := spec_OffsetOf.ok_of (by simp [spec_OffsetOf.X, spec_validShape.ok, spec_isPlace.ok, spec_offset.ok]) fun sh pl h => ⟨0, by
  simp only [Bool.and_eq_true] at h
  rw [spec_OffsetOf.e, h.1, h.2]
  unfold offS
  cases validS sh
  · rfl
  · cases hp : isPl sh pl with
    | false => rfl
    | true =>
      rw [decide_eq_true (p := sh.length ≤ pl.length) (by rw [isPl_len hp]; exact Nat.le_refl _)]
      rfl⟩

namespace impl_PlaceOf
noncomputable def E : Entry := ⟨30, false, false, fun | [.d (.ints .i64 sh), .d (.int .i64 n)] => decide (sh.length < 9223372036854775808) | _ => false, fun | [.d (.ints .i64 sh), .d (.int .i64 n)] => ([.one ((.ints .i64 (plD sh n)), true), .one ((.bool (plB sh n)), false)], []) | _ => ([], []), fun _ => [], true, fun _ => none⟩
end impl_PlaceOf
namespace impl_PlaceOf
noncomputable def X : List Entry := [impl_layoutOf.E]
noncomputable def I : List Inl := [⟨30, Try.f30, ⟨[10, 28], [(4, [0, 2, 3, 4, 5, 7, 8, 9, 10, 11, 12, 13, 14, 15, 16, 17, 18, 19, 20, 21, 22, 23, 24, 25, 26, 27, 28])], [], [], [], []⟩⟩, ⟨55, Try.f55, ⟨[], [], [(1, [2, 3])], [], [], []⟩⟩, ⟨54, Try.f54, ⟨[4], [(1, [1, 2, 3, 4])], [], [], [], []⟩⟩, ⟨65, Try.f65, ⟨[2], [], [], [], [], []⟩⟩, ⟨66, Try.f66, ⟨[], [(1000001, [3, 4, 5, 6, 10, 11, 12, 13, 14, 15, 16, 17, 18, 19, 20, 21, 22, 23, 24, 25])], [], [(3, [0, 2, 3, 7, 1, 4, 5, 6, 8, 9, 10])], [], [23]⟩⟩]
theorem I_ok : ∀ i ∈ I, Try.prog.funcs[i.f]? = some i.fn ∧ (i.fn.name == "runtime.NumGoroutine") = false := by
  intro i hi
  simp only [I, List.mem_cons, List.not_mem_nil, or_false] at hi
  rcases hi with rfl | rfl | rfl | rfl | rfl
  all_goals exact ⟨by kernel_rfl, by kernel_rfl⟩
noncomputable abbrev L0 (fuel n : Nat) (s : St) (k : Kont) := lAt Try.prog X I fuel true 1 false 66 (bodyOf Try.f66) [1, 0] n s k
noncomputable abbrev k0  (fuel : Nat) : Kont := (kAt Try.prog X I fuel true 1 false 66 (bodyOf Try.f66) [1, 0] [] (endFn Try.prog Try.f66 13 (kRange (kAt Try.prog X I fuel true 2 false 65 (bodyOf Try.f65) [1, 0, 1, 0] [] (endFn Try.prog Try.f65 5 (kOp Try.prog X I fuel true 3 54 (cAt (bodyOf Try.f54) [1, 0]) 1 (kAt Try.prog X I fuel true 3 false 54 (bodyOf Try.f54) [1, 0] [] (endFn Try.prog Try.f54 29 (kOp Try.prog X I fuel true 4 30 (cAt (bodyOf Try.f30) [1, 1, 1, 0]) 3 (kAt Try.prog X I fuel true 4 false 30 (bodyOf Try.f30) [1, 1, 1, 0] [] (endK Try.prog Try.f30)))))))))))
noncomputable def t0 (p0 : List Int) (p1 : Int) (x0q8 : Int) (x0q26 : List Int) : St := ⟨[(.yld 1000000002), (.imm (.pbox [(.ints .i64 p0), (.int .i64 (strd p0 0)), (.int .i64 (strd p0 1)), (.int .i64 (strd p0 2)), (.int .i64 (volW p0))])), (.imm (.pbox [(.int .i64 p1)])), .dead, .dead, .dead, .dead, (.imm (.ints .i64 p0)), (.imm (.int .i64 ((p0.length : Nat) : Int))), (.imm (.int .i64 x0q8)), .dead, .dead, .dead, .dead, .dead, .dead, .dead, .dead, .dead, .dead, .dead, .dead, .dead, .dead, .dead, .dead], hOf [(1000000000, .dfr), (1000000001, (.box [(.imm (.ints .i64 p0)), (.imm (.int .i64 (strd p0 0))), (.imm (.int .i64 (strd p0 1))), (.imm (.int .i64 (strd p0 2))), (.imm (.int .i64 (volW p0)))])), (1000000002, (.loop 65 [(.imm .nils), (.imm (.clo 66 [(.pbox [(.ints .i64 p0), (.int .i64 (strd p0 0)), (.int .i64 (strd p0 1)), (.int .i64 (strd p0 2)), (.int .i64 (volW p0))]), (.pbox [(.int .i64 p1)])])), (.ptr 1000000003 0 0), .undef, (.imm .nils), .undef, (.imm (.clo 66 [(.pbox [(.ints .i64 p0), (.int .i64 (strd p0 0)), (.int .i64 (strd p0 1)), (.int .i64 (strd p0 2)), (.int .i64 (volW p0))]), (.pbox [(.int .i64 p1)])])), .undef, .undef, .undef, .undef, .undef, .undef] [7] (cAt (bodyOf Try.f65) [1, 0, 1, 0, 0]) (cAt (bodyOf Try.f65) [1, 0, 1, 0, 1]) .ready)), (1000000003, (.box [(.all 1000000004 1)])), (1000000004, (.ints .i64 x0q26))], [(.imm .nils), (.imm (.clo 66 [(.pbox [(.ints .i64 p0), (.int .i64 (strd p0 0)), (.int .i64 (strd p0 1)), (.int .i64 (strd p0 2)), (.int .i64 (volW p0))]), (.pbox [(.int .i64 p1)])])), (.ptr 1000000003 0 0), .undef, (.imm .nils), .undef, (.imm (.clo 66 [(.pbox [(.ints .i64 p0), (.int .i64 (strd p0 0)), (.int .i64 (strd p0 1)), (.int .i64 (strd p0 2)), (.int .i64 (volW p0))]), (.pbox [(.int .i64 p1)])])), .undef, .undef, .undef, .undef, .undef, .undef, (.tup [(.dfr 1000000000)]), (.yld 1000000002), (.imm (.clo 66 [(.pbox [(.ints .i64 p0), (.int .i64 (strd p0 0)), (.int .i64 (strd p0 1)), (.int .i64 (strd p0 2)), (.int .i64 (volW p0))]), (.pbox [(.int .i64 p1)])])), .dead, .dead, (.imm (.clo 66 [(.pbox [(.ints .i64 p0), (.int .i64 (strd p0 0)), (.int .i64 (strd p0 1)), (.int .i64 (strd p0 2)), (.int .i64 (volW p0))]), (.pbox [(.int .i64 p1)])])), .dead, (.tup []), .dead, (.imm (.int .i64 p1)), .dead, .dead, .dead, .dead, (.ptr 1000000001 0 0), .dead, .dead, .dead, .dead, .dead, .dead, .dead, .dead, .dead, .dead, .dead, .dead, .dead, .dead, .dead, .dead, .dead, .dead, (.agg [(.imm (.ints .i64 p0)), (.imm (.int .i64 (strd p0 0))), (.imm (.int .i64 (strd p0 1))), (.imm (.int .i64 (strd p0 2))), (.imm (.int .i64 (volW p0)))]), (.imm (.int .i64 p1)), (.imm (.clo 66 [(.pbox [(.ints .i64 p0), (.int .i64 (strd p0 0)), (.int .i64 (strd p0 1)), (.int .i64 (strd p0 2)), (.int .i64 (volW p0))]), (.pbox [(.int .i64 p1)])])), .dead, (.tup [])], []⟩
theorem e (fuel : Nat) (p0 : List Int) (p1 : Int) : runF Try.prog X I 4 fuel 30 Try.f30 [.d (.ints .i64 p0), .d (.int .i64 p1)] =
  (bif decide (p0.length < 9223372036854775808) then
  (bif validS p0 then
  (bif (decide ((p1 : Int) < 0)) then
  some ([.one ((.ints .i64 []), true), .one ((.bool false), false)], [])
  else
  (bif (decide ((p1 : Int) ≥ (volW p0))) then
  some ([.one ((.ints .i64 []), true), .one ((.bool false), false)], [])
  else
  L0 fuel fuel (t0 p0 p1 0 ([])) (k0  fuel)))
  else
  some ([.one ((.ints .i64 []), true), .one ((.bool false), false)], []))
  else
  none) := by kernel_rfl
theorem s0 (fuel n0 : Nat) (p0 : List Int) (p1 : Int) (x0q8 : Int) (x0q26 : List Int) : L0 fuel (n0 + 1) (t0 p0 p1 x0q8 x0q26) (k0  fuel) =
  (bif (decide ((x0q8 : Int) < ((p0.length : Nat) : Int))) then
  (idx x0q8 p0.length).bind fun j5 =>
  (p0[j5]?).bind fun v6 =>
  (bif decide (x0q8 = ((0 : Nat) : Int)) then
  (bif decide (((strd p0 0) : Int) = 0) then
  none
  else
  (bif decide ((v6 : Int) = 0) then
  none
  else
  (bif fits (x0q26.length + ([(Int.tmod (IntKind.wrap .i64 (Int.tdiv p1 (strd p0 0))) v6)] : List Int).length) 8 then
  L0 fuel n0 (t0 p0 p1 ((IntKind.wrap .i64 (x0q8 + 1))) ((x0q26 ++ [(Int.tmod (IntKind.wrap .i64 (Int.tdiv p1 (strd p0 0))) v6)]))) (k0  fuel)
  else
  none)))
  else
  (bif decide (x0q8 = ((1 : Nat) : Int)) then
  (bif decide (((strd p0 1) : Int) = 0) then
  none
  else
  (bif decide ((v6 : Int) = 0) then
  none
  else
  (bif fits (x0q26.length + ([(Int.tmod (IntKind.wrap .i64 (Int.tdiv p1 (strd p0 1))) v6)] : List Int).length) 8 then
  L0 fuel n0 (t0 p0 p1 ((IntKind.wrap .i64 (x0q8 + 1))) ((x0q26 ++ [(Int.tmod (IntKind.wrap .i64 (Int.tdiv p1 (strd p0 1))) v6)]))) (k0  fuel)
  else
  none)))
  else
  (bif decide (x0q8 = ((2 : Nat) : Int)) then
  (bif decide (((strd p0 2) : Int) = 0) then
  none
  else
  (bif decide ((v6 : Int) = 0) then
  none
  else
  (bif fits (x0q26.length + ([(Int.tmod (IntKind.wrap .i64 (Int.tdiv p1 (strd p0 2))) v6)] : List Int).length) 8 then
  L0 fuel n0 (t0 p0 p1 ((IntKind.wrap .i64 (x0q8 + 1))) ((x0q26 ++ [(Int.tmod (IntKind.wrap .i64 (Int.tdiv p1 (strd p0 2))) v6)]))) (k0  fuel)
  else
  none)))
  else
  none)))
  else
  some ([.one ((.ints .i64 x0q26), true), .one ((.bool true), false)], [])) := by kernel_rfl
end impl_PlaceOf
theorem impl_PlaceOf.ok_of (hX : ∀ E ∈ impl_PlaceOf.X, CallSpec Try.prog E) (h : ∀ (sh : List Int) (n : Int), (decide (sh.length < 9223372036854775808)) = true → ∃ fuel, runF Try.prog impl_PlaceOf.X impl_PlaceOf.I 4 fuel 30 Try.f30 [.d (.ints .i64 sh), .d (.int .i64 n)] = some ([.one ((.ints .i64 (plD sh n)), true), .one ((.bool (plB sh n)), false)], [])) : CallSpec Try.prog impl_PlaceOf.E :=
  callSpec_of (d := 4) hX (by kernel_rfl) impl_PlaceOf.I_ok (by kernel_rfl) (by kernel_rfl) (by kernel_rfl) (fun _ _ _ _ h => by dsimp only [impl_PlaceOf.E] at h; cases h) (fun xs hp => by
    dsimp only [impl_PlaceOf.E] at hp ⊢
    split at hp
    · exact h _ _ hp
    · cases hp)
theorem impl_PlaceOf.loop (fuel : Nat) (sh : List Int) (n : Nat) (hv : validS sh = true) (hn : n < prodN sh) (h60 : prodN sh ≤ 60) (hf : 3 < fuel) :
    impl_PlaceOf.L0 fuel fuel (impl_PlaceOf.t0 sh (n : Int) 0 []) (impl_PlaceOf.k0 fuel) = some ([.one ((.ints .i64 (plN sh n)), true), .one ((.bool true), false)], []) := by
  have hr := (validS_inv hv).1
  refine run_loop (N := sh.length) (fun f j out => impl_PlaceOf.L0 fuel f (impl_PlaceOf.t0 sh (n : Int) (j : Int) out) (impl_PlaceOf.k0 fuel)) (fun j out => out = tab j fun k => ((n / behN sh k % lenN sh k : Nat) : Int)) ?_ ?_ fuel 0 [] (by omega) (by omega) rfl
  · intro f out ho
    change out = plN sh n at ho
    rw [impl_PlaceOf.s0, dge (by omega), ho]
    rfl
  · intro f k out hk ho
    have ax := ax_of hv hk
    have hl : out.length = k := by rw [ho, tab_length]
    obtain ⟨p1, p2, _⟩ := pl_pos hn hk
    have hst := strd_beh ax
    have hdl : n / behN sh k ≤ n := Nat.div_le_self _ _
    have hfit : fits (out.length + [((n / behN sh k % lenN sh k : Nat) : Int)].length) 8 = true := fitsOk (by simp only [List.length_cons, List.length_nil]; omega)
    rw [impl_PlaceOf.s0, dlt hk, cond_true, idx_nat hk]
    simp only [Option.bind_some, getD_get hk, ax.len]
    have key : ∀ m, m = strd sh k → (bif decide ((m : Int) = 0) then none else (bif decide (((lenN sh k : Nat) : Int) = 0) then none else (bif fits (out.length + ([(Int.tmod (IntKind.wrap .i64 (Int.tdiv (n : Int) m)) ((lenN sh k : Nat) : Int))] : List Int).length) 8 then impl_PlaceOf.L0 fuel f (impl_PlaceOf.t0 sh (n : Int) ((IntKind.wrap .i64 ((k : Int) + 1))) ((out ++ [(Int.tmod (IntKind.wrap .i64 (Int.tdiv (n : Int) m)) ((lenN sh k : Nat) : Int))]))) (impl_PlaceOf.k0 fuel) else none))) =
        impl_PlaceOf.L0 fuel f (impl_PlaceOf.t0 sh (n : Int) ((k + 1 : Nat) : Int) (tab (k + 1) fun k => ((n / behN sh k % lenN sh k : Nat) : Int))) (impl_PlaceOf.k0 fuel) := by
      rintro m rfl
      rw [hst, decide_eq_false (by omega), decide_eq_false (by omega), tdivN, wN (by omega), tmodN, hfit, w1 (by omega), tab_succ, ho]
      rfl
    refine ⟨_, rfl, ?_⟩
    match k, key with
    | 0, key => rw [decide_eq_true (p := ((0 : Nat) : Int) = ((0 : Nat) : Int)) rfl, cond_true]; exact key _ rfl
    | 1, key => rw [decide_eq_false (p := ((1 : Nat) : Int) = ((0 : Nat) : Int)) (by omega), cond_false, decide_eq_true (p := ((1 : Nat) : Int) = ((1 : Nat) : Int)) rfl, cond_true]; exact key _ rfl
    | 2, key => rw [decide_eq_false (p := ((2 : Nat) : Int) = ((0 : Nat) : Int)) (by omega), cond_false, decide_eq_false (p := ((2 : Nat) : Int) = ((1 : Nat) : Int)) (by omega), cond_false, decide_eq_true (p := ((2 : Nat) : Int) = ((2 : Nat) : Int)) rfl, cond_true]; exact key _ rfl
    | k + 3, _ => omega
theorem impl_PlaceOf.ok : CallSpec Try.prog impl_PlaceOf.E := impl_PlaceOf.ok_of (by simp [impl_PlaceOf.X, impl_layoutOf.ok]) fun sh n h => ⟨4, by
  rw [impl_PlaceOf.e, h]
  unfold plD
  cases hv : validS sh with
  | false => simp only [plB, hv]; rfl
  | true =>
    by_cases h0 : n < 0
    · rw [decide_eq_true h0, show plB sh n = false by simp only [plB, decide_eq_false (show ¬ 0 ≤ n by omega), Bool.and_false, Bool.false_and]]; rfl
    by_cases h1 : n ≥ volW sh
    · rw [decide_eq_false h0, decide_eq_true h1, show plB sh n = false by simp only [plB, decide_eq_false (show ¬ n < volW sh by omega), Bool.and_false]]; rfl
    have hb : plB sh n = true := by simp only [plB, hv, decide_eq_true (show 0 ≤ n by omega), decide_eq_true (show n < volW sh by omega), Bool.and_self]
    rw [decide_eq_false h0, decide_eq_false h1, hb]
    obtain ⟨j, rfl, _, hj, _, h60⟩ := plB_inv hb
    exact impl_PlaceOf.loop 4 sh j hv hj h60 (by omega)⟩

namespace laws_FnOffsetOf
noncomputable def E : Entry := ⟨7, true, false, fun | [.d (.ints .u8 bs)] => bytesB bs | _ => false, fun | [.d (.ints .u8 bs)] => ([.one ((.bool true), false)], []) | _ => ([], []), fun _ => [], false, fun _ => none⟩
end laws_FnOffsetOf
namespace laws_FnOffsetOf
noncomputable def X : List Entry := [spec_DrawOffsetOf.E, impl_OffsetOf.E, spec_OffsetOf.E, impl_PlaceOf.E, laws_equalInts.E, laws_product.E]
noncomputable def I : List Inl := [⟨7, Try.f7, ⟨[13, 36], [], [], [], [], []⟩⟩]
theorem I_ok : ∀ i ∈ I, Try.prog.funcs[i.f]? = some i.fn ∧ (i.fn.name == "runtime.NumGoroutine") = false := by
  intro i hi
  simp only [I, List.mem_cons, List.not_mem_nil, or_false] at hi
  subst hi
  exact ⟨by kernel_rfl, by kernel_rfl⟩
theorem e (fuel : Nat) (p0 : List Int) : runF Try.prog X I 0 fuel 7 Try.f7 [.d (.ints .u8 p0)] =
  (bif (decide ((((p0.length : Nat) : Int) : Int) > 1048576)) then
  some ([.one ((.bool true), false)], [])
  else
  (bif bytesB p0 then
  (bif decide (((aShV (cutC p0) 0)).length < 9223372036854775808) && decide (((aPl (cutC p0) (sShP (cutC p0) 0 + 1) (aShV (cutC p0) 0))).length < 9223372036854775808) then
  (bif decide (((aShV (cutC p0) 0)).length < 9223372036854775808) && decide (((aPl (cutC p0) (sShP (cutC p0) 0 + 1) (aShV (cutC p0) 0))).length < 9223372036854775808) then
  (bif (((offS ((aShV (cutC p0) 0)) ((aPl (cutC p0) (sShP (cutC p0) 0 + 1) (aShV (cutC p0) 0)))) : Int) != (offS ((aShV (cutC p0) 0)) ((aPl (cutC p0) (sShP (cutC p0) 0 + 1) (aShV (cutC p0) 0))))) then
  (bif decide (((aShV (cutC p0) 0)).length < 9223372036854775808) && decide (((aPl (cutC p0) (sShP (cutC p0) 0 + 1) (aShV (cutC p0) 0))).length < 9223372036854775808) then
  some ([.one ((.bool (((offS ((aShV (cutC p0) 0)) ((aPl (cutC p0) (sShP (cutC p0) 0 + 1) (aShV (cutC p0) 0)))) : Int) == (offS ((aShV (cutC p0) 0)) ((aPl (cutC p0) (sShP (cutC p0) 0 + 1) (aShV (cutC p0) 0)))))), false)], [])
  else
  none)
  else
  (bif (decide (((offS ((aShV (cutC p0) 0)) ((aPl (cutC p0) (sShP (cutC p0) 0 + 1) (aShV (cutC p0) 0)))) : Int) < 0)) then
  (bif decide (((aShV (cutC p0) 0)).length < 9223372036854775808) && decide (((aPl (cutC p0) (sShP (cutC p0) 0 + 1) (aShV (cutC p0) 0))).length < 9223372036854775808) then
  some ([.one ((.bool (((offS ((aShV (cutC p0) 0)) ((aPl (cutC p0) (sShP (cutC p0) 0 + 1) (aShV (cutC p0) 0)))) : Int) == (offS ((aShV (cutC p0) 0)) ((aPl (cutC p0) (sShP (cutC p0) 0 + 1) (aShV (cutC p0) 0)))))), false)], [])
  else
  none)
  else
  (bif decide (((aShV (cutC p0) 0)).length < 9223372036854775808) then
  (bif (plB ((aShV (cutC p0) 0)) ((offS ((aShV (cutC p0) 0)) ((aPl (cutC p0) (sShP (cutC p0) 0 + 1) (aShV (cutC p0) 0)))))) then
  (bif decide (((plD ((aShV (cutC p0) 0)) ((offS ((aShV (cutC p0) 0)) ((aPl (cutC p0) (sShP (cutC p0) 0 + 1) (aShV (cutC p0) 0))))))).length < 9223372036854775808) && decide (((aPl (cutC p0) (sShP (cutC p0) 0 + 1) (aShV (cutC p0) 0))).length < 9223372036854775808) then
  (bif (decide (((plD ((aShV (cutC p0) 0)) ((offS ((aShV (cutC p0) 0)) ((aPl (cutC p0) (sShP (cutC p0) 0 + 1) (aShV (cutC p0) 0))))))) = ((aPl (cutC p0) (sShP (cutC p0) 0 + 1) (aShV (cutC p0) 0))))) then
  (bif decide (((aShV (cutC p0) 0)).length < 9223372036854775808) then
  some ([.one ((.bool (decide (((offS ((aShV (cutC p0) 0)) ((aPl (cutC p0) (sShP (cutC p0) 0 + 1) (aShV (cutC p0) 0)))) : Int) < (volW ((aShV (cutC p0) 0)))))), false)], [])
  else
  none)
  else
  some ([.one ((.bool false), false)], []))
  else
  none)
  else
  some ([.one ((.bool false), false)], []))
  else
  none)))
  else
  none)
  else
  none)
  else
  none)) := by kernel_rfl
end laws_FnOffsetOf
theorem laws_FnOffsetOf.ok_of (hX : ∀ E ∈ laws_FnOffsetOf.X, CallSpec Try.prog E) (h : ∀ (bs : List Int), (bytesB bs) = true → ∃ fuel, runF Try.prog laws_FnOffsetOf.X laws_FnOffsetOf.I 0 fuel 7 Try.f7 [.d (.ints .u8 bs)] = some ([.one ((.bool true), false)], [])) : CallSpec Try.prog laws_FnOffsetOf.E :=
  callSpec_of (d := 0) hX (by kernel_rfl) laws_FnOffsetOf.I_ok (by kernel_rfl) (by kernel_rfl) (by kernel_rfl) (fun _ _ _ _ h => by dsimp only [laws_FnOffsetOf.E] at h; cases h) (fun xs hp => by
    dsimp only [laws_FnOffsetOf.E] at hp ⊢
    split at hp
    · exact h _ hp
    · cases hp)
theorem laws_FnOffsetOf.ok : CallSpec Try.prog laws_FnOffsetOf.E := laws_FnOffsetOf.ok_of (by simp [laws_FnOffsetOf.X, spec_DrawOffsetOf.ok, impl_OffsetOf.ok, spec_OffsetOf.ok, impl_PlaceOf.ok, laws_equalInts.ok, laws_product.ok]) fun bs h => by
  obtain ⟨F, hF⟩ : ∃ F : Nat, 4000 < F := ⟨4001, by omega⟩
  refine ⟨F, ?_⟩
  rw [laws_FnOffsetOf.e]
  by_cases hl : ((bs.length : Nat) : Int) > 1048576
  · rw [decide_eq_true hl]; rfl
  rw [decide_eq_false hl, cond_false, h, cond_true]
  have r0 := cut_ok h (p := 0) (by omega) (by omega)
  have b := sShP_bd (cutC bs) 0
  have a1 := aSh_len (cutC bs) 0
  have a2 := (aPl_bd (cutC bs) (sShP (cutC bs) 0 + 1) (aShV (cutC bs) 0)).1
  generalize aPl (cutC bs) (sShP (cutC bs) 0 + 1) (aShV (cutC bs) 0) = pl at *
  generalize aShV (cutC bs) 0 = sh at *
  have g1 := lt_of (xs := sh) (by omega)
  have g2 := lt_of (xs := pl) (by omega)
  cases hv : validS sh && isPl sh pl with
  | false =>
    simp only [offS, hv, g1, g2, Bool.and_self, cond_true, cond_false]
    rfl
  | true =>
    have hv' := hv
    rw [Bool.and_eq_true] at hv'
    obtain ⟨o1, o2⟩ := off_bd hv'.1 hv'.2
    have hp := pl_off hv'.1 hv'.2
    have hb : plB sh (offW sh pl 0) = true := by simp only [plB, hv'.1, Bool.true_and, Bool.and_eq_true, decide_eq_true_eq]; exact ⟨o1, o2⟩
    have d1 : decide (offW sh pl 0 < 0) = false := decide_eq_false (by omega)
    have d2 : decide (offW sh pl 0 < volW sh) = true := decide_eq_true o2
    simp only [Bool.and_self, Bool.and_true, Bool.true_and, cond_true, cond_false, Bool.not_true, Bool.not_false, bne_self_eq_false, beq_self_eq_true, decide_true, eq_self, offS, hv, g1, g2, d1, d2, hb, plD, hp]

end Go.Ab
