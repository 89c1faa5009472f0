import Derived.Test.YtokdoghgibahkabEp
import Derived.Test.YtokdoghgibahkabProg
import Derived.Test.YtokdoghgibahkabChecked
open Go Go.Ab Go.Proofs
set_option maxRecDepth 100000
set_option linter.unusedVariables false
set_option linter.unusedSimpArgs false
namespace Go.Ab
namespace spec_newReader
noncomputable def E : Entry := ⟨24, false, false, fun | [.d (.ints .u8 bs)] => true | _ => false, fun | [.d (.ints .u8 bs)] => ([.box [((.ints .u8 (cutC bs)), false), ((.int .i64 0), false)]], []) | _ => ([], []), fun _ => [], true, fun _ => none⟩
end spec_newReader
namespace spec_newReader
noncomputable def X : List Entry := []
noncomputable def I : List Inl := [⟨24, Try.f24, ⟨[], [], [], [], [], []⟩⟩]
theorem I_ok : ∀ i ∈ I, Try.prog.funcs[i.f]? = some i.fn ∧ (i.fn.name == "runtime.NumGoroutine") = false := by
  intro i hi
  simp only [I, List.mem_cons, List.not_mem_nil, or_false] at hi
  subst hi
  exact ⟨by kernel_rfl, by kernel_rfl⟩
theorem e (fuel : Nat) (p0 : List Int) : runF Try.prog X I 0 fuel 24 Try.f24 [.d (.ints .u8 p0)] =
  (bif (decide ((((p0.length : Nat) : Int) : Int) > 2000)) then
  (cutEnds p0.length (none) (some (.imm (.int .i64 2000)))).bind fun cq1 =>
  some ([.box [((.ints .u8 ((p0.drop cq1.1).take (cq1.2 - cq1.1))), false), ((.int .i64 0), false)]], [])
  else
  some ([.box [((.ints .u8 p0), false), ((.int .i64 0), false)]], [])) := by kernel_rfl
end spec_newReader
theorem spec_newReader.ok_of (hX : ∀ E ∈ spec_newReader.X, CallSpec Try.prog E) (h : ∀ (bs : List Int), (true) = true → ∃ fuel, runF Try.prog spec_newReader.X spec_newReader.I 0 fuel 24 Try.f24 [.d (.ints .u8 bs)] = some ([.box [((.ints .u8 (cutC bs)), false), ((.int .i64 0), false)]], [])) : CallSpec Try.prog spec_newReader.E :=
  callSpec_of (d := 0) hX (by kernel_rfl) spec_newReader.I_ok (by kernel_rfl) (by kernel_rfl) (by kernel_rfl) (fun _ _ _ _ h => by dsimp only [spec_newReader.E] at h; cases h) (fun xs hp => by
    dsimp only [spec_newReader.E] at hp ⊢
    split at hp
    · exact h _ hp
    · cases hp)
theorem spec_newReader.ok : CallSpec Try.prog spec_newReader.E := spec_newReader.ok_of (by simp [spec_newReader.X]) fun bs _ => ⟨0, by
  rw [spec_newReader.e]
  unfold cutC
  by_cases h : ((bs.length : Nat) : Int) > 2000
  · rw [decide_eq_true h]
    have : cutEnds bs.length none (some (.imm (.int .i64 2000))) = some (0, 2000) := by
      unfold cutEnds
      simp only
      rw [if_pos ⟨by omega, by omega⟩]
      rfl
    rw [this]
    rfl
  · rw [decide_eq_false h]
    rfl⟩

namespace spec_reader_pick
noncomputable def E : Entry := ⟨26, false, false, fun | [.box [(.ints .u8 bs), (.int .i64 p)], .d (.int .i64 n)] => rdOk bs p && decide ((n : Int) ≤ 1048576) | _ => false, fun | [.box [(.ints .u8 bs), (.int .i64 p)], .d (.int .i64 n)] => ([.one ((.int .i64 (pickV bs p n)), false)], [[(.ints .u8 bs), (.int .i64 (p + 1))]]) | _ => ([], []), fun _ => [], false, fun _ => none⟩
end spec_reader_pick
namespace spec_reader_pick
noncomputable def X : List Entry := []
noncomputable def I : List Inl := [⟨26, Try.f26, ⟨[], [], [], [(7, [0, 1, 2, 4, 5, 6, 7, 15, 16, 17, 19, 20, 21, 22, 23, 24, 33, 34, 36, 37, 38, 39, 3, 8, 9, 10, 11, 12, 13, 14, 18, 25, 26, 27, 28, 29, 30, 31, 32, 35, 40, 41, 42, 43, 44, 45])], [], []⟩⟩]
theorem I_ok : ∀ i ∈ I, Try.prog.funcs[i.f]? = some i.fn ∧ (i.fn.name == "runtime.NumGoroutine") = false := by
  intro i hi
  simp only [I, List.mem_cons, List.not_mem_nil, or_false] at hi
  subst hi
  exact ⟨by kernel_rfl, by kernel_rfl⟩
theorem e (fuel : Nat) (p0q0 : List Int) (p0q1 : Int) (p1 : Int) : runF Try.prog X I 0 fuel 26 Try.f26 [.box [(.ints .u8 p0q0), (.int .i64 p0q1)], .d (.int .i64 p1)] =
  (bif (decide ((p1 : Int) < 1)) then
  some ([.one ((.int .i64 0), false)], [[(.ints .u8 p0q0), (.int .i64 (IntKind.wrap .i64 (p0q1 + 1)))]])
  else
  (bif ((((p0q0.length : Nat) : Int) : Int) == 0) then
  some ([.one ((.int .i64 0), false)], [[(.ints .u8 p0q0), (.int .i64 (IntKind.wrap .i64 (p0q1 + 1)))]])
  else
  (bif (decide (((IntKind.wrap .i64 ((IntKind.wrap .i64 (p0q1 + 1)) - 1)) : Int) < ((p0q0.length : Nat) : Int))) then
  (idx (IntKind.wrap .i64 ((IntKind.wrap .i64 (p0q1 + 1)) - 1)) p0q0.length).bind fun j1 =>
  (p0q0[j1]?).bind fun v2 =>
  (bif decide ((p1 : Int) = 0) then
  none
  else
  some ([.one ((.int .i64 (Int.tmod (IntKind.wrap .i64 v2) p1)), false)], [[(.ints .u8 p0q0), (.int .i64 (IntKind.wrap .i64 (p0q1 + 1)))]]))
  else
  (bif decide ((((p0q0.length : Nat) : Int) : Int) = 0) then
  none
  else
  (idx (Int.tmod (IntKind.wrap .i64 ((IntKind.wrap .i64 (p0q1 + 1)) - 1)) ((p0q0.length : Nat) : Int)) p0q0.length).bind fun j3 =>
  (p0q0[j3]?).bind fun v4 =>
  (bif decide ((((p0q0.length : Nat) : Int) : Int) = 0) then
  none
  else
  (idx (Int.tmod (IntKind.wrap .i64 ((IntKind.wrap .i64 ((IntKind.wrap .i64 ((IntKind.wrap .i64 (p0q1 + 1)) - 1)) * 7)) + 3)) ((p0q0.length : Nat) : Int)) p0q0.length).bind fun j5 =>
  (p0q0[j5]?).bind fun v6 =>
  (bif decide ((((p0q0.length : Nat) : Int) : Int) = 0) then
  none
  else
  (bif decide ((p1 : Int) = 0) then
  none
  else
  some ([.one ((.int .i64 (Int.tmod (IntKind.wrap .i64 ((BitVec.ofInt (IntKind.bits .i64) (IntKind.wrap .i64 ((IntKind.wrap .i64 ((IntKind.wrap .i64 ((IntKind.wrap .i64 ((IntKind.wrap .i64 v4) * 131)) + (IntKind.wrap .i64 ((IntKind.wrap .i64 v6) * 1117)))) + (IntKind.wrap .i64 ((IntKind.wrap .i64 ((IntKind.wrap .i64 (p0q1 + 1)) - 1)) * 29)))) + (IntKind.wrap .i64 ((IntKind.wrap .i64 (Int.tdiv (IntKind.wrap .i64 ((IntKind.wrap .i64 (p0q1 + 1)) - 1)) ((p0q0.length : Nat) : Int))) * 53)))) ^^^ BitVec.ofInt (IntKind.bits .i64) (IntKind.wrap .i64 (Int.tdiv (IntKind.wrap .i64 ((IntKind.wrap .i64 ((IntKind.wrap .i64 ((IntKind.wrap .i64 ((IntKind.wrap .i64 v4) * 131)) + (IntKind.wrap .i64 ((IntKind.wrap .i64 v6) * 1117)))) + (IntKind.wrap .i64 ((IntKind.wrap .i64 ((IntKind.wrap .i64 (p0q1 + 1)) - 1)) * 29)))) + (IntKind.wrap .i64 ((IntKind.wrap .i64 (Int.tdiv (IntKind.wrap .i64 ((IntKind.wrap .i64 (p0q1 + 1)) - 1)) ((p0q0.length : Nat) : Int))) * 53)))) 64))).toNat : Int)) p1)), false)], [[(.ints .u8 p0q0), (.int .i64 (IntKind.wrap .i64 (p0q1 + 1)))]])))))))) := by kernel_rfl
end spec_reader_pick
theorem spec_reader_pick.ok_of (hX : ∀ E ∈ spec_reader_pick.X, CallSpec Try.prog E) (h : ∀ (bs : List Int) (p : Int) (n : Int), (rdOk bs p && decide ((n : Int) ≤ 1048576)) = true → ∃ fuel, runF Try.prog spec_reader_pick.X spec_reader_pick.I 0 fuel 26 Try.f26 [.box [(.ints .u8 bs), (.int .i64 p)], .d (.int .i64 n)] = some ([.one ((.int .i64 (pickV bs p n)), false)], [[(.ints .u8 bs), (.int .i64 (p + 1))]])) : CallSpec Try.prog spec_reader_pick.E :=
  callSpec_of (d := 0) hX (by kernel_rfl) spec_reader_pick.I_ok (by kernel_rfl) (by kernel_rfl) (by kernel_rfl) (fun _ _ _ _ h => by dsimp only [spec_reader_pick.E] at h; cases h) (fun xs hp => by
    dsimp only [spec_reader_pick.E] at hp ⊢
    split at hp
    · exact h _ _ _ hp
    · cases hp)
theorem spec_reader_pick.ok : CallSpec Try.prog spec_reader_pick.E := spec_reader_pick.ok_of (by simp [spec_reader_pick.X]) fun bs p n h => ⟨0, by
  simp only [Bool.and_eq_true, decide_eq_true_eq] at h
  obtain ⟨h0, h1, h2, h3⟩ := rdOk_inv h.1
  have hP := @wS (p + 1) (by omega) (by omega)
  have hK := @wS (p + 1 - 1) (by omega) (by omega)
  rw [show p + 1 - 1 = p by omega] at hK
  rw [spec_reader_pick.e]
  simp only [hP, show p + 1 - 1 = p by omega, hK]
  unfold pickV
  by_cases hn : n < 1
  · rw [decide_eq_true hn]; rfl
  rw [decide_eq_false hn, cond_false, cond_false]
  by_cases hL : bs.length = 0
  · rw [show (((bs.length : Nat) : Int) == 0) = true by simp [hL]]; rfl
  rw [beq0 hL, cond_false, cond_false]
  by_cases hp : p < ((bs.length : Nat) : Int)
  · have hlt : p.toNat < bs.length := by omega
    have hi : idx p bs.length = some p.toNat := by unfold idx; rw [if_pos ⟨h0, hp⟩]
    rw [decide_eq_true hp, hi, decide_eq_false (p := n = 0) (by omega)]
    simp [hlt]
  · have t1 := tmod_bd (x := p) (n := ((bs.length : Nat) : Int)) h0 (by omega)
    have e7 := @wS (p * 7) (by omega) (by omega)
    have e8 := @wS (p * 7 + 3) (by omega) (by omega)
    have t2 := tmod_bd (x := p * 7 + 3) (n := ((bs.length : Nat) : Int)) (by omega) (by omega)
    have i1 : idx (Int.tmod p ((bs.length : Nat) : Int)) bs.length = some (Int.tmod p ((bs.length : Nat) : Int)).toNat := by unfold idx; rw [if_pos t1]
    have i2 : idx (Int.tmod (p * 7 + 3) ((bs.length : Nat) : Int)) bs.length = some (Int.tmod (p * 7 + 3) ((bs.length : Nat) : Int)).toNat := by unfold idx; rw [if_pos t2]
    have g1 : (Int.tmod p ((bs.length : Nat) : Int)).toNat < bs.length := by omega
    have g2 : (Int.tmod (p * 7 + 3) ((bs.length : Nat) : Int)).toNat < bs.length := by omega
    have q1 : bs[(Int.tmod p ((bs.length : Nat) : Int)).toNat]? = some (bs.getD (Int.tmod p ((bs.length : Nat) : Int)).toNat 0) := by simp [g1]
    have q2 : bs[(Int.tmod (p * 7 + 3) ((bs.length : Nat) : Int)).toNat]? = some (bs.getD (Int.tmod (p * 7 + 3) ((bs.length : Nat) : Int)).toNat 0) := by simp [g2]
    rw [decide_eq_false hp, decide_eq_false (p := (((bs.length : Nat) : Int) = 0)) (by omega), decide_eq_false (p := n = 0) (by omega), e7, e8, i1, i2]
    simp only [cond_false, Option.bind_some, q1, q2]
    rfl⟩

namespace spec_someShape
noncomputable def E : Entry := ⟨45, false, false, fun | [.box [(.ints .u8 bs), (.int .i64 p)]] => rdOk bs p && decide ((p : Int) ≤ 2000000) | _ => false, fun | [.box [(.ints .u8 bs), (.int .i64 p)]] => ([.one ((.ints .i64 (sShV bs p)), true)], [[(.ints .u8 bs), (.int .i64 (sShP bs p))]]) | _ => ([], []), fun _ => [], false, fun _ => none⟩
end spec_someShape
namespace spec_someShape
noncomputable def X : List Entry := [spec_reader_pick.E]
noncomputable def I : List Inl := [⟨45, Try.f45, ⟨[], [], [], [], [], []⟩⟩]
theorem I_ok : ∀ i ∈ I, Try.prog.funcs[i.f]? = some i.fn ∧ (i.fn.name == "runtime.NumGoroutine") = false := by
  intro i hi
  simp only [I, List.mem_cons, List.not_mem_nil, or_false] at hi
  subst hi
  exact ⟨by kernel_rfl, by kernel_rfl⟩
theorem e (fuel : Nat) (p0q0 : List Int) (p0q1 : Int) : runF Try.prog X I 0 fuel 45 Try.f45 [.box [(.ints .u8 p0q0), (.int .i64 p0q1)]] =
  (bif rdOk p0q0 p0q1 && decide ((8 : Int) ≤ 1048576) then
  (bif (((pickV p0q0 p0q1 8) : Int) == 0) then
  some ([.one ((.ints .i64 []), true)], [[(.ints .u8 p0q0), (.int .i64 (p0q1 + 1))]])
  else
  (bif (((pickV p0q0 p0q1 8) : Int) == 1) then
  (bif rdOk p0q0 ((p0q1 + 1)) && decide ((7 : Int) ≤ 1048576) then
  some ([.one ((.ints .i64 [(pickV p0q0 ((p0q1 + 1)) 7)]), true)], [[(.ints .u8 p0q0), (.int .i64 (((p0q1 + 1)) + 1))]])
  else
  none)
  else
  (bif (((pickV p0q0 p0q1 8) : Int) == 2) then
  (bif rdOk p0q0 ((p0q1 + 1)) && decide ((7 : Int) ≤ 1048576) then
  some ([.one ((.ints .i64 [(pickV p0q0 ((p0q1 + 1)) 7)]), true)], [[(.ints .u8 p0q0), (.int .i64 (((p0q1 + 1)) + 1))]])
  else
  none)
  else
  (bif (((pickV p0q0 p0q1 8) : Int) == 3) then
  (bif rdOk p0q0 ((p0q1 + 1)) && decide ((7 : Int) ≤ 1048576) then
  some ([.one ((.ints .i64 [(pickV p0q0 ((p0q1 + 1)) 7)]), true)], [[(.ints .u8 p0q0), (.int .i64 (((p0q1 + 1)) + 1))]])
  else
  none)
  else
  (bif (((pickV p0q0 p0q1 8) : Int) == 4) then
  (bif rdOk p0q0 ((p0q1 + 1)) && decide ((5 : Int) ≤ 1048576) then
  (bif rdOk p0q0 ((((p0q1 + 1)) + 1)) && decide ((5 : Int) ≤ 1048576) then
  some ([.one ((.ints .i64 [(pickV p0q0 ((p0q1 + 1)) 5), (pickV p0q0 ((((p0q1 + 1)) + 1)) 5)]), true)], [[(.ints .u8 p0q0), (.int .i64 (((((p0q1 + 1)) + 1)) + 1))]])
  else
  none)
  else
  none)
  else
  (bif (((pickV p0q0 p0q1 8) : Int) == 5) then
  (bif rdOk p0q0 ((p0q1 + 1)) && decide ((5 : Int) ≤ 1048576) then
  (bif rdOk p0q0 ((((p0q1 + 1)) + 1)) && decide ((5 : Int) ≤ 1048576) then
  some ([.one ((.ints .i64 [(pickV p0q0 ((p0q1 + 1)) 5), (pickV p0q0 ((((p0q1 + 1)) + 1)) 5)]), true)], [[(.ints .u8 p0q0), (.int .i64 (((((p0q1 + 1)) + 1)) + 1))]])
  else
  none)
  else
  none)
  else
  (bif (((pickV p0q0 p0q1 8) : Int) == 6) then
  (bif rdOk p0q0 ((p0q1 + 1)) && decide ((5 : Int) ≤ 1048576) then
  (bif rdOk p0q0 ((((p0q1 + 1)) + 1)) && decide ((5 : Int) ≤ 1048576) then
  some ([.one ((.ints .i64 [(pickV p0q0 ((p0q1 + 1)) 5), (pickV p0q0 ((((p0q1 + 1)) + 1)) 5)]), true)], [[(.ints .u8 p0q0), (.int .i64 (((((p0q1 + 1)) + 1)) + 1))]])
  else
  none)
  else
  none)
  else
  (bif rdOk p0q0 ((p0q1 + 1)) && decide ((4 : Int) ≤ 1048576) then
  (bif rdOk p0q0 ((((p0q1 + 1)) + 1)) && decide ((4 : Int) ≤ 1048576) then
  (bif rdOk p0q0 ((((((p0q1 + 1)) + 1)) + 1)) && decide ((4 : Int) ≤ 1048576) then
  some ([.one ((.ints .i64 [(pickV p0q0 ((p0q1 + 1)) 4), (pickV p0q0 ((((p0q1 + 1)) + 1)) 4), (pickV p0q0 ((((((p0q1 + 1)) + 1)) + 1)) 4)]), true)], [[(.ints .u8 p0q0), (.int .i64 (((((((p0q1 + 1)) + 1)) + 1)) + 1))]])
  else
  none)
  else
  none)
  else
  none))))))))
  else
  none) := by kernel_rfl
end spec_someShape
theorem spec_someShape.ok_of (hX : ∀ E ∈ spec_someShape.X, CallSpec Try.prog E) (h : ∀ (bs : List Int) (p : Int), (rdOk bs p && decide ((p : Int) ≤ 2000000)) = true → ∃ fuel, runF Try.prog spec_someShape.X spec_someShape.I 0 fuel 45 Try.f45 [.box [(.ints .u8 bs), (.int .i64 p)]] = some ([.one ((.ints .i64 (sShV bs p)), true)], [[(.ints .u8 bs), (.int .i64 (sShP bs p))]])) : CallSpec Try.prog spec_someShape.E :=
  callSpec_of (d := 0) hX (by kernel_rfl) spec_someShape.I_ok (by kernel_rfl) (by kernel_rfl) (by kernel_rfl) (fun _ _ _ _ h => by dsimp only [spec_someShape.E] at h; cases h) (fun xs hp => by
    dsimp only [spec_someShape.E] at hp ⊢
    split at hp
    · exact h _ _ hp
    · cases hp)
theorem spec_someShape.ok : CallSpec Try.prog spec_someShape.E := spec_someShape.ok_of (by simp [spec_someShape.X, spec_reader_pick.ok]) fun bs p h => ⟨0, by
  simp only [Bool.and_eq_true, decide_eq_true_eq] at h
  have r0 := h.1
  have r1 := rd_le (q := p + 1) h.1 (by omega) (by omega)
  have r2 := rd_le (q := p + 1 + 1) h.1 (by omega) (by omega)
  have r3 := rd_le (q := p + 1 + 1 + 1) h.1 (by omega) (by omega)
  rw [spec_someShape.e, r0, r1, r2, r3]
  unfold sShV sShP
  cases pickV bs p 8 == 0 <;> cases pickV bs p 8 == 1 <;> cases pickV bs p 8 == 2 <;> cases pickV bs p 8 == 3 <;> cases pickV bs p 8 == 4 <;> cases pickV bs p 8 == 5 <;> cases pickV bs p 8 == 6 <;> rfl⟩

namespace spec_anyShape
noncomputable def E : Entry := ⟨25, false, false, fun | [.box [(.ints .u8 bs), (.int .i64 p)]] => rdOk bs p && decide ((p : Int) ≤ 2000000) | _ => false, fun | [.box [(.ints .u8 bs), (.int .i64 p)]] => ([.one ((.ints .i64 (aShV bs p)), true)], [[(.ints .u8 bs), (.int .i64 (sShP bs p + 1))]]) | _ => ([], []), fun _ => [], false, fun _ => none⟩
end spec_anyShape
namespace spec_anyShape
noncomputable def X : List Entry := [spec_someShape.E, spec_reader_pick.E]
noncomputable def I : List Inl := [⟨25, Try.f25, ⟨[5], [], [], [], [], []⟩⟩]
theorem I_ok : ∀ i ∈ I, Try.prog.funcs[i.f]? = some i.fn ∧ (i.fn.name == "runtime.NumGoroutine") = false := by
  intro i hi
  simp only [I, List.mem_cons, List.not_mem_nil, or_false] at hi
  subst hi
  exact ⟨by kernel_rfl, by kernel_rfl⟩
theorem e (fuel : Nat) (p0q0 : List Int) (p0q1 : Int) : runF Try.prog X I 0 fuel 25 Try.f25 [.box [(.ints .u8 p0q0), (.int .i64 p0q1)]] =
  (bif rdOk p0q0 p0q1 && decide ((p0q1 : Int) ≤ 2000000) then
  (bif rdOk p0q0 ((sShP p0q0 p0q1)) && decide ((24 : Int) ≤ 1048576) then
  (bif (((pickV p0q0 ((sShP p0q0 p0q1)) 24) : Int) == 0) then
  (bif fits ((sShV p0q0 p0q1).length + ([61] : List Int).length) 8 then
  some ([.one ((.ints .i64 ((sShV p0q0 p0q1) ++ [61])), true)], [[(.ints .u8 p0q0), (.int .i64 (((sShP p0q0 p0q1)) + 1))]])
  else
  none)
  else
  (bif (((pickV p0q0 ((sShP p0q0 p0q1)) 24) : Int) == 1) then
  some ([.one ((.ints .i64 [4, 4, 4]), true)], [[(.ints .u8 p0q0), (.int .i64 (((sShP p0q0 p0q1)) + 1))]])
  else
  (bif (((pickV p0q0 ((sShP p0q0 p0q1)) 24) : Int) == 2) then
  some ([.one ((.ints .i64 [1, 1, 1, 1]), true)], [[(.ints .u8 p0q0), (.int .i64 (((sShP p0q0 p0q1)) + 1))]])
  else
  (bif (((pickV p0q0 ((sShP p0q0 p0q1)) 24) : Int) == 3) then
  (bif fits ((sShV p0q0 p0q1).length + ([(-1)] : List Int).length) 8 then
  some ([.one ((.ints .i64 ((sShV p0q0 p0q1) ++ [(-1)])), true)], [[(.ints .u8 p0q0), (.int .i64 (((sShP p0q0 p0q1)) + 1))]])
  else
  none)
  else
  some ([.one ((.ints .i64 (sShV p0q0 p0q1)), true)], [[(.ints .u8 p0q0), (.int .i64 (((sShP p0q0 p0q1)) + 1))]])))))
  else
  none)
  else
  none) := by kernel_rfl
end spec_anyShape
theorem spec_anyShape.ok_of (hX : ∀ E ∈ spec_anyShape.X, CallSpec Try.prog E) (h : ∀ (bs : List Int) (p : Int), (rdOk bs p && decide ((p : Int) ≤ 2000000)) = true → ∃ fuel, runF Try.prog spec_anyShape.X spec_anyShape.I 0 fuel 25 Try.f25 [.box [(.ints .u8 bs), (.int .i64 p)]] = some ([.one ((.ints .i64 (aShV bs p)), true)], [[(.ints .u8 bs), (.int .i64 (sShP bs p + 1))]])) : CallSpec Try.prog spec_anyShape.E :=
  callSpec_of (d := 0) hX (by kernel_rfl) spec_anyShape.I_ok (by kernel_rfl) (by kernel_rfl) (by kernel_rfl) (fun _ _ _ _ h => by dsimp only [spec_anyShape.E] at h; cases h) (fun xs hp => by
    dsimp only [spec_anyShape.E] at hp ⊢
    split at hp
    · exact h _ _ hp
    · cases hp)
theorem spec_anyShape.ok : CallSpec Try.prog spec_anyShape.E := spec_anyShape.ok_of (by simp [spec_anyShape.X, spec_someShape.ok, spec_reader_pick.ok]) fun bs p h => ⟨0, by
  have h' := h
  simp only [Bool.and_eq_true, decide_eq_true_eq] at h'
  have b := sShP_bd bs p
  have r1 := rd_le (q := sShP bs p) h'.1 (by omega) (by omega)
  have l := (validS_inv (sShV_ok h'.1 h'.2)).1
  rw [spec_anyShape.e, h, r1, fitsOk (by simp; omega), fitsOk (by simp; omega)]
  unfold aShV
  cases pickV bs (sShP bs p) 24 == 0 <;> cases pickV bs (sShP bs p) 24 == 1 <;> cases pickV bs (sShP bs p) 24 == 2 <;> cases pickV bs (sShP bs p) 24 == 3 <;> rfl⟩

namespace spec_DrawPlaceOf
noncomputable def E : Entry := ⟨9, false, false, fun | [.d (.ints .u8 bs)] => bytesB bs | _ => false, fun | [.d (.ints .u8 bs)] => ([.one ((.ints .i64 (aShV (cutC bs) 0)), true), .one ((.int .i64 (dPn (cutC bs))), false)], []) | _ => ([], []), fun _ => [], true, fun _ => none⟩
end spec_DrawPlaceOf
namespace spec_DrawPlaceOf
noncomputable def X : List Entry := [spec_newReader.E, spec_anyShape.E, spec_reader_pick.E]
noncomputable def I : List Inl := [⟨9, Try.f9, ⟨[9], [], [], [], [], []⟩⟩]
theorem I_ok : ∀ i ∈ I, Try.prog.funcs[i.f]? = some i.fn ∧ (i.fn.name == "runtime.NumGoroutine") = false := by
  intro i hi
  simp only [I, List.mem_cons, List.not_mem_nil, or_false] at hi
  subst hi
  exact ⟨by kernel_rfl, by kernel_rfl⟩
theorem e (fuel : Nat) (p0 : List Int) : runF Try.prog X I 0 fuel 9 Try.f9 [.d (.ints .u8 p0)] =
  (bif rdOk ((cutC p0)) 0 && decide ((0 : Int) ≤ 2000000) then
  (bif rdOk (((cutC p0))) ((sShP ((cutC p0)) 0 + 1)) && decide ((26 : Int) ≤ 1048576) then
  some ([.one ((.ints .i64 (aShV ((cutC p0)) 0)), true), .one ((.int .i64 (IntKind.wrap .i64 ((pickV (((cutC p0))) ((sShP ((cutC p0)) 0 + 1)) 26) - 1))), false)], [])
  else
  none)
  else
  none) := by kernel_rfl
end spec_DrawPlaceOf
theorem spec_DrawPlaceOf.ok_of (hX : ∀ E ∈ spec_DrawPlaceOf.X, CallSpec Try.prog E) (h : ∀ (bs : List Int), (bytesB bs) = true → ∃ fuel, runF Try.prog spec_DrawPlaceOf.X spec_DrawPlaceOf.I 0 fuel 9 Try.f9 [.d (.ints .u8 bs)] = some ([.one ((.ints .i64 (aShV (cutC bs) 0)), true), .one ((.int .i64 (dPn (cutC bs))), false)], [])) : CallSpec Try.prog spec_DrawPlaceOf.E :=
  callSpec_of (d := 0) hX (by kernel_rfl) spec_DrawPlaceOf.I_ok (by kernel_rfl) (by kernel_rfl) (by kernel_rfl) (fun _ _ _ _ h => by dsimp only [spec_DrawPlaceOf.E] at h; cases h) (fun xs hp => by
    dsimp only [spec_DrawPlaceOf.E] at hp ⊢
    split at hp
    · exact h _ hp
    · cases hp)
theorem spec_DrawPlaceOf.ok : CallSpec Try.prog spec_DrawPlaceOf.E := spec_DrawPlaceOf.ok_of (by simp [spec_DrawPlaceOf.X, spec_newReader.ok, spec_anyShape.ok, spec_reader_pick.ok]) fun bs h => ⟨0, by
  have r0 := cut_ok h (p := 0) (by omega) (by omega)
  have b := sShP_bd (cutC bs) 0
  rw [spec_DrawPlaceOf.e, r0, rd_le (q := sShP (cutC bs) 0 + 1) r0 (by omega) (by omega)]
  rfl⟩

namespace impl_layoutOf
noncomputable def E : Entry := ⟨27, false, false, fun | [.d (.ints .i64 sh)] => decide (sh.length < 9223372036854775808) | _ => false, fun | [.d (.ints .i64 sh)] => ([.agg [((.ints .i64 nilI), true), ((.int .i64 0), false), ((.int .i64 0), false), ((.int .i64 0), false), ((.int .i64 0), false)], .one ((.bool false), false)], []) | _ => ([], []), fun | [.d (.ints .i64 sh)] => [(validS sh, ([.agg [((.ints .i64 sh), false), ((.int .i64 (strd sh 0)), false), ((.int .i64 (strd sh 1)), false), ((.int .i64 (strd sh 2)), false), ((.int .i64 (volW sh)), false)], .one ((.bool true), false)], []))] | _ => [], true, fun _ => none⟩
end impl_layoutOf
namespace impl_layoutOf
noncomputable def X : List Entry := []
noncomputable def I : List Inl := [⟨27, Try.f27, ⟨[], [(1000005, [1, 3, 6, 7, 8, 9, 10, 11, 12, 13, 14, 15, 16, 17, 18, 19, 20, 21, 22, 23, 24, 25, 26, 27, 28, 29, 30, 31, 32, 33, 34, 35, 36, 37, 38, 39, 40, 41, 42, 43, 44, 45, 46, 47, 48, 49])], [], [(10, [0, 2, 3, 1, 4, 5, 6, 7, 8])], [], []⟩⟩]
theorem I_ok : ∀ i ∈ I, Try.prog.funcs[i.f]? = some i.fn ∧ (i.fn.name == "runtime.NumGoroutine") = false := by
  intro i hi
  simp only [I, List.mem_cons, List.not_mem_nil, or_false] at hi
  subst hi
  exact ⟨by kernel_rfl, by kernel_rfl⟩
noncomputable abbrev L0 (fuel n : Nat) (s : St) (k : Kont) := lAt Try.prog X I fuel true 0 false 27 (bodyOf Try.f27) [1, 1, 1, 0, 1, 0] n s k
noncomputable abbrev k0  (fuel : Nat) : Kont := (kAt Try.prog X I fuel true 0 false 27 (bodyOf Try.f27) [1, 1, 1, 0, 1, 0] [] (endK Try.prog Try.f27))
noncomputable def t0 (p0 : List Int) (x0q1 : Int) (x0q7 : Int) (x0q8 : Int) (x0q9 : Int) (x0q10 : Int) : St := ⟨[(.imm (.ints .i64 p0)), .dead, (.ptr 1000000000 0 0), .dead, (.ptr 1000000001 0 0), (.imm (.int .i64 x0q1)), .dead, .dead, .dead, .dead, .dead, .dead, .dead, .dead, .dead, .dead, .dead, .dead, .dead, .dead, .dead, .dead, .dead, .dead, .dead, .dead, .dead, .dead, .dead, .dead, .dead, .dead, .dead, .dead, .dead, .dead, .dead, .dead, .dead, .dead, .dead, .dead, .dead, .dead, .dead, .dead, .dead, .dead, .dead, .dead], hOf [(1000000000, (.box [(.imm .nils), (.imm (.int .i64 0)), (.imm (.int .i64 0)), (.imm (.int .i64 0)), (.imm (.int .i64 0))])), (1000000001, (.box [(.imm (.ints .i64 p0)), (.imm (.int .i64 x0q7)), (.imm (.int .i64 x0q8)), (.imm (.int .i64 x0q9)), (.imm (.int .i64 x0q10))]))], [], []⟩
theorem e (fuel : Nat) (p0 : List Int) : runF Try.prog X I 0 fuel 27 Try.f27 [.d (.ints .i64 p0)] =
  (bif (decide ((((p0.length : Nat) : Int) : Int) > 3)) then
  some ([.agg [((.ints .i64 []), true), ((.int .i64 0), false), ((.int .i64 0), false), ((.int .i64 0), false), ((.int .i64 0), false)], .one ((.bool false), false)], [])
  else
  L0 fuel fuel (t0 p0 ((IntKind.wrap .i64 (((p0.length : Nat) : Int) - 1))) 0 0 0 1) (k0  fuel)) := by kernel_rfl
theorem s0 (fuel n0 : Nat) (p0 : List Int) (x0q1 : Int) (x0q7 : Int) (x0q8 : Int) (x0q9 : Int) (x0q10 : Int) : L0 fuel (n0 + 1) (t0 p0 x0q1 x0q7 x0q8 x0q9 x0q10) (k0  fuel) =
  (bif (decide ((x0q1 : Int) ≥ 0)) then
  (idx x0q1 p0.length).bind fun j21 =>
  (p0[j21]?).bind fun v22 =>
  (bif (decide ((v22 : Int) < 0)) then
  some ([.agg [((.ints .i64 []), true), ((.int .i64 0), false), ((.int .i64 0), false), ((.int .i64 0), false), ((.int .i64 0), false)], .one ((.bool false), false)], [])
  else
  (idx x0q1 p0.length).bind fun j23 =>
  (p0[j23]?).bind fun v24 =>
  (bif (decide ((v24 : Int) > 60)) then
  some ([.agg [((.ints .i64 []), true), ((.int .i64 0), false), ((.int .i64 0), false), ((.int .i64 0), false), ((.int .i64 0), false)], .one ((.bool false), false)], [])
  else
  (bif decide (x0q1 = ((0 : Nat) : Int)) then
  (idx x0q1 p0.length).bind fun j29 =>
  (p0[j29]?).bind fun v30 =>
  L0 fuel n0 (t0 p0 ((IntKind.wrap .i64 (x0q1 - 1))) x0q10 x0q8 x0q9 ((IntKind.wrap .i64 (x0q10 * v30)))) (k0  fuel)
  else
  (bif decide (x0q1 = ((1 : Nat) : Int)) then
  (idx x0q1 p0.length).bind fun j27 =>
  (p0[j27]?).bind fun v28 =>
  L0 fuel n0 (t0 p0 ((IntKind.wrap .i64 (x0q1 - 1))) x0q7 x0q10 x0q9 ((IntKind.wrap .i64 (x0q10 * v28)))) (k0  fuel)
  else
  (bif decide (x0q1 = ((2 : Nat) : Int)) then
  (idx x0q1 p0.length).bind fun j25 =>
  (p0[j25]?).bind fun v26 =>
  L0 fuel n0 (t0 p0 ((IntKind.wrap .i64 (x0q1 - 1))) x0q7 x0q8 x0q10 ((IntKind.wrap .i64 (x0q10 * v26)))) (k0  fuel)
  else
  none)))))
  else
  (bif (decide ((x0q10 : Int) > 60)) then
  some ([.agg [((.ints .i64 []), true), ((.int .i64 0), false), ((.int .i64 0), false), ((.int .i64 0), false), ((.int .i64 0), false)], .one ((.bool false), false)], [])
  else
  some ([.agg [((.ints .i64 p0), false), ((.int .i64 x0q7), false), ((.int .i64 x0q8), false), ((.int .i64 x0q9), false), ((.int .i64 x0q10), false)], .one ((.bool true), false)], []))) := by kernel_rfl
end impl_layoutOf
theorem impl_layoutOf.ok_of (hX : ∀ E ∈ impl_layoutOf.X, CallSpec Try.prog E) (h : ∀ (sh : List Int), (decide (sh.length < 9223372036854775808)) = true → ∃ fuel, runF Try.prog impl_layoutOf.X impl_layoutOf.I 0 fuel 27 Try.f27 [.d (.ints .i64 sh)] = some (bif validS sh then ([.agg [((.ints .i64 sh), false), ((.int .i64 (strd sh 0)), false), ((.int .i64 (strd sh 1)), false), ((.int .i64 (strd sh 2)), false), ((.int .i64 (volW sh)), false)], .one ((.bool true), false)], []) else ([.agg [((.ints .i64 nilI), true), ((.int .i64 0), false), ((.int .i64 0), false), ((.int .i64 0), false), ((.int .i64 0), false)], .one ((.bool false), false)], []))) : CallSpec Try.prog impl_layoutOf.E :=
  callSpec_of (d := 0) hX (by kernel_rfl) impl_layoutOf.I_ok (by kernel_rfl) (by kernel_rfl) (by kernel_rfl) (fun _ _ _ _ h => by dsimp only [impl_layoutOf.E] at h; cases h) (fun xs hp => by
    dsimp only [impl_layoutOf.E] at hp ⊢
    split at hp
    · exact h _ hp
    · cases hp)
theorem impl_layoutOf.bad (fuel n : Nat) (sh : List Int) (k : Nat) (v : Int) (s0 s1 s2 z : Int) (hk : k < sh.length) (hv : sh[k]? = some v) (h : ¬ (0 ≤ v ∧ v ≤ 60)) :
    impl_layoutOf.L0 fuel (n + 1) (impl_layoutOf.t0 sh (k : Int) s0 s1 s2 z) (impl_layoutOf.k0 fuel) = some ([.agg [(.ints .i64 [], true), (.int .i64 0, false), (.int .i64 0, false), (.int .i64 0, false), (.int .i64 0, false)], .one (.bool false, false)], []) := by
  rw [impl_layoutOf.s0, decide_eq_true (by omega), idx_nat hk]
  simp only [cond_true, Option.bind_some, hv]
  by_cases h0 : v < 0
  · rw [decide_eq_true h0]; rfl
  · rw [decide_eq_false h0, decide_eq_true (by omega)]; rfl
theorem impl_layoutOf.good (fuel n : Nat) (sh : List Int) (k : Nat) (v : Int) (s0 s1 s2 z : Int) (hk : k < sh.length) (hv : sh[k]? = some v) (h : 0 ≤ v ∧ v ≤ 60) (hk3 : k < 3) :
    impl_layoutOf.L0 fuel (n + 1) (impl_layoutOf.t0 sh (k : Int) s0 s1 s2 z) (impl_layoutOf.k0 fuel) =
      impl_layoutOf.L0 fuel n (impl_layoutOf.t0 sh ((k : Int) - 1) (bif k == 0 then z else s0) (bif k == 1 then z else s1) (bif k == 2 then z else s2) (IntKind.wrap .i64 (z * v))) (impl_layoutOf.k0 fuel) := by
  rw [impl_layoutOf.s0, decide_eq_true (by omega), idx_nat hk]
  simp only [cond_true, Option.bind_some, hv]
  rw [decide_eq_false (p := v < 0) (by omega), decide_eq_false (p := v > 60) (by omega), wS (x := (k : Int) - 1) (by omega) (by omega)]
  simp only [cond_false]
  match k, hk3 with
  | 0, _ => rfl
  | 1, _ => rfl
  | 2, _ => rfl
theorem impl_layoutOf.last (fuel n : Nat) (sh : List Int) (i : Int) (s0 s1 s2 z : Int) (hi : i < 0) :
    impl_layoutOf.L0 fuel (n + 1) (impl_layoutOf.t0 sh i s0 s1 s2 z) (impl_layoutOf.k0 fuel) = 
      bif decide (z ≤ 60) then some ([.agg [(.ints .i64 sh, false), (.int .i64 s0, false), (.int .i64 s1, false), (.int .i64 s2, false), (.int .i64 z, false)], .one (.bool true, false)], [])
      else some ([.agg [(.ints .i64 [], true), (.int .i64 0, false), (.int .i64 0, false), (.int .i64 0, false), (.int .i64 0, false)], .one (.bool false, false)], []) := by
  rw [impl_layoutOf.s0, decide_eq_false (by omega)]
  simp only [cond_false]
  by_cases hz : z ≤ 60
  · rw [decide_eq_true hz, decide_eq_false (by omega)]; rfl
  · rw [decide_eq_false hz, decide_eq_true (by omega)]; rfl
theorem rng_dec {v : Int} (h : 0 ≤ v ∧ v ≤ 60) : (decide (0 ≤ v) && decide (v ≤ 60)) = true := by simp [h.1, h.2]
theorem rng_bad {v : Int} (h : ¬ (0 ≤ v ∧ v ≤ 60)) : (decide (0 ≤ v) && decide (v ≤ 60)) = false := by
  cases hb : (decide (0 ≤ v) && decide (v ≤ 60)) with
  | false => rfl
  | true => simp at hb; exact absurd hb h
theorem validS1 (a : Int) : validS [a] = ((decide (0 ≤ a) && decide (a ≤ 60)) && decide (IntKind.wrap .i64 (1 * a) ≤ 60)) := by
  simp only [validS, allB_cons, allB_nil, Bool.and_true, volW, volFrom]; rfl
theorem validS2 (a b : Int) : validS [a, b] = ((decide (0 ≤ a) && decide (a ≤ 60)) && (decide (0 ≤ b) && decide (b ≤ 60)) && decide (IntKind.wrap .i64 (IntKind.wrap .i64 (1 * a) * b) ≤ 60)) := by
  simp only [validS, allB_cons, allB_nil, Bool.and_true, volW, volFrom]; rfl
theorem validS3 (a b c : Int) : validS [a, b, c] = ((decide (0 ≤ a) && decide (a ≤ 60)) && ((decide (0 ≤ b) && decide (b ≤ 60)) && (decide (0 ≤ c) && decide (c ≤ 60))) && decide (IntKind.wrap .i64 (IntKind.wrap .i64 (IntKind.wrap .i64 (1 * a) * b) * c) ≤ 60)) := by
  simp only [validS, allB_cons, allB_nil, Bool.and_true, volW, volFrom]; rfl
theorem impl_layoutOf.ok : CallSpec Try.prog impl_layoutOf.E := impl_layoutOf.ok_of (by simp [impl_layoutOf.X]) fun sh h => by
  refine ⟨5, ?_⟩
  rw [impl_layoutOf.e]
  match sh with
  | [] => rw [show decide (((([] : List Int).length : Nat) : Int) > 3) = false from rfl, cond_false, impl_layoutOf.last _ _ _ _ _ _ _ _ (by decide)]; rfl
  | [a] =>
    rw [show decide (((([a] : List Int).length : Nat) : Int) > 3) = false from rfl, cond_false, show IntKind.wrap .i64 ((([a] : List Int).length : Nat) - 1) = ((0 : Nat) : Int) from rfl, validS1]
    by_cases h1 : 0 ≤ a ∧ a ≤ 60
    · rw [impl_layoutOf.good _ _ _ _ a _ _ _ _ (by simp) rfl h1 (by omega), impl_layoutOf.last _ _ _ _ _ _ _ _ (by decide), rng_dec h1, Int.one_mul, wS (x := a) (by omega) (by omega)]
      simp only [strd, volW, volFrom, Int.one_mul, wS (x := a) (by omega) (by omega)]
      cases decide (a ≤ 60) <;> rfl
    · rw [impl_layoutOf.bad _ _ _ _ a _ _ _ _ (by simp) rfl h1, rng_bad h1]; rfl
  | [a, b] =>
    rw [show decide (((([a, b] : List Int).length : Nat) : Int) > 3) = false from rfl, cond_false, show IntKind.wrap .i64 ((([a, b] : List Int).length : Nat) - 1) = ((1 : Nat) : Int) from rfl, validS2]
    by_cases h1 : 0 ≤ b ∧ b ≤ 60
    case neg => rw [impl_layoutOf.bad _ _ _ _ b _ _ _ _ (by simp) rfl h1, rng_bad h1, Bool.and_false]; rfl
    rw [impl_layoutOf.good _ _ _ _ b _ _ _ _ (by simp) rfl h1 (by omega), show (((1 : Nat) : Int) - 1) = ((0 : Nat) : Int) from rfl]
    by_cases h2 : 0 ≤ a ∧ a ≤ 60
    case neg => rw [impl_layoutOf.bad _ _ _ _ a _ _ _ _ (by simp) rfl h2, rng_bad h2]; rfl
    have hm := mul60 h2.1 h2.2 h1.1 h1.2
    rw [impl_layoutOf.good _ _ _ _ a _ _ _ _ (by simp) rfl h2 (by omega), impl_layoutOf.last _ _ _ _ _ _ _ _ (by decide), rng_dec h1, rng_dec h2, Int.one_mul, Int.one_mul, wS (x := a) (by omega) (by omega), wS (x := b) (by omega) (by omega), Int.mul_comm b a, wS (x := a * b) (by omega) (by omega)]
    simp only [strd, volW, volFrom, Int.one_mul, wS (x := a) (by omega) (by omega), wS (x := b) (by omega) (by omega), wS (x := a * b) (by omega) (by omega), List.drop_succ_cons, List.drop_zero]
    cases decide (a * b ≤ 60) <;> rfl
  | [a, b, c] =>
    rw [show decide (((([a, b, c] : List Int).length : Nat) : Int) > 3) = false from rfl, cond_false, show IntKind.wrap .i64 ((([a, b, c] : List Int).length : Nat) - 1) = ((2 : Nat) : Int) from rfl, validS3]
    by_cases h0 : 0 ≤ c ∧ c ≤ 60
    case neg => rw [impl_layoutOf.bad _ _ _ _ c _ _ _ _ (by simp) rfl h0, rng_bad h0, Bool.and_false, Bool.and_false]; rfl
    rw [impl_layoutOf.good _ _ _ _ c _ _ _ _ (by simp) rfl h0 (by omega), show (((2 : Nat) : Int) - 1) = ((1 : Nat) : Int) from rfl]
    by_cases h1 : 0 ≤ b ∧ b ≤ 60
    case neg => rw [impl_layoutOf.bad _ _ _ _ b _ _ _ _ (by simp) rfl h1, rng_bad h1, Bool.false_and, Bool.and_false]; rfl
    rw [impl_layoutOf.good _ _ _ _ b _ _ _ _ (by simp) rfl h1 (by omega), show (((1 : Nat) : Int) - 1) = ((0 : Nat) : Int) from rfl]
    by_cases h2 : 0 ≤ a ∧ a ≤ 60
    case neg => rw [impl_layoutOf.bad _ _ _ _ a _ _ _ _ (by simp) rfl h2, rng_bad h2]; rfl
    have hm := mul60 h2.1 h2.2 h1.1 h1.2
    have hm1 := mul60 h1.1 h1.2 h0.1 h0.2
    have hm3 := mul3600 hm.1 hm.2 h0.1 h0.2
    have hc : b * c * a = a * b * c := by rw [Int.mul_comm (b * c) a, Int.mul_assoc]
    rw [impl_layoutOf.good _ _ _ _ a _ _ _ _ (by simp) rfl h2 (by omega), impl_layoutOf.last _ _ _ _ _ _ _ _ (by decide), rng_dec h0, rng_dec h1, rng_dec h2, Int.one_mul, Int.one_mul, wS (x := a) (by omega) (by omega), wS (x := c) (by omega) (by omega), Int.mul_comm c b, wS (x := a * b) (by omega) (by omega), wS (x := b * c) (by omega) (by omega), hc, wS (x := a * b * c) (by omega) (by omega)]
    simp only [strd, volW, volFrom, Int.one_mul, wS (x := a) (by omega) (by omega), wS (x := b) (by omega) (by omega), wS (x := c) (by omega) (by omega), wS (x := a * b) (by omega) (by omega), wS (x := b * c) (by omega) (by omega), wS (x := a * b * c) (by omega) (by omega), List.drop_succ_cons, List.drop_zero]
    cases decide (a * b * c ≤ 60) <;> rfl
  | a :: b :: c :: d :: t =>
    have h1 : ((((a :: b :: c :: d :: t).length : Nat) : Int) > 3) := by simp; omega
    have h2 : ¬ ((((a :: b :: c :: d :: t).length : Nat) : Int) ≤ 3) := by omega
    have h3 : validS (a :: b :: c :: d :: t) = false := by unfold validS; rw [decide_eq_false h2]; rfl
    rw [decide_eq_true h1, h3]
    rfl

namespace impl_PlaceOf
noncomputable def E : Entry := ⟨10, false, false, fun | [.d (.ints .i64 sh), .d (.int .i64 n)] => decide (sh.length < 9223372036854775808) | _ => false, fun | [.d (.ints .i64 sh), .d (.int .i64 n)] => ([.one ((.ints .i64 (plD sh n)), true), .one ((.bool (plB sh n)), false)], []) | _ => ([], []), fun _ => [], true, fun _ => none⟩
end impl_PlaceOf
namespace impl_PlaceOf
noncomputable def X : List Entry := [impl_layoutOf.E]
noncomputable def I : List Inl := [⟨10, Try.f10, ⟨[10, 28], [(4, [0, 2, 3, 4, 5, 7, 8, 9, 10, 11, 12, 13, 14, 15, 16, 17, 18, 19, 20, 21, 22, 23, 24, 25, 26, 27, 28])], [], [], [], []⟩⟩, ⟨29, Try.f29, ⟨[], [], [(1, [2, 3])], [], [], []⟩⟩, ⟨28, Try.f28, ⟨[4], [(1, [1, 2, 3, 4])], [], [], [], []⟩⟩, ⟨46, Try.f46, ⟨[2], [], [], [], [], []⟩⟩, ⟨47, Try.f47, ⟨[], [(1000001, [3, 4, 5, 6, 10, 11, 12, 13, 14, 15, 16, 17, 18, 19, 20, 21, 22, 23, 24, 25])], [], [(3, [0, 2, 3, 7, 1, 4, 5, 6, 8, 9, 10])], [], [23]⟩⟩]
theorem I_ok : ∀ i ∈ I, Try.prog.funcs[i.f]? = some i.fn ∧ (i.fn.name == "runtime.NumGoroutine") = false := by
  intro i hi
  simp only [I, List.mem_cons, List.not_mem_nil, or_false] at hi
  rcases hi with rfl | rfl | rfl | rfl | rfl
  all_goals exact ⟨by kernel_rfl, by kernel_rfl⟩
noncomputable abbrev L0 (fuel n : Nat) (s : St) (k : Kont) := lAt Try.prog X I fuel true 1 false 47 (bodyOf Try.f47) [1, 0] n s k
noncomputable abbrev k0  (fuel : Nat) : Kont := (kAt Try.prog X I fuel true 1 false 47 (bodyOf Try.f47) [1, 0] [] (endFn Try.prog Try.f47 13 (kRange (kAt Try.prog X I fuel true 2 false 46 (bodyOf Try.f46) [1, 0, 1, 0] [] (endFn Try.prog Try.f46 5 (kOp Try.prog X I fuel true 3 28 (cAt (bodyOf Try.f28) [1, 0]) 1 (kAt Try.prog X I fuel true 3 false 28 (bodyOf Try.f28) [1, 0] [] (endFn Try.prog Try.f28 29 (kOp Try.prog X I fuel true 4 10 (cAt (bodyOf Try.f10) [1, 1, 1, 0]) 3 (kAt Try.prog X I fuel true 4 false 10 (bodyOf Try.f10) [1, 1, 1, 0] [] (endK Try.prog Try.f10)))))))))))
noncomputable def t0 (p0 : List Int) (p1 : Int) (x0q8 : Int) (x0q26 : List Int) : St := ⟨[(.yld 1000000002), (.imm (.pbox [(.ints .i64 p0), (.int .i64 (strd p0 0)), (.int .i64 (strd p0 1)), (.int .i64 (strd p0 2)), (.int .i64 (volW p0))])), (.imm (.pbox [(.int .i64 p1)])), .dead, .dead, .dead, .dead, (.imm (.ints .i64 p0)), (.imm (.int .i64 ((p0.length : Nat) : Int))), (.imm (.int .i64 x0q8)), .dead, .dead, .dead, .dead, .dead, .dead, .dead, .dead, .dead, .dead, .dead, .dead, .dead, .dead, .dead, .dead], hOf [(1000000000, .dfr), (1000000001, (.box [(.imm (.ints .i64 p0)), (.imm (.int .i64 (strd p0 0))), (.imm (.int .i64 (strd p0 1))), (.imm (.int .i64 (strd p0 2))), (.imm (.int .i64 (volW p0)))])), (1000000002, (.loop 46 [(.imm .nils), (.imm (.clo 47 [(.pbox [(.ints .i64 p0), (.int .i64 (strd p0 0)), (.int .i64 (strd p0 1)), (.int .i64 (strd p0 2)), (.int .i64 (volW p0))]), (.pbox [(.int .i64 p1)])])), (.ptr 1000000003 0 0), .undef, (.imm .nils), .undef, (.imm (.clo 47 [(.pbox [(.ints .i64 p0), (.int .i64 (strd p0 0)), (.int .i64 (strd p0 1)), (.int .i64 (strd p0 2)), (.int .i64 (volW p0))]), (.pbox [(.int .i64 p1)])])), .undef, .undef, .undef, .undef, .undef, .undef] [7] (cAt (bodyOf Try.f46) [1, 0, 1, 0, 0]) (cAt (bodyOf Try.f46) [1, 0, 1, 0, 1]) .ready)), (1000000003, (.box [(.all 1000000004 1)])), (1000000004, (.ints .i64 x0q26))], [(.imm .nils), (.imm (.clo 47 [(.pbox [(.ints .i64 p0), (.int .i64 (strd p0 0)), (.int .i64 (strd p0 1)), (.int .i64 (strd p0 2)), (.int .i64 (volW p0))]), (.pbox [(.int .i64 p1)])])), (.ptr 1000000003 0 0), .undef, (.imm .nils), .undef, (.imm (.clo 47 [(.pbox [(.ints .i64 p0), (.int .i64 (strd p0 0)), (.int .i64 (strd p0 1)), (.int .i64 (strd p0 2)), (.int .i64 (volW p0))]), (.pbox [(.int .i64 p1)])])), .undef, .undef, .undef, .undef, .undef, .undef, (.tup [(.dfr 1000000000)]), (.yld 1000000002), (.imm (.clo 47 [(.pbox [(.ints .i64 p0), (.int .i64 (strd p0 0)), (.int .i64 (strd p0 1)), (.int .i64 (strd p0 2)), (.int .i64 (volW p0))]), (.pbox [(.int .i64 p1)])])), .dead, .dead, (.imm (.clo 47 [(.pbox [(.ints .i64 p0), (.int .i64 (strd p0 0)), (.int .i64 (strd p0 1)), (.int .i64 (strd p0 2)), (.int .i64 (volW p0))]), (.pbox [(.int .i64 p1)])])), .dead, (.tup []), .dead, (.imm (.int .i64 p1)), .dead, .dead, .dead, .dead, (.ptr 1000000001 0 0), .dead, .dead, .dead, .dead, .dead, .dead, .dead, .dead, .dead, .dead, .dead, .dead, .dead, .dead, .dead, .dead, .dead, .dead, (.agg [(.imm (.ints .i64 p0)), (.imm (.int .i64 (strd p0 0))), (.imm (.int .i64 (strd p0 1))), (.imm (.int .i64 (strd p0 2))), (.imm (.int .i64 (volW p0)))]), (.imm (.int .i64 p1)), (.imm (.clo 47 [(.pbox [(.ints .i64 p0), (.int .i64 (strd p0 0)), (.int .i64 (strd p0 1)), (.int .i64 (strd p0 2)), (.int .i64 (volW p0))]), (.pbox [(.int .i64 p1)])])), .dead, (.tup [])], []⟩
theorem e (fuel : Nat) (p0 : List Int) (p1 : Int) : runF Try.prog X I 4 fuel 10 Try.f10 [.d (.ints .i64 p0), .d (.int .i64 p1)] =
  (bif decide (p0.length < 9223372036854775808) then
  (bif validS p0 then
  (bif (decide ((p1 : Int) < 0)) then
  some ([.one ((.ints .i64 []), true), .one ((.bool false), false)], [])
  else
  (bif (decide ((p1 : Int) ≥ (volW p0))) then
  some ([.one ((.ints .i64 []), true), .one ((.bool false), false)], [])
  else
  L0 fuel fuel (t0 p0 p1 0 ([])) (k0  fuel)))
  else
  some ([.one ((.ints .i64 []), true), .one ((.bool false), false)], []))
  else
  none) := by kernel_rfl
theorem s0 (fuel n0 : Nat) (p0 : List Int) (p1 : Int) (x0q8 : Int) (x0q26 : List Int) : L0 fuel (n0 + 1) (t0 p0 p1 x0q8 x0q26) (k0  fuel) =
  (bif (decide ((x0q8 : Int) < ((p0.length : Nat) : Int))) then
  (idx x0q8 p0.length).bind fun j5 =>
  (p0[j5]?).bind fun v6 =>
  (bif decide (x0q8 = ((0 : Nat) : Int)) then
  (bif decide (((strd p0 0) : Int) = 0) then
  none
  else
  (bif decide ((v6 : Int) = 0) then
  none
  else
  (bif fits (x0q26.length + ([(Int.tmod (IntKind.wrap .i64 (Int.tdiv p1 (strd p0 0))) v6)] : List Int).length) 8 then
  L0 fuel n0 (t0 p0 p1 ((IntKind.wrap .i64 (x0q8 + 1))) ((x0q26 ++ [(Int.tmod (IntKind.wrap .i64 (Int.tdiv p1 (strd p0 0))) v6)]))) (k0  fuel)
  else
  none)))
  else
  (bif decide (x0q8 = ((1 : Nat) : Int)) then
  (bif decide (((strd p0 1) : Int) = 0) then
  none
  else
  (bif decide ((v6 : Int) = 0) then
  none
  else
  (bif fits (x0q26.length + ([(Int.tmod (IntKind.wrap .i64 (Int.tdiv p1 (strd p0 1))) v6)] : List Int).length) 8 then
  L0 fuel n0 (t0 p0 p1 ((IntKind.wrap .i64 (x0q8 + 1))) ((x0q26 ++ [(Int.tmod (IntKind.wrap .i64 (Int.tdiv p1 (strd p0 1))) v6)]))) (k0  fuel)
  else
  none)))
  else
  (bif decide (x0q8 = ((2 : Nat) : Int)) then
  (bif decide (((strd p0 2) : Int) = 0) then
  none
  else
  (bif decide ((v6 : Int) = 0) then
  none
  else
  (bif fits (x0q26.length + ([(Int.tmod (IntKind.wrap .i64 (Int.tdiv p1 (strd p0 2))) v6)] : List Int).length) 8 then
  L0 fuel n0 (t0 p0 p1 ((IntKind.wrap .i64 (x0q8 + 1))) ((x0q26 ++ [(Int.tmod (IntKind.wrap .i64 (Int.tdiv p1 (strd p0 2))) v6)]))) (k0  fuel)
  else
  none)))
  else
  none)))
  else
  some ([.one ((.ints .i64 x0q26), true), .one ((.bool true), false)], [])) := by kernel_rfl
end impl_PlaceOf
theorem impl_PlaceOf.ok_of (hX : ∀ E ∈ impl_PlaceOf.X, CallSpec Try.prog E) (h : ∀ (sh : List Int) (n : Int), (decide (sh.length < 9223372036854775808)) = true → ∃ fuel, runF Try.prog impl_PlaceOf.X impl_PlaceOf.I 4 fuel 10 Try.f10 [.d (.ints .i64 sh), .d (.int .i64 n)] = some ([.one ((.ints .i64 (plD sh n)), true), .one ((.bool (plB sh n)), false)], [])) : CallSpec Try.prog impl_PlaceOf.E :=
  callSpec_of (d := 4) hX (by kernel_rfl) impl_PlaceOf.I_ok (by kernel_rfl) (by kernel_rfl) (by kernel_rfl) (fun _ _ _ _ h => by dsimp only [impl_PlaceOf.E] at h; cases h) (fun xs hp => by
    dsimp only [impl_PlaceOf.E] at hp ⊢
    split at hp
    · exact h _ _ hp
    · cases hp)
theorem impl_PlaceOf.loop (fuel : Nat) (sh : List Int) (n : Nat) (hv : validS sh = true) (hn : n < prodN sh) (h60 : prodN sh ≤ 60) (hf : 3 < fuel) :
    impl_PlaceOf.L0 fuel fuel (impl_PlaceOf.t0 sh (n : Int) 0 []) (impl_PlaceOf.k0 fuel) = some ([.one ((.ints .i64 (plN sh n)), true), .one ((.bool true), false)], []) := by
  have hr := (validS_inv hv).1
  refine run_loop (N := sh.length) (fun f j out => impl_PlaceOf.L0 fuel f (impl_PlaceOf.t0 sh (n : Int) (j : Int) out) (impl_PlaceOf.k0 fuel)) (fun j out => out = tab j fun k => ((n / behN sh k % lenN sh k : Nat) : Int)) ?_ ?_ fuel 0 [] (by omega) (by omega) rfl
  · intro f out ho
    change out = plN sh n at ho
    rw [impl_PlaceOf.s0, dge (by omega), ho]
    rfl
  · intro f k out hk ho
    have ax := ax_of hv hk
    have hl : out.length = k := by rw [ho, tab_length]
    obtain ⟨p1, p2, _⟩ := pl_pos hn hk
    have hst := strd_beh ax
    have hdl : n / behN sh k ≤ n := Nat.div_le_self _ _
    have hfit : fits (out.length + [((n / behN sh k % lenN sh k : Nat) : Int)].length) 8 = true := fitsOk (by simp only [List.length_cons, List.length_nil]; omega)
    rw [impl_PlaceOf.s0, dlt hk, cond_true, idx_nat hk]
    simp only [Option.bind_some, getD_get hk, ax.len]
    have key : ∀ m, m = strd sh k → (bif decide ((m : Int) = 0) then none else (bif decide (((lenN sh k : Nat) : Int) = 0) then none else (bif fits (out.length + ([(Int.tmod (IntKind.wrap .i64 (Int.tdiv (n : Int) m)) ((lenN sh k : Nat) : Int))] : List Int).length) 8 then impl_PlaceOf.L0 fuel f (impl_PlaceOf.t0 sh (n : Int) ((IntKind.wrap .i64 ((k : Int) + 1))) ((out ++ [(Int.tmod (IntKind.wrap .i64 (Int.tdiv (n : Int) m)) ((lenN sh k : Nat) : Int))]))) (impl_PlaceOf.k0 fuel) else none))) =
        impl_PlaceOf.L0 fuel f (impl_PlaceOf.t0 sh (n : Int) ((k + 1 : Nat) : Int) (tab (k + 1) fun k => ((n / behN sh k % lenN sh k : Nat) : Int))) (impl_PlaceOf.k0 fuel) := by
      rintro m rfl
      rw [hst, decide_eq_false (by omega), decide_eq_false (by omega), tdivN, wN (by omega), tmodN, hfit, w1 (by omega), tab_succ, ho]
      rfl
    refine ⟨_, rfl, ?_⟩
    match k, key with
    | 0, key => rw [decide_eq_true (p := ((0 : Nat) : Int) = ((0 : Nat) : Int)) rfl, cond_true]; exact key _ rfl
    | 1, key => rw [decide_eq_false (p := ((1 : Nat) : Int) = ((0 : Nat) : Int)) (by omega), cond_false, decide_eq_true (p := ((1 : Nat) : Int) = ((1 : Nat) : Int)) rfl, cond_true]; exact key _ rfl
    | 2, key => rw [decide_eq_false (p := ((2 : Nat) : Int) = ((0 : Nat) : Int)) (by omega), cond_false, decide_eq_false (p := ((2 : Nat) : Int) = ((1 : Nat) : Int)) (by omega), cond_false, decide_eq_true (p := ((2 : Nat) : Int) = ((2 : Nat) : Int)) rfl, cond_true]; exact key _ rfl
    | k + 3, _ => omega
theorem impl_PlaceOf.ok : CallSpec Try.prog impl_PlaceOf.E := impl_PlaceOf.ok_of (by simp [impl_PlaceOf.X, impl_layoutOf.ok]) fun sh n h => ⟨4, by
  rw [impl_PlaceOf.e, h]
  unfold plD
  cases hv : validS sh with
  | false => simp only [plB, hv]; rfl
  | true =>
    by_cases h0 : n < 0
    · rw [decide_eq_true h0, show plB sh n = false by simp only [plB, decide_eq_false (show ¬ 0 ≤ n by omega), Bool.and_false, Bool.false_and]]; rfl
    by_cases h1 : n ≥ volW sh
    · rw [decide_eq_false h0, decide_eq_true h1, show plB sh n = false by simp only [plB, decide_eq_false (show ¬ n < volW sh by omega), Bool.and_false]]; rfl
    have hb : plB sh n = true := by simp only [plB, hv, decide_eq_true (show 0 ≤ n by omega), decide_eq_true (show n < volW sh by omega), Bool.and_self]
    rw [decide_eq_false h0, decide_eq_false h1, hb]
    obtain ⟨j, rfl, _, hj, _, h60⟩ := plB_inv hb
    exact impl_PlaceOf.loop 4 sh j hv hj h60 (by omega)⟩

namespace spec_inRange
noncomputable def E : Entry := ⟨31, true, false, fun | [.d (.int .i64 v), .d (.int .i64 lo), .d (.int .i64 hi)] => true | _ => false, fun | [.d (.int .i64 v), .d (.int .i64 lo), .d (.int .i64 hi)] => ([.one ((.bool (decide (lo ≤ v) && decide (v ≤ hi))), false)], []) | _ => ([], []), fun _ => [], false, fun _ => none⟩
end spec_inRange
namespace spec_inRange
noncomputable def X : List Entry := []
noncomputable def I : List Inl := [⟨31, Try.f31, ⟨[], [], [], [], [], []⟩⟩]
theorem I_ok : ∀ i ∈ I, Try.prog.funcs[i.f]? = some i.fn ∧ (i.fn.name == "runtime.NumGoroutine") = false := by
  intro i hi
  simp only [I, List.mem_cons, List.not_mem_nil, or_false] at hi
  subst hi
  exact ⟨by kernel_rfl, by kernel_rfl⟩
theorem e (fuel : Nat) (p0 : Int) (p1 : Int) (p2 : Int) : runF Try.prog X I 0 fuel 31 Try.f31 [.d (.int .i64 p0), .d (.int .i64 p1), .d (.int .i64 p2)] =
  (bif (decide ((p1 : Int) ≤ p0)) then
  some ([.one ((.bool (decide ((p0 : Int) ≤ p2))), false)], [])
  else
  some ([.one ((.bool false), false)], [])) := by kernel_rfl
end spec_inRange
theorem spec_inRange.ok_of (hX : ∀ E ∈ spec_inRange.X, CallSpec Try.prog E) (h : ∀ (v : Int) (lo : Int) (hi : Int), (true) = true → ∃ fuel, runF Try.prog spec_inRange.X spec_inRange.I 0 fuel 31 Try.f31 [.d (.int .i64 v), .d (.int .i64 lo), .d (.int .i64 hi)] = some ([.one ((.bool (decide (lo ≤ v) && decide (v ≤ hi))), false)], [])) : CallSpec Try.prog spec_inRange.E :=
  callSpec_of (d := 0) hX (by kernel_rfl) spec_inRange.I_ok (by kernel_rfl) (by kernel_rfl) (by kernel_rfl) (fun _ _ _ _ h => by dsimp only [spec_inRange.E] at h; cases h) (fun xs hp => by
    dsimp only [spec_inRange.E] at hp ⊢
    split at hp
    · exact h _ _ _ hp
    · cases hp)
theorem spec_inRange.ok : CallSpec Try.prog spec_inRange.E := spec_inRange.ok_of (by simp [spec_inRange.X]) fun v lo hi _ => ⟨0, by
  rw [spec_inRange.e]
  cases decide (lo ≤ v) <;> rfl⟩

namespace spec_allIn
noncomputable def E : Entry := ⟨48, true, false, fun | [.d (.ints .i64 xs), .d (.int .i64 lo), .d (.int .i64 hi)] => decide (xs.length < 9223372036854775808) | _ => false, fun | [.d (.ints .i64 xs), .d (.int .i64 lo), .d (.int .i64 hi)] => ([.one ((.bool (allB xs lo hi)), false)], []) | _ => ([], []), fun _ => [], false, fun _ => none⟩
end spec_allIn
namespace spec_allIn
noncomputable def X : List Entry := [spec_inRange.E]
noncomputable def I : List Inl := [⟨48, Try.f48, ⟨[], [(1000002, [3, 4, 5, 6, 8, 9, 10, 11, 12, 13, 14, 15, 16, 17, 18, 19, 20, 21])], [], [], [], []⟩⟩]
theorem I_ok : ∀ i ∈ I, Try.prog.funcs[i.f]? = some i.fn ∧ (i.fn.name == "runtime.NumGoroutine") = false := by
  intro i hi
  simp only [I, List.mem_cons, List.not_mem_nil, or_false] at hi
  subst hi
  exact ⟨by kernel_rfl, by kernel_rfl⟩
noncomputable abbrev L0 (fuel n : Nat) (s : St) (k : Kont) := lAt Try.prog X I fuel true 0 false 48 (bodyOf Try.f48) [1, 0, 1, 0] n s k
noncomputable abbrev k0  (fuel : Nat) : Kont := (kAt Try.prog X I fuel true 0 false 48 (bodyOf Try.f48) [1, 0, 1, 0] [] (endK Try.prog Try.f48))
noncomputable def t0 (p0 : List Int) (p1 : Int) (p2 : Int) (x0q3 : Int) : St := ⟨[(.imm (.ints .i64 p0)), (.imm (.int .i64 p1)), (.imm (.int .i64 p2)), .dead, .dead, .dead, .dead, (.imm (.int .i64 x0q3)), .dead, .dead, .dead, .dead, .dead, .dead, .dead, .dead, .dead, .dead, .dead, .dead, .dead, .dead], hOf [], [], []⟩
theorem e (fuel : Nat) (p0 : List Int) (p1 : Int) (p2 : Int) : runF Try.prog X I 0 fuel 48 Try.f48 [.d (.ints .i64 p0), .d (.int .i64 p1), .d (.int .i64 p2)] =
  L0 fuel fuel (t0 p0 p1 p2 0) (k0  fuel) := by kernel_rfl
theorem s0 (fuel n0 : Nat) (p0 : List Int) (p1 : Int) (p2 : Int) (x0q3 : Int) : L0 fuel (n0 + 1) (t0 p0 p1 p2 x0q3) (k0  fuel) =
  (bif (decide ((x0q3 : Int) < ((p0.length : Nat) : Int))) then
  (idx x0q3 p0.length).bind fun j5 =>
  (p0[j5]?).bind fun v6 =>
  (bif (!(decide (p1 ≤ v6) && decide (v6 ≤ p2))) then
  some ([.one ((.bool false), false)], [])
  else
  L0 fuel n0 (t0 p0 p1 p2 ((IntKind.wrap .i64 (x0q3 + 1)))) (k0  fuel))
  else
  some ([.one ((.bool true), false)], [])) := by kernel_rfl
end spec_allIn
theorem spec_allIn.ok_of (hX : ∀ E ∈ spec_allIn.X, CallSpec Try.prog E) (h : ∀ (xs : List Int) (lo : Int) (hi : Int), (decide (xs.length < 9223372036854775808)) = true → ∃ fuel, runF Try.prog spec_allIn.X spec_allIn.I 0 fuel 48 Try.f48 [.d (.ints .i64 xs), .d (.int .i64 lo), .d (.int .i64 hi)] = some ([.one ((.bool (allB xs lo hi)), false)], [])) : CallSpec Try.prog spec_allIn.E :=
  callSpec_of (d := 0) hX (by kernel_rfl) spec_allIn.I_ok (by kernel_rfl) (by kernel_rfl) (by kernel_rfl) (fun _ _ _ _ h => by dsimp only [spec_allIn.E] at h; cases h) (fun xs hp => by
    dsimp only [spec_allIn.E] at hp ⊢
    split at hp
    · exact h _ _ _ hp
    · cases hp)
theorem spec_allIn.loop (fuel : Nat) (xs : List Int) (lo hi : Int) (hx : xs.length < 9223372036854775808) : ∀ (m n j : Nat), xs.length - j = m → m < n → j ≤ xs.length →
    spec_allIn.L0 fuel n (spec_allIn.t0 xs lo hi (j : Int)) (spec_allIn.k0 fuel) = some ([.one (.bool (allB (xs.drop j) lo hi), false)], []) := by
  intro m
  induction m with
  | zero =>
    intro n j h1 h2 h3
    obtain ⟨n, rfl⟩ : ∃ n', n = n' + 1 := ⟨n - 1, by omega⟩
    have hj : ¬ j < xs.length := by omega
    rw [spec_allIn.s0, dge hj, dropE hj]
    rfl
  | succ m ih =>
    intro n j h1 h2 h3
    obtain ⟨n, rfl⟩ : ∃ n', n = n' + 1 := ⟨n - 1, by omega⟩
    have hj : j < xs.length := by omega
    rw [spec_allIn.s0, dlt hj, idx_nat hj, w1 (by omega), dropS hj]
    simp only [cond_true, Option.bind_some, getS hj, allB_cons]
    rw [ih n (j + 1) (by omega) (by omega) (by omega)]
    cases decide (lo ≤ xs[j]) && decide (xs[j] ≤ hi) <;> rfl

theorem spec_allIn.ok : CallSpec Try.prog spec_allIn.E := spec_allIn.ok_of (by simp [spec_allIn.X, spec_inRange.ok]) fun xs lo hi h => by
  simp only [decide_eq_true_eq] at h
  refine ⟨xs.length + 1, ?_⟩
  rw [spec_allIn.e]
  exact spec_allIn.loop (xs.length + 1) xs lo hi h xs.length (xs.length + 1) 0 (by omega) (by omega) (by omega)

namespace spec_volume
noncomputable def E : Entry := ⟨32, true, false, fun | [.d (.ints .i64 xs)] => decide (xs.length < 9223372036854775808) | _ => false, fun | [.d (.ints .i64 xs)] => ([.one ((.int .i64 (volW xs)), false)], []) | _ => ([], []), fun _ => [], false, fun _ => none⟩
end spec_volume
namespace spec_volume
noncomputable def X : List Entry := []
noncomputable def I : List Inl := [⟨32, Try.f32, ⟨[], [(1000003, [1, 2, 5, 6, 7, 8, 9, 10, 11, 12, 13, 14, 15, 16, 17])], [], [], [], []⟩⟩]
theorem I_ok : ∀ i ∈ I, Try.prog.funcs[i.f]? = some i.fn ∧ (i.fn.name == "runtime.NumGoroutine") = false := by
  intro i hi
  simp only [I, List.mem_cons, List.not_mem_nil, or_false] at hi
  subst hi
  exact ⟨by kernel_rfl, by kernel_rfl⟩
noncomputable abbrev L0 (fuel n : Nat) (s : St) (k : Kont) := lAt Try.prog X I fuel true 0 false 32 (bodyOf Try.f32) [1, 1, 0, 1, 0] n s k
noncomputable abbrev k0  (fuel : Nat) : Kont := (kAt Try.prog X I fuel true 0 false 32 (bodyOf Try.f32) [1, 1, 0, 1, 0] [] (endK Try.prog Try.f32))
noncomputable def t0 (p0 : List Int) (x0q1 : Int) (x0q2 : Int) : St := ⟨[(.imm (.ints .i64 p0)), .dead, .dead, (.imm (.int .i64 x0q1)), (.imm (.int .i64 x0q2)), .dead, .dead, .dead, .dead, .dead, .dead, .dead, .dead, .dead, .dead, .dead, .dead, .dead], hOf [], [], []⟩
theorem e (fuel : Nat) (p0 : List Int) : runF Try.prog X I 0 fuel 32 Try.f32 [.d (.ints .i64 p0)] =
  L0 fuel fuel (t0 p0 1 0) (k0  fuel) := by kernel_rfl
theorem s0 (fuel n0 : Nat) (p0 : List Int) (x0q1 : Int) (x0q2 : Int) : L0 fuel (n0 + 1) (t0 p0 x0q1 x0q2) (k0  fuel) =
  (bif (decide ((x0q2 : Int) < ((p0.length : Nat) : Int))) then
  (idx x0q2 p0.length).bind fun j5 =>
  (p0[j5]?).bind fun v6 =>
  L0 fuel n0 (t0 p0 ((IntKind.wrap .i64 (x0q1 * v6))) ((IntKind.wrap .i64 (x0q2 + 1)))) (k0  fuel)
  else
  some ([.one ((.int .i64 x0q1), false)], [])) := by kernel_rfl
end spec_volume
theorem spec_volume.ok_of (hX : ∀ E ∈ spec_volume.X, CallSpec Try.prog E) (h : ∀ (xs : List Int), (decide (xs.length < 9223372036854775808)) = true → ∃ fuel, runF Try.prog spec_volume.X spec_volume.I 0 fuel 32 Try.f32 [.d (.ints .i64 xs)] = some ([.one ((.int .i64 (volW xs)), false)], [])) : CallSpec Try.prog spec_volume.E :=
  callSpec_of (d := 0) hX (by kernel_rfl) spec_volume.I_ok (by kernel_rfl) (by kernel_rfl) (by kernel_rfl) (fun _ _ _ _ h => by dsimp only [spec_volume.E] at h; cases h) (fun xs hp => by
    dsimp only [spec_volume.E] at hp ⊢
    split at hp
    · exact h _ hp
    · cases hp)
theorem spec_volume.loop (fuel : Nat) (xs : List Int) (hx : xs.length < 9223372036854775808) : ∀ (m n j : Nat) (a : Int), xs.length - j = m → m < n → j ≤ xs.length →
    spec_volume.L0 fuel n (spec_volume.t0 xs a (j : Int)) (spec_volume.k0 fuel) = some ([.one (.int .i64 (volFrom (xs.drop j) a), false)], []) := by
  intro m
  induction m with
  | zero =>
    intro n j a h1 h2 h3
    obtain ⟨n, rfl⟩ : ∃ n', n = n' + 1 := ⟨n - 1, by omega⟩
    have hj : ¬ j < xs.length := by omega
    rw [spec_volume.s0, dge hj, dropE hj]
    rfl
  | succ m ih =>
    intro n j a h1 h2 h3
    obtain ⟨n, rfl⟩ : ∃ n', n = n' + 1 := ⟨n - 1, by omega⟩
    have hj : j < xs.length := by omega
    rw [spec_volume.s0, dlt hj, idx_nat hj, w1 (by omega), dropS hj]
    simp only [cond_true, Option.bind_some, getS hj, volFrom]
    exact ih n (j + 1) _ (by omega) (by omega) (by omega)

theorem spec_volume.ok : CallSpec Try.prog spec_volume.E := spec_volume.ok_of (by simp [spec_volume.X]) fun xs h => by
  simp only [decide_eq_true_eq] at h
  refine ⟨xs.length + 1, ?_⟩
  rw [spec_volume.e]
  exact spec_volume.loop (xs.length + 1) xs h xs.length (xs.length + 1) 0 1 (by omega) (by omega) (by omega)

namespace spec_validShape
noncomputable def E : Entry := ⟨30, true, false, fun | [.d (.ints .i64 sh)] => decide (sh.length < 9223372036854775808) | _ => false, fun | [.d (.ints .i64 sh)] => ([.one ((.bool (validS sh)), false)], []) | _ => ([], []), fun _ => [], false, fun _ => none⟩
end spec_validShape
namespace spec_validShape
noncomputable def X : List Entry := [spec_allIn.E, spec_volume.E]
noncomputable def I : List Inl := [⟨30, Try.f30, ⟨[], [], [], [], [], []⟩⟩]
theorem I_ok : ∀ i ∈ I, Try.prog.funcs[i.f]? = some i.fn ∧ (i.fn.name == "runtime.NumGoroutine") = false := by
  intro i hi
  simp only [I, List.mem_cons, List.not_mem_nil, or_false] at hi
  subst hi
  exact ⟨by kernel_rfl, by kernel_rfl⟩
theorem e (fuel : Nat) (p0 : List Int) : runF Try.prog X I 0 fuel 30 Try.f30 [.d (.ints .i64 p0)] =
  (bif (decide ((((p0.length : Nat) : Int) : Int) ≤ 3)) then
  (bif decide (p0.length < 9223372036854775808) then
  (bif (allB p0 0 60) then
  (bif decide (p0.length < 9223372036854775808) then
  some ([.one ((.bool (decide (((volW p0) : Int) ≤ 60))), false)], [])
  else
  none)
  else
  some ([.one ((.bool false), false)], []))
  else
  none)
  else
  some ([.one ((.bool false), false)], [])) := by kernel_rfl
end spec_validShape
theorem spec_validShape.ok_of (hX : ∀ E ∈ spec_validShape.X, CallSpec Try.prog E) (h : ∀ (sh : List Int), (decide (sh.length < 9223372036854775808)) = true → ∃ fuel, runF Try.prog spec_validShape.X spec_validShape.I 0 fuel 30 Try.f30 [.d (.ints .i64 sh)] = some ([.one ((.bool (validS sh)), false)], [])) : CallSpec Try.prog spec_validShape.E :=
  callSpec_of (d := 0) hX (by kernel_rfl) spec_validShape.I_ok (by kernel_rfl) (by kernel_rfl) (by kernel_rfl) (fun _ _ _ _ h => by dsimp only [spec_validShape.E] at h; cases h) (fun xs hp => by
    dsimp only [spec_validShape.E] at hp ⊢
    split at hp
    · exact h _ hp
    · cases hp)
theorem spec_validShape.ok : CallSpec Try.prog spec_validShape.E := spec_validShape.ok_of (by simp [spec_validShape.X, spec_allIn.ok, spec_volume.ok]) fun sh h => ⟨0, by
  rw [spec_validShape.e, h]
  unfold validS
  cases decide (((sh.length : Nat) : Int) ≤ 3) <;> cases allB sh 0 60 <;> rfl⟩

namespace spec_placeIn
noncomputable def E : Entry := ⟨33, false, false, fun | [.d (.ints .i64 sh), .d (.int .i64 n)] => validS sh && decide (0 ≤ n) && decide (n < volW sh) | _ => false, fun | [.d (.ints .i64 sh), .d (.int .i64 n)] => ([.one ((.ints .i64 (plN sh n.toNat)), true)], []) | _ => ([], []), fun _ => [], true, fun _ => none⟩
end spec_placeIn
namespace spec_placeIn
noncomputable def X : List Entry := []
noncomputable def I : List Inl := [⟨33, Try.f33, ⟨[], [(1000003, [2, 3, 4, 7, 8, 9, 10, 11, 12, 13, 14, 15, 16, 17, 18, 19, 20, 21, 22, 23, 24, 25, 26, 27, 28, 29, 30, 31, 32])], [], [], [], []⟩⟩]
theorem I_ok : ∀ i ∈ I, Try.prog.funcs[i.f]? = some i.fn ∧ (i.fn.name == "runtime.NumGoroutine") = false := by
  intro i hi
  simp only [I, List.mem_cons, List.not_mem_nil, or_false] at hi
  subst hi
  exact ⟨by kernel_rfl, by kernel_rfl⟩
noncomputable abbrev L0 (fuel n : Nat) (s : St) (k : Kont) := lAt Try.prog X I fuel true 0 false 33 (bodyOf Try.f33) [1, 1, 0, 1, 0] n s k
noncomputable abbrev k0  (fuel : Nat) : Kont := (kAt Try.prog X I fuel true 0 false 33 (bodyOf Try.f33) [1, 1, 0, 1, 0] [] (endK Try.prog Try.f33))
noncomputable def t0 (p0 : List Int) (x0q1 : Int) (x0q2 : Int) (x0q3 : List Int) : St := ⟨[(.imm (.ints .i64 p0)), (.imm (.int .i64 x0q1)), .dead, .dead, .dead, (.all 1000000000 1), (.imm (.int .i64 x0q2)), .dead, .dead, .dead, .dead, .dead, .dead, .dead, .dead, .dead, .dead, .dead, .dead, .dead, .dead, .dead, .dead, .dead, .dead, .dead, .dead, .dead, .dead, .dead, .dead, .dead, .dead], hOf [(1000000000, (.ints .i64 x0q3))], [], []⟩
theorem e (fuel : Nat) (p0 : List Int) (p1 : Int) : runF Try.prog X I 0 fuel 33 Try.f33 [.d (.ints .i64 p0), .d (.int .i64 p1)] =
  (bif decide (0 ≤ (((p0.length : Nat) : Int) : Int)) && decide ((((p0.length : Nat) : Int) : Int) ≤ ((p0.length : Nat) : Int)) && decide ((((p0.length : Nat) : Int) : Int) ≤ 1152921504606846976) && decide (((8 : Nat) : Int) * ((p0.length : Nat) : Int) ≤ 281474976710656) then
  L0 fuel fuel (t0 p0 p1 ((IntKind.wrap .i64 (((p0.length : Nat) : Int) - 1))) ((List.replicate (((p0.length : Nat) : Int)).toNat (0 : Int)))) (k0  fuel)
  else
  none) := by kernel_rfl
theorem s0 (fuel n0 : Nat) (p0 : List Int) (x0q1 : Int) (x0q2 : Int) (x0q3 : List Int) : L0 fuel (n0 + 1) (t0 p0 x0q1 x0q2 x0q3) (k0  fuel) =
  (bif (decide ((x0q2 : Int) ≥ 0)) then
  (idx x0q2 p0.length).bind fun j11 =>
  (p0[j11]?).bind fun v12 =>
  (bif decide ((v12 : Int) = 0) then
  none
  else
  (idx x0q2 x0q3.length).bind fun j13 =>
  (bif decide (j13 < x0q3.length) then
  (idx x0q2 p0.length).bind fun j14 =>
  (p0[j14]?).bind fun v15 =>
  (bif decide ((v15 : Int) = 0) then
  none
  else
  L0 fuel n0 (t0 p0 ((IntKind.wrap .i64 (Int.tdiv x0q1 v15))) ((IntKind.wrap .i64 (x0q2 - 1))) ((x0q3.set j13 (Int.tmod x0q1 v12)))) (k0  fuel))
  else
  none))
  else
  some ([.one ((.ints .i64 x0q3), true)], [])) := by kernel_rfl
end spec_placeIn
theorem spec_placeIn.ok_of (hX : ∀ E ∈ spec_placeIn.X, CallSpec Try.prog E) (h : ∀ (sh : List Int) (n : Int), (validS sh && decide (0 ≤ n) && decide (n < volW sh)) = true → ∃ fuel, runF Try.prog spec_placeIn.X spec_placeIn.I 0 fuel 33 Try.f33 [.d (.ints .i64 sh), .d (.int .i64 n)] = some ([.one ((.ints .i64 (plN sh n.toNat)), true)], [])) : CallSpec Try.prog spec_placeIn.E :=
  callSpec_of (d := 0) hX (by kernel_rfl) spec_placeIn.I_ok (by kernel_rfl) (by kernel_rfl) (by kernel_rfl) (fun _ _ _ _ h => by dsimp only [spec_placeIn.E] at h; cases h) (fun xs hp => by
    dsimp only [spec_placeIn.E] at hp ⊢
    split at hp
    · exact h _ _ hp
    · cases hp)
theorem spec_placeIn.loop (fuel : Nat) (sh : List Int) (n : Nat) (hv : validS sh = true) (hn : n < prodN sh) (h60 : prodN sh ≤ 60) (hf : 3 < fuel) :
    spec_placeIn.L0 fuel fuel (spec_placeIn.t0 sh (n : Int) (((sh.length : Nat) : Int) - 1 - ((0 : Nat) : Int)) (List.replicate sh.length 0)) (spec_placeIn.k0 fuel) = some ([.one ((.ints .i64 (plN sh n)), true)], []) := by
  have hr := (validS_inv hv).1
  refine run_loop (N := sh.length) (fun f j (s : Nat × List Int) => spec_placeIn.L0 fuel f (spec_placeIn.t0 sh (s.1 : Int) (((sh.length : Nat) : Int) - 1 - (j : Int)) s.2) (spec_placeIn.k0 fuel)) (fun j s => s.1 = n / prodN (sh.drop (sh.length - j)) ∧ s.2 = tail0 (plN sh n) (sh.length - j)) ?_ ?_ fuel 0 (n, List.replicate sh.length 0) (by omega) (by omega) ⟨by simp [prodN], ?_⟩
  · intro f s ⟨h1, h2⟩
    rw [Nat.sub_self, tail0_zero] at h2
    rw [spec_placeIn.s0, decide_eq_false (by omega), h2]
    rfl
  · intro f j s hj ⟨h1, h2⟩
    obtain ⟨k, hk⟩ : ∃ k, sh.length - j = k + 1 := ⟨sh.length - j - 1, by omega⟩
    have hkl : k < sh.length := by omega
    have ax := ax_of hv hkl
    obtain ⟨p1, p2, _⟩ := pl_pos hn hkl
    have e1 : ((sh.length : Nat) : Int) - 1 - (j : Int) = (k : Int) := by omega
    have hs2 : s.2.length = sh.length := by rw [h2, tail0_length (by rw [plN_length]; omega), plN_length]
    have hs1 : s.1 ≤ n := by rw [h1]; exact Nat.div_le_self _ _
    have hdl : s.1 / lenN sh k ≤ n := Nat.le_trans (Nat.div_le_self _ _) hs1
    rw [e1, spec_placeIn.s0, decide_eq_true (by omega), idx_nat hkl, idx_nat (by omega)]
    simp only [cond_true, Option.bind_some, getD_get hkl, ax.len]
    rw [decide_eq_false (by omega), decide_eq_true (by omega), tdivN, tmodN, wN (by omega), wS (x := (k : Int) - 1) (by omega) (by omega)]
    refine ⟨(s.1 / lenN sh k, s.2.set k ((s.1 % lenN sh k : Nat) : Int)), ⟨?_, ?_⟩, ?_⟩
    · rw [h1, hk, show sh.length - (j + 1) = k by omega, behN_drop hkl, Nat.div_div_eq_div_mul, Nat.mul_comm (lenN sh k)]
      rfl
    · rw [h2, hk, show sh.length - (j + 1) = k by omega]
      refine tail0_set (by rw [plN_length]; exact hkl) ?_
      rw [plN_get hkl, h1, hk]
      rfl
    · rw [show ((sh.length : Nat) : Int) - 1 - ((j + 1 : Nat) : Int) = (k : Int) - 1 by omega]
      rfl
  · have := tail0_all (plN sh n)
    rw [plN_length] at this
    rw [Nat.sub_zero, this]
theorem spec_placeIn.ok : CallSpec Try.prog spec_placeIn.E := spec_placeIn.ok_of (by simp [spec_placeIn.X]) fun sh n h => ⟨4, by
  obtain ⟨j, rfl, hv, hj, _, h60⟩ := plB_inv h
  have hr := (validS_inv hv).1
  rw [spec_placeIn.e, mkOk (by omega) (by omega), cond_true, wS (by omega) (by omega), Int.toNat_natCast, Int.toNat_natCast, show ((sh.length : Nat) : Int) - 1 = ((sh.length : Nat) : Int) - 1 - ((0 : Nat) : Int) by omega]
  exact spec_placeIn.loop 4 sh j hv hj h60 (by omega)⟩

namespace spec_PlaceOf
noncomputable def E : Entry := ⟨11, false, false, fun | [.d (.ints .i64 sh), .d (.int .i64 n)] => decide (sh.length < 9223372036854775808) | _ => false, fun | [.d (.ints .i64 sh), .d (.int .i64 n)] => ([.one ((.ints .i64 (plD sh n)), true), .one ((.bool (plB sh n)), false)], []) | _ => ([], []), fun _ => [], true, fun _ => none⟩
end spec_PlaceOf
namespace spec_PlaceOf
noncomputable def X : List Entry := [spec_validShape.E, spec_volume.E, spec_inRange.E, spec_placeIn.E]
noncomputable def I : List Inl := [⟨11, Try.f11, ⟨[19], [], [], [], [], []⟩⟩]
theorem I_ok : ∀ i ∈ I, Try.prog.funcs[i.f]? = some i.fn ∧ (i.fn.name == "runtime.NumGoroutine") = false := by
  intro i hi
  simp only [I, List.mem_cons, List.not_mem_nil, or_false] at hi
  subst hi
  exact ⟨by kernel_rfl, by kernel_rfl⟩
theorem e (fuel : Nat) (p0 : List Int) (p1 : Int) : runF Try.prog X I 0 fuel 11 Try.f11 [.d (.ints .i64 p0), .d (.int .i64 p1)] =
  (bif decide (p0.length < 9223372036854775808) then
  (bif (!(validS p0)) then
  some ([.one ((.ints .i64 []), true), .one ((.bool false), false)], [])
  else
  (bif decide (p0.length < 9223372036854775808) then
  (bif (!(decide (0 ≤ p1) && decide (p1 ≤ ((IntKind.wrap .i64 ((volW p0) - 1)))))) then
  some ([.one ((.ints .i64 []), true), .one ((.bool false), false)], [])
  else
  (bif validS p0 && decide (0 ≤ p1) && decide (p1 < volW p0) then
  some ([.one ((.ints .i64 (plN p0 p1.toNat)), true), .one ((.bool true), false)], [])
  else
  none))
  else
  none))
  else
  none) := by kernel_rfl
end spec_PlaceOf
theorem spec_PlaceOf.ok_of (hX : ∀ E ∈ spec_PlaceOf.X, CallSpec Try.prog E) (h : ∀ (sh : List Int) (n : Int), (decide (sh.length < 9223372036854775808)) = true → ∃ fuel, runF Try.prog spec_PlaceOf.X spec_PlaceOf.I 0 fuel 11 Try.f11 [.d (.ints .i64 sh), .d (.int .i64 n)] = some ([.one ((.ints .i64 (plD sh n)), true), .one ((.bool (plB sh n)), false)], [])) : CallSpec Try.prog spec_PlaceOf.E :=
  callSpec_of (d := 0) hX (by kernel_rfl) spec_PlaceOf.I_ok (by kernel_rfl) (by kernel_rfl) (by kernel_rfl) (fun _ _ _ _ h => by dsimp only [spec_PlaceOf.E] at h; cases h) (fun xs hp => by
    dsimp only [spec_PlaceOf.E] at hp ⊢
    split at hp
    · exact h _ _ hp
    · cases hp)
theorem spec_PlaceOf.ok : CallSpec Try.prog spec_PlaceOf.E := spec_PlaceOf.ok_of (by simp [spec_PlaceOf.X, spec_validShape.ok, spec_volume.ok, spec_inRange.ok, spec_placeIn.ok]) fun sh n h => ⟨0, by
  rw [spec_PlaceOf.e, h]
  unfold plD plB
  cases hv : validS sh with
  | false => rfl
  | true =>
    have hb := vol_bd hv
    have e : decide (n ≤ volW sh - 1) = decide (n < volW sh) := decide_eq_decide.2 (by omega)
    rw [wS (by omega) (by omega), e]
    cases h1 : decide (0 ≤ n) <;> cases h2 : decide (n < volW sh) <;> rfl⟩

namespace laws_equalInts
noncomputable def E : Entry := ⟨12, true, false, fun | [.d (.ints .i64 xs), .d (.ints .i64 ys)] => decide (xs.length < 9223372036854775808) && decide (ys.length < 9223372036854775808) | _ => false, fun | [.d (.ints .i64 xs), .d (.ints .i64 ys)] => ([.one ((.bool (decide (xs = ys))), false)], []) | _ => ([], []), fun _ => [], false, fun _ => none⟩
end laws_equalInts
namespace laws_equalInts
noncomputable def X : List Entry := []
noncomputable def I : List Inl := [⟨12, Try.f12, ⟨[], [(1000004, [2, 3, 4, 6, 7, 8, 9, 10, 11, 12, 13, 14, 15, 16, 17, 18, 19, 20, 21, 22, 23, 24, 25])], [], [(6, [0, 1, 4, 5, 2, 3, 6, 7, 8])], [], []⟩⟩]
theorem I_ok : ∀ i ∈ I, Try.prog.funcs[i.f]? = some i.fn ∧ (i.fn.name == "runtime.NumGoroutine") = false := by
  intro i hi
  simp only [I, List.mem_cons, List.not_mem_nil, or_false] at hi
  subst hi
  exact ⟨by kernel_rfl, by kernel_rfl⟩
noncomputable abbrev L0 (fuel n : Nat) (s : St) (k : Kont) := lAt Try.prog X I fuel true 0 false 12 (bodyOf Try.f12) [1, 1, 0, 1, 0] n s k
noncomputable abbrev k0  (fuel : Nat) : Kont := (kAt Try.prog X I fuel true 0 false 12 (bodyOf Try.f12) [1, 1, 0, 1, 0] [] (endK Try.prog Try.f12))
noncomputable def t0 (p0 : List Int) (p1 : List Int) (x0q2 : Int) : St := ⟨[(.imm (.ints .i64 p0)), (.imm (.ints .i64 p1)), .dead, .dead, .dead, (.imm (.int .i64 x0q2)), .dead, .dead, .dead, .dead, .dead, .dead, .dead, .dead, .dead, .dead, .dead, .dead, .dead, .dead, .dead, .dead, .dead, .dead, .dead, .dead], hOf [], [], []⟩
theorem e (fuel : Nat) (p0 : List Int) (p1 : List Int) : runF Try.prog X I 0 fuel 12 Try.f12 [.d (.ints .i64 p0), .d (.ints .i64 p1)] =
  (bif ((((p0.length : Nat) : Int) : Int) != ((p1.length : Nat) : Int)) then
  some ([.one ((.bool false), false)], [])
  else
  L0 fuel fuel (t0 p0 p1 0) (k0  fuel)) := by kernel_rfl
theorem s0 (fuel n0 : Nat) (p0 : List Int) (p1 : List Int) (x0q2 : Int) : L0 fuel (n0 + 1) (t0 p0 p1 x0q2) (k0  fuel) =
  (bif (decide ((x0q2 : Int) < ((p0.length : Nat) : Int))) then
  (idx x0q2 p0.length).bind fun j9 =>
  (p0[j9]?).bind fun v10 =>
  (idx x0q2 p1.length).bind fun j11 =>
  (p1[j11]?).bind fun v12 =>
  (bif ((v10 : Int) != v12) then
  some ([.one ((.bool false), false)], [])
  else
  L0 fuel n0 (t0 p0 p1 ((IntKind.wrap .i64 (x0q2 + 1)))) (k0  fuel))
  else
  some ([.one ((.bool true), false)], [])) := by kernel_rfl
end laws_equalInts
theorem laws_equalInts.ok_of (hX : ∀ E ∈ laws_equalInts.X, CallSpec Try.prog E) (h : ∀ (xs : List Int) (ys : List Int), (decide (xs.length < 9223372036854775808) && decide (ys.length < 9223372036854775808)) = true → ∃ fuel, runF Try.prog laws_equalInts.X laws_equalInts.I 0 fuel 12 Try.f12 [.d (.ints .i64 xs), .d (.ints .i64 ys)] = some ([.one ((.bool (decide (xs = ys))), false)], [])) : CallSpec Try.prog laws_equalInts.E :=
  callSpec_of (d := 0) hX (by kernel_rfl) laws_equalInts.I_ok (by kernel_rfl) (by kernel_rfl) (by kernel_rfl) (fun _ _ _ _ h => by dsimp only [laws_equalInts.E] at h; cases h) (fun xs hp => by
    dsimp only [laws_equalInts.E] at hp ⊢
    split at hp
    · exact h _ _ hp
    · cases hp)
theorem laws_equalInts.loop (fuel : Nat) (xs ys : List Int) (hl : xs.length = ys.length) (hx : xs.length < 9223372036854775808) : ∀ (m n j : Nat), xs.length - j = m → m < n → j ≤ xs.length →
    laws_equalInts.L0 fuel n (laws_equalInts.t0 xs ys (j : Int)) (laws_equalInts.k0 fuel) = some ([.one (.bool (decide (xs.drop j = ys.drop j)), false)], []) := by
  intro m
  induction m with
  | zero =>
    intro n j h1 h2 h3
    obtain ⟨n, rfl⟩ : ∃ n', n = n' + 1 := ⟨n - 1, by omega⟩
    have hj : ¬ j < xs.length := by omega
    rw [laws_equalInts.s0, dge hj, dropE hj, dropE (xs := ys) (by omega)]
    rfl
  | succ m ih =>
    intro n j h1 h2 h3
    obtain ⟨n, rfl⟩ : ∃ n', n = n' + 1 := ⟨n - 1, by omega⟩
    have hj : j < xs.length := by omega
    have hj2 : j < ys.length := by omega
    rw [laws_equalInts.s0, dlt hj, idx_nat hj, idx_nat hj2, w1 (by omega), dropS hj, dropS hj2]
    simp only [cond_true, Option.bind_some, getS hj, getS hj2]
    rw [ih n (j + 1) (by omega) (by omega) (by omega)]
    by_cases hv : xs[j] = ys[j]
    · rw [hv]
      simp only [bne_self_eq_false, cond_false, List.cons.injEq, true_and]
    · have : (xs[j] != ys[j]) = true := by simp [hv]
      rw [this]
      simp only [cond_true, List.cons.injEq, hv, false_and, decide_false]

theorem laws_equalInts.ok : CallSpec Try.prog laws_equalInts.E := laws_equalInts.ok_of (by simp [laws_equalInts.X]) fun xs ys h => by
  simp only [Bool.and_eq_true, decide_eq_true_eq] at h
  refine ⟨xs.length + 1, ?_⟩
  rw [laws_equalInts.e]
  by_cases hl : xs.length = ys.length
  · have := laws_equalInts.loop (xs.length + 1) xs ys hl h.1 xs.length (xs.length + 1) 0 (by omega) (by omega) (by omega)
    simp only [List.drop_zero] at this
    simp only [hl, bne_self_eq_false, cond_false]
    rw [← hl]
    exact this
  · have hne : xs ≠ ys := fun e => hl (e ▸ rfl)
    have : (((xs.length : Nat) : Int) != ((ys.length : Nat) : Int)) = true := by simp; omega
    rw [this]
    simp [hne]

namespace laws_product
noncomputable def E : Entry := ⟨13, true, false, fun | [.d (.ints .i64 xs)] => decide (xs.length < 9223372036854775808) | _ => false, fun | [.d (.ints .i64 xs)] => ([.one ((.int .i64 (volW xs)), false)], []) | _ => ([], []), fun _ => [], false, fun _ => none⟩
end laws_product
namespace laws_product
noncomputable def X : List Entry := []
noncomputable def I : List Inl := [⟨13, Try.f13, ⟨[], [(1000003, [1, 2, 5, 6, 7, 8, 9, 10, 11, 12, 13, 14, 15, 16, 17])], [], [], [], []⟩⟩]
theorem I_ok : ∀ i ∈ I, Try.prog.funcs[i.f]? = some i.fn ∧ (i.fn.name == "runtime.NumGoroutine") = false := by
  intro i hi
  simp only [I, List.mem_cons, List.not_mem_nil, or_false] at hi
  subst hi
  exact ⟨by kernel_rfl, by kernel_rfl⟩
noncomputable abbrev L0 (fuel n : Nat) (s : St) (k : Kont) := lAt Try.prog X I fuel true 0 false 13 (bodyOf Try.f13) [1, 1, 0, 1, 0] n s k
noncomputable abbrev k0  (fuel : Nat) : Kont := (kAt Try.prog X I fuel true 0 false 13 (bodyOf Try.f13) [1, 1, 0, 1, 0] [] (endK Try.prog Try.f13))
noncomputable def t0 (p0 : List Int) (x0q1 : Int) (x0q2 : Int) : St := ⟨[(.imm (.ints .i64 p0)), .dead, .dead, (.imm (.int .i64 x0q1)), (.imm (.int .i64 x0q2)), .dead, .dead, .dead, .dead, .dead, .dead, .dead, .dead, .dead, .dead, .dead, .dead, .dead], hOf [], [], []⟩
theorem e (fuel : Nat) (p0 : List Int) : runF Try.prog X I 0 fuel 13 Try.f13 [.d (.ints .i64 p0)] =
  L0 fuel fuel (t0 p0 1 0) (k0  fuel) := by kernel_rfl
theorem s0 (fuel n0 : Nat) (p0 : List Int) (x0q1 : Int) (x0q2 : Int) : L0 fuel (n0 + 1) (t0 p0 x0q1 x0q2) (k0  fuel) =
  (bif (decide ((x0q2 : Int) < ((p0.length : Nat) : Int))) then
  (idx x0q2 p0.length).bind fun j5 =>
  (p0[j5]?).bind fun v6 =>
  L0 fuel n0 (t0 p0 ((IntKind.wrap .i64 (x0q1 * v6))) ((IntKind.wrap .i64 (x0q2 + 1)))) (k0  fuel)
  else
  some ([.one ((.int .i64 x0q1), false)], [])) := by kernel_rfl
end laws_product
theorem laws_product.ok_of (hX : ∀ E ∈ laws_product.X, CallSpec Try.prog E) (h : ∀ (xs : List Int), (decide (xs.length < 9223372036854775808)) = true → ∃ fuel, runF Try.prog laws_product.X laws_product.I 0 fuel 13 Try.f13 [.d (.ints .i64 xs)] = some ([.one ((.int .i64 (volW xs)), false)], [])) : CallSpec Try.prog laws_product.E :=
  callSpec_of (d := 0) hX (by kernel_rfl) laws_product.I_ok (by kernel_rfl) (by kernel_rfl) (by kernel_rfl) (fun _ _ _ _ h => by dsimp only [laws_product.E] at h; cases h) (fun xs hp => by
    dsimp only [laws_product.E] at hp ⊢
    split at hp
    · exact h _ hp
    · cases hp)
theorem laws_product.loop (fuel : Nat) (xs : List Int) (hx : xs.length < 9223372036854775808) : ∀ (m n j : Nat) (a : Int), xs.length - j = m → m < n → j ≤ xs.length →
    laws_product.L0 fuel n (laws_product.t0 xs a (j : Int)) (laws_product.k0 fuel) = some ([.one (.int .i64 (volFrom (xs.drop j) a), false)], []) := by
  intro m
  induction m with
  | zero =>
    intro n j a h1 h2 h3
    obtain ⟨n, rfl⟩ : ∃ n', n = n' + 1 := ⟨n - 1, by omega⟩
    have hj : ¬ j < xs.length := by omega
    rw [laws_product.s0, dge hj, dropE hj]
    rfl
  | succ m ih =>
    intro n j a h1 h2 h3
    obtain ⟨n, rfl⟩ : ∃ n', n = n' + 1 := ⟨n - 1, by omega⟩
    have hj : j < xs.length := by omega
    rw [laws_product.s0, dlt hj, idx_nat hj, w1 (by omega), dropS hj]
    simp only [cond_true, Option.bind_some, getS hj, volFrom]
    exact ih n (j + 1) _ (by omega) (by omega) (by omega)

theorem laws_product.ok : CallSpec Try.prog laws_product.E := laws_product.ok_of (by simp [laws_product.X]) fun xs h => by
  simp only [decide_eq_true_eq] at h
  refine ⟨xs.length + 1, ?_⟩
  rw [laws_product.e]
  exact laws_product.loop (xs.length + 1) xs h xs.length (xs.length + 1) 0 1 (by omega) (by omega) (by omega)

namespace impl_OffsetOf
noncomputable def E : Entry := ⟨14, true, false, fun | [.d (.ints .i64 sh), .d (.ints .i64 pl)] => decide (sh.length < 9223372036854775808) && decide (pl.length < 9223372036854775808) | _ => false, fun | [.d (.ints .i64 sh), .d (.ints .i64 pl)] => ([.one ((.int .i64 (offS sh pl)), false)], []) | _ => ([], []), fun _ => [], false, fun _ => none⟩
end impl_OffsetOf
namespace impl_OffsetOf
noncomputable def X : List Entry := [impl_layoutOf.E]
noncomputable def I : List Inl := [⟨14, Try.f14, ⟨[12], [(1000006, [1, 2, 3, 4, 6, 8, 9, 10, 11, 12, 13, 14, 15, 16, 17, 18, 19, 20, 21, 22, 23, 27, 28, 29, 30, 31, 32, 33, 34, 35, 36, 37, 38, 39, 40, 41, 42, 43, 44, 45, 46, 47, 48, 49, 50])], [], [], [], []⟩⟩]
theorem I_ok : ∀ i ∈ I, Try.prog.funcs[i.f]? = some i.fn ∧ (i.fn.name == "runtime.NumGoroutine") = false := by
  intro i hi
  simp only [I, List.mem_cons, List.not_mem_nil, or_false] at hi
  subst hi
  exact ⟨by kernel_rfl, by kernel_rfl⟩
noncomputable abbrev L0 (fuel n : Nat) (s : St) (k : Kont) := lAt Try.prog X I fuel true 0 false 14 (bodyOf Try.f14) [1, 1, 1, 1, 0, 1, 0] n s k
noncomputable abbrev k0  (fuel : Nat) : Kont := (kAt Try.prog X I fuel true 0 false 14 (bodyOf Try.f14) [1, 1, 1, 1, 0, 1, 0] [] (endK Try.prog Try.f14))
noncomputable def t0 (p0 : List Int) (p1 : List Int) (x0q1 : Int) (x0q4 : Int) : St := ⟨[(.imm (.ints .i64 p0)), .dead, .dead, .dead, .dead, (.ptr 1000000000 0 0), .dead, (.imm (.int .i64 x0q1)), .dead, .dead, .dead, .dead, .dead, .dead, .dead, .dead, .dead, .dead, .dead, .dead, .dead, .dead, .dead, .dead, (.imm (.ints .i64 p1)), (.imm (.int .i64 ((p1.length : Nat) : Int))), (.imm (.int .i64 x0q4)), .dead, .dead, .dead, .dead, .dead, .dead, .dead, .dead, .dead, .dead, .dead, .dead, .dead, .dead, .dead, .dead, .dead, .dead, .dead, .dead, .dead, .dead, .dead, .dead], hOf [(1000000000, (.box [(.imm (.ints .i64 p0)), (.imm (.int .i64 (strd p0 0))), (.imm (.int .i64 (strd p0 1))), (.imm (.int .i64 (strd p0 2))), (.imm (.int .i64 (volW p0)))]))], [], []⟩
theorem e (fuel : Nat) (p0 : List Int) (p1 : List Int) : runF Try.prog X I 0 fuel 14 Try.f14 [.d (.ints .i64 p0), .d (.ints .i64 p1)] =
  (bif decide (p0.length < 9223372036854775808) then
  (bif validS p0 then
  (bif ((((p1.length : Nat) : Int) : Int) != ((p0.length : Nat) : Int)) then
  some ([.one ((.int .i64 (-1)), false)], [])
  else
  L0 fuel fuel (t0 p0 p1 0 0) (k0  fuel))
  else
  some ([.one ((.int .i64 (-1)), false)], []))
  else
  none) := by kernel_rfl
theorem s0 (fuel n0 : Nat) (p0 : List Int) (p1 : List Int) (x0q1 : Int) (x0q4 : Int) : L0 fuel (n0 + 1) (t0 p0 p1 x0q1 x0q4) (k0  fuel) =
  (bif (decide ((x0q4 : Int) < ((p1.length : Nat) : Int))) then
  (idx x0q4 p1.length).bind fun j9 =>
  (p1[j9]?).bind fun v10 =>
  (bif (decide ((v10 : Int) < 0)) then
  some ([.one ((.int .i64 (-1)), false)], [])
  else
  (idx x0q4 p0.length).bind fun j11 =>
  (p0[j11]?).bind fun v12 =>
  (bif (decide ((v10 : Int) ≥ v12)) then
  some ([.one ((.int .i64 (-1)), false)], [])
  else
  (bif decide (x0q4 = ((0 : Nat) : Int)) then
  L0 fuel n0 (t0 p0 p1 ((IntKind.wrap .i64 (x0q1 + (IntKind.wrap .i64 (v10 * (strd p0 0)))))) ((IntKind.wrap .i64 (x0q4 + 1)))) (k0  fuel)
  else
  (bif decide (x0q4 = ((1 : Nat) : Int)) then
  L0 fuel n0 (t0 p0 p1 ((IntKind.wrap .i64 (x0q1 + (IntKind.wrap .i64 (v10 * (strd p0 1)))))) ((IntKind.wrap .i64 (x0q4 + 1)))) (k0  fuel)
  else
  (bif decide (x0q4 = ((2 : Nat) : Int)) then
  L0 fuel n0 (t0 p0 p1 ((IntKind.wrap .i64 (x0q1 + (IntKind.wrap .i64 (v10 * (strd p0 2)))))) ((IntKind.wrap .i64 (x0q4 + 1)))) (k0  fuel)
  else
  none)))))
  else
  some ([.one ((.int .i64 x0q1), false)], [])) := by kernel_rfl
end impl_OffsetOf
theorem impl_OffsetOf.ok_of (hX : ∀ E ∈ impl_OffsetOf.X, CallSpec Try.prog E) (h : ∀ (sh : List Int) (pl : List Int), (decide (sh.length < 9223372036854775808) && decide (pl.length < 9223372036854775808)) = true → ∃ fuel, runF Try.prog impl_OffsetOf.X impl_OffsetOf.I 0 fuel 14 Try.f14 [.d (.ints .i64 sh), .d (.ints .i64 pl)] = some ([.one ((.int .i64 (offS sh pl)), false)], [])) : CallSpec Try.prog impl_OffsetOf.E :=
  callSpec_of (d := 0) hX (by kernel_rfl) impl_OffsetOf.I_ok (by kernel_rfl) (by kernel_rfl) (by kernel_rfl) (fun _ _ _ _ h => by dsimp only [impl_OffsetOf.E] at h; cases h) (fun xs hp => by
    dsimp only [impl_OffsetOf.E] at hp ⊢
    split at hp
    · exact h _ _ hp
    · cases hp)
theorem impl_OffsetOf.bad (fuel n : Nat) (sh pl : List Int) (k : Nat) (v s acc : Int) (hk : k < pl.length) (hs : k < sh.length) (hv : pl[k]? = some v) (hsv : sh[k]? = some s) (h : ¬ (0 ≤ v ∧ v < s)) :
    impl_OffsetOf.L0 fuel (n + 1) (impl_OffsetOf.t0 sh pl acc (k : Int)) (impl_OffsetOf.k0 fuel) = some ([.one (.int .i64 (-1), false)], []) := by
  rw [impl_OffsetOf.s0, dlt hk, idx_nat hk, idx_nat hs]
  simp only [cond_true, Option.bind_some, hv, hsv]
  by_cases h0 : v < 0
  · rw [decide_eq_true h0]; rfl
  · rw [decide_eq_false h0, decide_eq_true (by omega)]; rfl
theorem impl_OffsetOf.good (fuel n : Nat) (sh pl : List Int) (k : Nat) (v s acc : Int) (hk : k < pl.length) (hs : k < sh.length) (hv : pl[k]? = some v) (hsv : sh[k]? = some s) (h : 0 ≤ v ∧ v < s) (hk3 : k < 3) :
    impl_OffsetOf.L0 fuel (n + 1) (impl_OffsetOf.t0 sh pl acc (k : Int)) (impl_OffsetOf.k0 fuel) = impl_OffsetOf.L0 fuel n (impl_OffsetOf.t0 sh pl (IntKind.wrap .i64 (acc + IntKind.wrap .i64 (v * strd sh k))) ((k + 1 : Nat) : Int)) (impl_OffsetOf.k0 fuel) := by
  rw [impl_OffsetOf.s0, dlt hk, idx_nat hk, idx_nat hs, w1 (by omega)]
  simp only [cond_true, Option.bind_some, hv, hsv]
  rw [decide_eq_false (p := v < 0) (by omega), decide_eq_false (p := v ≥ s) (by omega)]
  match k, hk3 with
  | 0, _ => rfl
  | 1, _ => rfl
  | 2, _ => rfl
theorem impl_OffsetOf.last (fuel n : Nat) (sh pl : List Int) (k : Nat) (acc : Int) (hk : ¬ k < pl.length) :
    impl_OffsetOf.L0 fuel (n + 1) (impl_OffsetOf.t0 sh pl acc (k : Int)) (impl_OffsetOf.k0 fuel) = some ([.one (.int .i64 acc, false)], []) := by
  rw [impl_OffsetOf.s0, dge hk]
  rfl
theorem plB0 {a p : Int} (h0 : 0 ≤ a) (h1 : a ≤ 60) : (decide (0 ≤ p) && decide (p ≤ IntKind.wrap .i64 (a - 1))) = decide (0 ≤ p ∧ p < a) := by
  rw [wS (x := a - 1) (by omega) (by omega)]
  by_cases h : 0 ≤ p ∧ p < a
  · rw [decide_eq_true h, decide_eq_true h.1, decide_eq_true (by omega)]; rfl
  · rw [decide_eq_false h]
    by_cases h2 : 0 ≤ p
    · rw [decide_eq_false (p := p ≤ a - 1) (by omega), Bool.and_false]
    · rw [decide_eq_false h2]; rfl
theorem impl_OffsetOf.ok : CallSpec Try.prog impl_OffsetOf.E := impl_OffsetOf.ok_of (by simp [impl_OffsetOf.X, impl_layoutOf.ok]) fun sh pl h => by
  simp only [Bool.and_eq_true] at h
  refine ⟨4, ?_⟩
  rw [impl_OffsetOf.e, h.1]
  unfold offS
  cases hv : validS sh with
  | false => rfl
  | true =>
    simp only [cond_true, Bool.true_and]
    by_cases hl : pl.length = sh.length
    case neg =>
      rw [isPl_ne hl]
      have : (((pl.length : Nat) : Int) != ((sh.length : Nat) : Int)) = true := by simp; omega
      rw [this]
      rfl
    have : (((pl.length : Nat) : Int) != ((sh.length : Nat) : Int)) = false := by simp [hl]
    rw [this, cond_false, show (0 : Int) = ((0 : Nat) : Int) from rfl]
    rcases validS_cases hv with rfl | ⟨a, rfl, a0, a1⟩ | ⟨a, b, rfl, a0, a1, b0, b1, v⟩ | ⟨a, b, c, rfl, a0, a1, b0, b1, c0, c1, v⟩
    · match pl, hl with
      | [], _ => rw [impl_OffsetOf.last _ _ _ _ _ _ (by simp)]; rfl
    · match pl, hl with
      | [p], _ =>
        simp only [isPl, Bool.and_true, plB0 a0 a1]
        by_cases h1 : 0 ≤ p ∧ p < a
        case neg => rw [impl_OffsetOf.bad _ _ _ _ _ p a _ (by simp) (by simp) rfl rfl h1, decide_eq_false h1]; rfl
        rw [impl_OffsetOf.good _ _ _ _ _ p a _ (by simp) (by simp) rfl rfl h1 (by omega), impl_OffsetOf.last _ _ _ _ _ _ (by simp), decide_eq_true h1]
        simp only [cond_true, offW, strd, volW, volFrom, List.length_cons, List.length_nil, List.drop_succ_cons, List.drop_zero, List.drop_nil, Int.zero_mul, Int.one_mul, Int.mul_one, Nat.lt_add_one, decide_true, Int.zero_add, Nat.zero_add, Int.ofNat_zero, Int.natCast_zero]
        rw [wS (x := 0) (by omega) (by omega), Int.zero_add]
        simp only [wS (x := p) (by omega) (by omega)]
    · match pl, hl with
      | [p, q], _ =>
        simp only [isPl, Bool.and_true, plB0 a0 a1, plB0 b0 b1]
        by_cases h1 : 0 ≤ p ∧ p < a
        case neg => rw [impl_OffsetOf.bad _ _ _ _ _ p a _ (by simp) (by simp) rfl rfl h1, decide_eq_false h1]; rfl
        rw [impl_OffsetOf.good _ _ _ _ _ p a _ (by simp) (by simp) rfl rfl h1 (by omega), decide_eq_true h1]
        by_cases h2 : 0 ≤ q ∧ q < b
        case neg => rw [impl_OffsetOf.bad _ _ _ _ _ q b _ (by simp) (by simp) rfl rfl h2, decide_eq_false h2]; rfl
        rw [impl_OffsetOf.good _ _ _ _ _ q b _ (by simp) (by simp) rfl rfl h2 (by omega), impl_OffsetOf.last _ _ _ _ _ _ (by simp), decide_eq_true h2]
        have hpb := mul60 (a := p) (b := b) h1.1 (by omega) b0 b1
        have s0 : strd [a, b] 0 = b := by simp [strd, volW, volFrom, wS (x := b) (by omega) (by omega)]
        have s1 : strd [a, b] 1 = 1 := by simp [strd, volW, volFrom]
        simp only [cond_true, Bool.and_self, offW, s0, s1, Int.zero_mul, Int.mul_one]
        rw [show ((0 : Nat) : Int) = 0 from rfl, Int.zero_mul, wS (x := 0) (by omega) (by omega), Int.zero_add, Int.zero_add, wS (x := p) (by omega) (by omega), wS (x := p * b) (by omega) (by omega), wS (x := p * b) (by omega) (by omega), wS (x := q) (by omega) (by omega)]
    · match pl, hl with
      | [p, q, r], _ =>
        simp only [isPl, Bool.and_true, plB0 a0 a1, plB0 b0 b1, plB0 c0 c1]
        by_cases h1 : 0 ≤ p ∧ p < a
        case neg => rw [impl_OffsetOf.bad _ _ _ _ _ p a _ (by simp) (by simp) rfl rfl h1, decide_eq_false h1]; rfl
        rw [impl_OffsetOf.good _ _ _ _ _ p a _ (by simp) (by simp) rfl rfl h1 (by omega), decide_eq_true h1]
        by_cases h2 : 0 ≤ q ∧ q < b
        case neg => rw [impl_OffsetOf.bad _ _ _ _ _ q b _ (by simp) (by simp) rfl rfl h2, decide_eq_false h2]; rfl
        rw [impl_OffsetOf.good _ _ _ _ _ q b _ (by simp) (by simp) rfl rfl h2 (by omega), decide_eq_true h2]
        by_cases h3 : 0 ≤ r ∧ r < c
        case neg => rw [impl_OffsetOf.bad _ _ _ _ _ r c _ (by simp) (by simp) rfl rfl h3, decide_eq_false h3]; rfl
        rw [impl_OffsetOf.good _ _ _ _ _ r c _ (by simp) (by simp) rfl rfl h3 (by omega), impl_OffsetOf.last _ _ _ _ _ _ (by simp), decide_eq_true h3]
        have hpb := mul60 (a := p) (b := b) h1.1 (by omega) b0 b1
        have hbc := mul60 b0 b1 c0 c1
        have hqc := mul60 (a := q) (b := c) h2.1 (by omega) c0 c1
        have hpbc := mul3600 (a := p * b) (b := c) hpb.1 hpb.2 c0 c1
        have hpq := mul3600 (a := p * b + q) (b := c) (by omega) (by
          have := horner (a := a) (b := b) h1.1 h1.2 h2.1 h2.2
          have := mul60 a0 a1 b0 b1
          omega) c0 c1
        have s0 : strd [a, b, c] 0 = b * c := by simp [strd, volW, volFrom, wS (x := b) (by omega) (by omega), wS (x := b * c) (by omega) (by omega)]
        have s1 : strd [a, b, c] 1 = c := by simp [strd, volW, volFrom, wS (x := c) (by omega) (by omega)]
        have s2 : strd [a, b, c] 2 = 1 := by simp [strd, volW, volFrom]
        have e1 : p * (b * c) = p * b * c := by rw [Int.mul_assoc]
        have e2 : (p * b + q) * c = p * b * c + q * c := by rw [Int.add_mul]
        simp only [cond_true, Bool.and_self, offW, s0, s1, s2, Int.zero_mul, Int.mul_one, e1]
        rw [e2] at hpq
        rw [show ((0 : Nat) : Int) = 0 from rfl, Int.zero_mul, wS (x := 0) (by omega) (by omega), Int.zero_add, Int.zero_add, wS (x := p) (by omega) (by omega), wS (x := p * b * c) (by omega) (by omega), wS (x := p * b * c) (by omega) (by omega), wS (x := q * c) (by omega) (by omega), wS (x := r) (by omega) (by omega),
          wS (x := p * b) (by omega) (by omega), wS (x := p * b + q) (by omega) (by omega), e2]

namespace laws_FnPlaceOf
noncomputable def E : Entry := ⟨3, true, false, fun | [.d (.ints .u8 bs)] => bytesB bs | _ => false, fun | [.d (.ints .u8 bs)] => ([.one ((.bool true), false)], []) | _ => ([], []), fun _ => [], false, fun _ => none⟩
end laws_FnPlaceOf
namespace laws_FnPlaceOf
noncomputable def X : List Entry := [spec_DrawPlaceOf.E, impl_PlaceOf.E, spec_PlaceOf.E, laws_equalInts.E, laws_product.E, impl_OffsetOf.E]
noncomputable def I : List Inl := [⟨3, Try.f3, ⟨[16, 22, 28, 56], [], [], [], [], []⟩⟩]
theorem I_ok : ∀ i ∈ I, Try.prog.funcs[i.f]? = some i.fn ∧ (i.fn.name == "runtime.NumGoroutine") = false := by
  intro i hi
  simp only [I, List.mem_cons, List.not_mem_nil, or_false] at hi
  subst hi
  exact ⟨by kernel_rfl, by kernel_rfl⟩
theorem e (fuel : Nat) (p0 : List Int) : runF Try.prog X I 0 fuel 3 Try.f3 [.d (.ints .u8 p0)] =
  (bif (decide ((((p0.length : Nat) : Int) : Int) > 1048576)) then
  some ([.one ((.bool true), false)], [])
  else
  (bif bytesB p0 then
  (bif decide (((aShV (cutC p0) 0)).length < 9223372036854775808) then
  (bif decide (((aShV (cutC p0) 0)).length < 9223372036854775808) then
  (bif decide (((plD ((aShV (cutC p0) 0)) ((dPn (cutC p0))))).length < 9223372036854775808) && decide (((plD ((aShV (cutC p0) 0)) ((dPn (cutC p0))))).length < 9223372036854775808) then
  (bif (!(decide (((plD ((aShV (cutC p0) 0)) ((dPn (cutC p0))))) = ((plD ((aShV (cutC p0) 0)) ((dPn (cutC p0)))))))) then
  (bif decide (((plD ((aShV (cutC p0) 0)) ((dPn (cutC p0))))).length < 9223372036854775808) && decide (((plD ((aShV (cutC p0) 0)) ((dPn (cutC p0))))).length < 9223372036854775808) then
  (bif (decide (((plD ((aShV (cutC p0) 0)) ((dPn (cutC p0))))) = ((plD ((aShV (cutC p0) 0)) ((dPn (cutC p0))))))) then
  some ([.one ((.bool ((plB ((aShV (cutC p0) 0)) ((dPn (cutC p0)))) == (plB ((aShV (cutC p0) 0)) ((dPn (cutC p0)))))), false)], [])
  else
  some ([.one ((.bool false), false)], []))
  else
  none)
  else
  (bif (!((plB ((aShV (cutC p0) 0)) ((dPn (cutC p0)))) == (plB ((aShV (cutC p0) 0)) ((dPn (cutC p0)))))) then
  (bif decide (((plD ((aShV (cutC p0) 0)) ((dPn (cutC p0))))).length < 9223372036854775808) && decide (((plD ((aShV (cutC p0) 0)) ((dPn (cutC p0))))).length < 9223372036854775808) then
  (bif (decide (((plD ((aShV (cutC p0) 0)) ((dPn (cutC p0))))) = ((plD ((aShV (cutC p0) 0)) ((dPn (cutC p0))))))) then
  some ([.one ((.bool ((plB ((aShV (cutC p0) 0)) ((dPn (cutC p0)))) == (plB ((aShV (cutC p0) 0)) ((dPn (cutC p0)))))), false)], [])
  else
  some ([.one ((.bool false), false)], []))
  else
  none)
  else
  (bif (!(plB ((aShV (cutC p0) 0)) ((dPn (cutC p0))))) then
  (bif decide (((plD ((aShV (cutC p0) 0)) ((dPn (cutC p0))))).length < 9223372036854775808) && decide (((plD ((aShV (cutC p0) 0)) ((dPn (cutC p0))))).length < 9223372036854775808) then
  (bif (decide (((plD ((aShV (cutC p0) 0)) ((dPn (cutC p0))))) = ((plD ((aShV (cutC p0) 0)) ((dPn (cutC p0))))))) then
  some ([.one ((.bool ((plB ((aShV (cutC p0) 0)) ((dPn (cutC p0)))) == (plB ((aShV (cutC p0) 0)) ((dPn (cutC p0)))))), false)], [])
  else
  some ([.one ((.bool false), false)], []))
  else
  none)
  else
  (bif decide (((aShV (cutC p0) 0)).length < 9223372036854775808) then
  (bif decide (((aShV (cutC p0) 0)).length < 9223372036854775808) then
  (bif decide (((aShV (cutC p0) 0)).length < 9223372036854775808) && decide (((plD ((aShV (cutC p0) 0)) ((dPn (cutC p0))))).length < 9223372036854775808) then
  (bif (((offS ((aShV (cutC p0) 0)) ((plD ((aShV (cutC p0) 0)) ((dPn (cutC p0)))))) : Int) == (dPn (cutC p0))) then
  (bif (((((plD ((aShV (cutC p0) 0)) ((dPn (cutC p0)))).length : Nat) : Int) : Int) == (((aShV (cutC p0) 0).length : Nat) : Int)) then
  some ([.one ((.bool (!(plB ((aShV (cutC p0) 0)) ((volW ((aShV (cutC p0) 0))))))), false)], [])
  else
  some ([.one ((.bool false), false)], []))
  else
  some ([.one ((.bool false), false)], []))
  else
  none)
  else
  none)
  else
  none))))
  else
  none)
  else
  none)
  else
  none)
  else
  none)) := by kernel_rfl
end laws_FnPlaceOf
theorem laws_FnPlaceOf.ok_of (hX : ∀ E ∈ laws_FnPlaceOf.X, CallSpec Try.prog E) (h : ∀ (bs : List Int), (bytesB bs) = true → ∃ fuel, runF Try.prog laws_FnPlaceOf.X laws_FnPlaceOf.I 0 fuel 3 Try.f3 [.d (.ints .u8 bs)] = some ([.one ((.bool true), false)], [])) : CallSpec Try.prog laws_FnPlaceOf.E :=
  callSpec_of (d := 0) hX (by kernel_rfl) laws_FnPlaceOf.I_ok (by kernel_rfl) (by kernel_rfl) (by kernel_rfl) (fun _ _ _ _ h => by dsimp only [laws_FnPlaceOf.E] at h; cases h) (fun xs hp => by
    dsimp only [laws_FnPlaceOf.E] at hp ⊢
    split at hp
    · exact h _ hp
    · cases hp)
theorem laws_FnPlaceOf.ok : CallSpec Try.prog laws_FnPlaceOf.E := laws_FnPlaceOf.ok_of (by simp [laws_FnPlaceOf.X, spec_DrawPlaceOf.ok, impl_PlaceOf.ok, spec_PlaceOf.ok, laws_equalInts.ok, laws_product.ok, impl_OffsetOf.ok]) fun bs h => by
  obtain ⟨F, hF⟩ : ∃ F : Nat, 4000 < F := ⟨4001, by omega⟩
  refine ⟨F, ?_⟩
  rw [laws_FnPlaceOf.e]
  by_cases hl : ((bs.length : Nat) : Int) > 1048576
  · rw [decide_eq_true hl]; rfl
  rw [decide_eq_false hl, cond_false, h, cond_true]
  have r0 := cut_ok h (p := 0) (by omega) (by omega)
  have a1 := aSh_len (cutC bs) 0
  obtain ⟨sh, hsh⟩ : ∃ x, aShV (cutC bs) 0 = x := ⟨_, rfl⟩
  obtain ⟨n, hn⟩ : ∃ x, dPn (cutC bs) = x := ⟨_, rfl⟩
  rw [hsh] at a1
  have g1 := lt_of (xs := sh) (by omega)
  have g2 := lt_of (xs := plD sh n) (by have := pl_len sh n; omega)
  simp only [hsh, hn]
  cases hb : plB sh n with
  | false =>
    simp only [plD, hb, g1, cond_true, cond_false]
    rfl
  | true =>
    obtain ⟨j, rfl, hv, hj, hvol, h60⟩ := plB_inv hb
    obtain ⟨o1, o2⟩ := off_pl hv hj
    have hlen := plN_length sh j
    have g4 := lt_of (xs := plN sh j) (by omega)
    have hm : plB sh (volW sh) = false := by
      rw [plB, decide_eq_false (p := volW sh < volW sh) (by omega), Bool.and_false]
    simp only [Bool.and_self, Bool.and_true, Bool.true_and, cond_true, cond_false, Bool.not_true, Bool.not_false, bne_self_eq_false, beq_self_eq_true, decide_true, eq_self, plD, hb, g1, g4, hm, offS, hv, o1, o2, hlen, Int.toNat_natCast]

namespace laws_FnPlaceOfOrder
noncomputable def E : Entry := ⟨4, true, false, fun | [.d (.ints .u8 bs)] => bytesB bs | _ => false, fun | [.d (.ints .u8 bs)] => ([.one ((.bool true), false)], []) | _ => ([], []), fun _ => [], false, fun _ => none⟩
end laws_FnPlaceOfOrder
namespace laws_FnPlaceOfOrder
noncomputable def X : List Entry := [spec_DrawPlaceOf.E, impl_PlaceOf.E, spec_PlaceOf.E, laws_equalInts.E]
noncomputable def I : List Inl := [⟨4, Try.f4, ⟨[17, 23, 29, 57], [(1000010, [0, 1, 2, 3, 4, 6, 7, 8, 12, 13, 14, 15, 16, 17, 18, 19, 20, 21, 22, 23, 24, 25, 26, 27, 28, 29, 30, 31, 32, 33, 34, 35, 36, 37, 38, 39, 40, 41, 42, 43, 44, 45, 46, 47, 48, 49, 50, 51, 52, 53, 54, 55, 56, 57, 58, 59, 60, 61, 62, 63, 64, 65, 66, 67, 68, 69, 70, 71, 72, 73, 74, 75, 76, 77, 78, 79, 80, 81, 82, 83, 84, 85, 86, 87, 88, 89, 90, 91, 92, 93, 94])], [], [(12, [0, 1, 2, 3, 4, 5, 6, 9, 10, 7, 8, 11, 12, 13, 14]), (14, [0, 1, 4, 5, 2, 3, 6, 7, 8])], [], []⟩⟩]
theorem I_ok : ∀ i ∈ I, Try.prog.funcs[i.f]? = some i.fn ∧ (i.fn.name == "runtime.NumGoroutine") = false := by
  intro i hi
  simp only [I, List.mem_cons, List.not_mem_nil, or_false] at hi
  subst hi
  exact ⟨by kernel_rfl, by kernel_rfl⟩
noncomputable abbrev L0 (fuel n : Nat) (s : St) (k : Kont) := lAt Try.prog X I fuel true 0 false 4 (bodyOf Try.f4) [1, 1, 1, 1, 1, 1, 1, 0, 1, 0] n s k
noncomputable abbrev k0  (fuel : Nat) : Kont := (kAt Try.prog X I fuel true 0 false 4 (bodyOf Try.f4) [1, 1, 1, 1, 1, 1, 1, 0, 1, 0] [] (endK Try.prog Try.f4))
noncomputable def t0 (p0 : List Int) (x0q1 : Int) : St := ⟨[.dead, .dead, .dead, .dead, .dead, (.all 1000000000 1), .dead, .dead, .dead, (.all 1000000001 1), (.imm (.bool (plB ((aShV (cutC p0) 0)) ((IntKind.wrap .i64 ((dPn (cutC p0)) + 1)))))), (.imm (.int .i64 x0q1)), .dead, .dead, .dead, .dead, .dead, .dead, .dead, .dead, .dead, .dead, .dead, .dead, .dead, .dead, .dead, .dead, .dead, .dead, .dead, .dead, .dead, .dead, .dead, .dead, .dead, .dead, .dead, .dead, .dead, .dead, .dead, .dead, .dead, .dead, .dead, .dead, .dead, .dead, .dead, .dead, .dead, .dead, .dead, .dead, .dead, .dead, .dead, .dead, .dead, .dead, .dead, .dead, .dead, .dead, .dead, .dead, .dead, .dead, .dead, .dead, .dead, .dead, .dead, .dead, .dead, .dead, .dead, .dead, .dead, .dead, .dead, .dead, .dead, .dead, .dead, .dead, .dead, .dead, .dead, .dead, .dead, .dead, .dead], hOf [(1000000000, (.ints .i64 (plD ((aShV (cutC p0) 0)) ((dPn (cutC p0)))))), (1000000001, (.ints .i64 (plD ((aShV (cutC p0) 0)) ((IntKind.wrap .i64 ((dPn (cutC p0)) + 1))))))], [], []⟩
theorem e (fuel : Nat) (p0 : List Int) : runF Try.prog X I 0 fuel 4 Try.f4 [.d (.ints .u8 p0)] =
  (bif (decide ((((p0.length : Nat) : Int) : Int) > 1048576)) then
  some ([.one ((.bool true), false)], [])
  else
  (bif bytesB p0 then
  (bif decide (((aShV (cutC p0) 0)).length < 9223372036854775808) then
  (bif decide (((aShV (cutC p0) 0)).length < 9223372036854775808) then
  (bif decide (((plD ((aShV (cutC p0) 0)) ((dPn (cutC p0))))).length < 9223372036854775808) && decide (((plD ((aShV (cutC p0) 0)) ((dPn (cutC p0))))).length < 9223372036854775808) then
  (bif (!(decide (((plD ((aShV (cutC p0) 0)) ((dPn (cutC p0))))) = ((plD ((aShV (cutC p0) 0)) ((dPn (cutC p0)))))))) then
  (bif decide (((plD ((aShV (cutC p0) 0)) ((dPn (cutC p0))))).length < 9223372036854775808) && decide (((plD ((aShV (cutC p0) 0)) ((dPn (cutC p0))))).length < 9223372036854775808) then
  (bif (decide (((plD ((aShV (cutC p0) 0)) ((dPn (cutC p0))))) = ((plD ((aShV (cutC p0) 0)) ((dPn (cutC p0))))))) then
  some ([.one ((.bool ((plB ((aShV (cutC p0) 0)) ((dPn (cutC p0)))) == (plB ((aShV (cutC p0) 0)) ((dPn (cutC p0)))))), false)], [])
  else
  some ([.one ((.bool false), false)], []))
  else
  none)
  else
  (bif (!((plB ((aShV (cutC p0) 0)) ((dPn (cutC p0)))) == (plB ((aShV (cutC p0) 0)) ((dPn (cutC p0)))))) then
  (bif decide (((plD ((aShV (cutC p0) 0)) ((dPn (cutC p0))))).length < 9223372036854775808) && decide (((plD ((aShV (cutC p0) 0)) ((dPn (cutC p0))))).length < 9223372036854775808) then
  (bif (decide (((plD ((aShV (cutC p0) 0)) ((dPn (cutC p0))))) = ((plD ((aShV (cutC p0) 0)) ((dPn (cutC p0))))))) then
  some ([.one ((.bool ((plB ((aShV (cutC p0) 0)) ((dPn (cutC p0)))) == (plB ((aShV (cutC p0) 0)) ((dPn (cutC p0)))))), false)], [])
  else
  some ([.one ((.bool false), false)], []))
  else
  none)
  else
  (bif (!(plB ((aShV (cutC p0) 0)) ((dPn (cutC p0))))) then
  (bif decide (((plD ((aShV (cutC p0) 0)) ((dPn (cutC p0))))).length < 9223372036854775808) && decide (((plD ((aShV (cutC p0) 0)) ((dPn (cutC p0))))).length < 9223372036854775808) then
  (bif (decide (((plD ((aShV (cutC p0) 0)) ((dPn (cutC p0))))) = ((plD ((aShV (cutC p0) 0)) ((dPn (cutC p0))))))) then
  some ([.one ((.bool ((plB ((aShV (cutC p0) 0)) ((dPn (cutC p0)))) == (plB ((aShV (cutC p0) 0)) ((dPn (cutC p0)))))), false)], [])
  else
  some ([.one ((.bool false), false)], []))
  else
  none)
  else
  (bif decide (((aShV (cutC p0) 0)).length < 9223372036854775808) then
  L0 fuel fuel (t0 p0 0) (k0  fuel)
  else
  none))))
  else
  none)
  else
  none)
  else
  none)
  else
  none)) := by kernel_rfl
theorem s0 (fuel n0 : Nat) (p0 : List Int) (x0q1 : Int) : L0 fuel (n0 + 1) (t0 p0 x0q1) (k0  fuel) =
  (bif (decide ((x0q1 : Int) < (((plD ((aShV (cutC p0) 0)) ((dPn (cutC p0)))).length : Nat) : Int))) then
  (bif (plB ((aShV (cutC p0) 0)) ((IntKind.wrap .i64 ((dPn (cutC p0)) + 1)))) then
  (bif (decide ((x0q1 : Int) ≥ (((plD ((aShV (cutC p0) 0)) ((IntKind.wrap .i64 ((dPn (cutC p0)) + 1)))).length : Nat) : Int))) then
  some ([.one ((.bool false), false)], [])
  else
  (idx x0q1 (plD ((aShV (cutC p0) 0)) ((IntKind.wrap .i64 ((dPn (cutC p0)) + 1)))).length).bind fun j17 =>
  ((plD ((aShV (cutC p0) 0)) ((IntKind.wrap .i64 ((dPn (cutC p0)) + 1))))[j17]?).bind fun v18 =>
  (idx x0q1 (plD ((aShV (cutC p0) 0)) ((dPn (cutC p0)))).length).bind fun j19 =>
  ((plD ((aShV (cutC p0) 0)) ((dPn (cutC p0))))[j19]?).bind fun v20 =>
  (bif (decide ((v18 : Int) < v20)) then
  some ([.one ((.bool false), false)], [])
  else
  (idx x0q1 (plD ((aShV (cutC p0) 0)) ((IntKind.wrap .i64 ((dPn (cutC p0)) + 1)))).length).bind fun j21 =>
  ((plD ((aShV (cutC p0) 0)) ((IntKind.wrap .i64 ((dPn (cutC p0)) + 1))))[j21]?).bind fun v22 =>
  (idx x0q1 (plD ((aShV (cutC p0) 0)) ((dPn (cutC p0)))).length).bind fun j23 =>
  ((plD ((aShV (cutC p0) 0)) ((dPn (cutC p0))))[j23]?).bind fun v24 =>
  (bif (decide ((v22 : Int) > v24)) then
  some ([.one ((.bool true), false)], [])
  else
  L0 fuel n0 (t0 p0 ((IntKind.wrap .i64 (x0q1 + 1)))) (k0  fuel))))
  else
  some ([.one ((.bool (!(plB ((aShV (cutC p0) 0)) ((IntKind.wrap .i64 ((dPn (cutC p0)) + 1)))))), false)], []))
  else
  some ([.one ((.bool (!(plB ((aShV (cutC p0) 0)) ((IntKind.wrap .i64 ((dPn (cutC p0)) + 1)))))), false)], [])) := by kernel_rfl
end laws_FnPlaceOfOrder
theorem laws_FnPlaceOfOrder.ok_of (hX : ∀ E ∈ laws_FnPlaceOfOrder.X, CallSpec Try.prog E) (h : ∀ (bs : List Int), (bytesB bs) = true → ∃ fuel, runF Try.prog laws_FnPlaceOfOrder.X laws_FnPlaceOfOrder.I 0 fuel 4 Try.f4 [.d (.ints .u8 bs)] = some ([.one ((.bool true), false)], [])) : CallSpec Try.prog laws_FnPlaceOfOrder.E :=
  callSpec_of (d := 0) hX (by kernel_rfl) laws_FnPlaceOfOrder.I_ok (by kernel_rfl) (by kernel_rfl) (by kernel_rfl) (fun _ _ _ _ h => by dsimp only [laws_FnPlaceOfOrder.E] at h; cases h) (fun xs hp => by
    dsimp only [laws_FnPlaceOfOrder.E] at hp ⊢
    split at hp
    · exact h _ hp
    · cases hp)
theorem laws_FnPlaceOfOrder.ok : CallSpec Try.prog laws_FnPlaceOfOrder.E := laws_FnPlaceOfOrder.ok_of (by simp [laws_FnPlaceOfOrder.X, spec_DrawPlaceOf.ok, impl_PlaceOf.ok, spec_PlaceOf.ok, laws_equalInts.ok]) fun bs h => by
  obtain ⟨F, hF⟩ : ∃ F : Nat, 4000 < F := ⟨4001, by omega⟩
  refine ⟨F, ?_⟩
  rw [laws_FnPlaceOfOrder.e]
  by_cases hl : ((bs.length : Nat) : Int) > 1048576
  · rw [decide_eq_true hl]; rfl
  rw [decide_eq_false hl, cond_false, h, cond_true]
  have r0 := cut_ok h (p := 0) (by omega) (by omega)
  have a1 := aSh_len (cutC bs) 0
  obtain ⟨sh, hsh⟩ : ∃ x, aShV (cutC bs) 0 = x := ⟨_, rfl⟩
  obtain ⟨n, hn⟩ : ∃ x, dPn (cutC bs) = x := ⟨_, rfl⟩
  rw [hsh] at a1
  have g1 := lt_of (xs := sh) (by omega)
  have g2 := lt_of (xs := plD sh n) (by have := pl_len sh n; omega)
  simp only [hsh, hn]
  cases hb : plB sh n with
  | false =>
    simp only [plD, hb, g1, cond_true, cond_false]
    rfl
  | true =>
    obtain ⟨k, rfl, hv, hk, hvol, h60⟩ := plB_inv hb
    have hr := (validS_inv hv).1
    have hlen := plN_length sh k
    have g4 := lt_of (xs := plN sh k) (by omega)
    have hw : IntKind.wrap .i64 ((k : Int) + 1) = ((k + 1 : Nat) : Int) := w1 (by omega)
    simp only [Bool.and_self, Bool.and_true, Bool.true_and, cond_true, cond_false, Bool.not_true, Bool.not_false, bne_self_eq_false, beq_self_eq_true, decide_true, eq_self, plD, hb, g1, g4, Int.toNat_natCast]
    cases hb2 : plB sh ((k + 1 : Nat) : Int) with
    | false =>
      obtain ⟨F, rfl⟩ : ∃ f, F = f + 1 := ⟨F - 1, by omega⟩
      rw [show (0 : Int) = ((0 : Nat) : Int) from rfl, laws_FnPlaceOfOrder.s0]
      simp only [hsh, hn, plD, hb, hw, hb2, cond_false, Bool.not_false]
      cases decide (((0 : Nat) : Int) < (((bif true then plN sh (k : Int).toNat else ([] : List Int)).length : Nat) : Int)) <;> rfl
    | true =>
      obtain ⟨j, hj, _, hjk, _, _⟩ := plB_inv hb2
      obtain ⟨i, hi, heq, hlt⟩ := next_pl hv (n := k) (by omega)
      have hl2 := plN_length sh (k + 1)
      refine cnt_loop (N := i + 1) (fun n j (_ : Unit) => laws_FnPlaceOfOrder.L0 F n (laws_FnPlaceOfOrder.t0 bs (j : Int)) (laws_FnPlaceOfOrder.k0 F)) (fun j _ => j ≤ i) ?_ ?_ F 0 () (by omega) (by omega) (by omega)
      · intro n _ hI
        exact absurd hI (by omega)
      · intro n j _ hj hI
        have j1 : j < (plN sh k).length := by omega
        have j2 : j < (plN sh (k + 1)).length := by omega
        rw [laws_FnPlaceOfOrder.s0]
        simp only [hsh, hn, plD, hb, hw, hb2, cond_true, Int.toNat_natCast]
        rw [dlt j1, cond_true, decide_eq_false (by omega), cond_false, idx_nat j2, idx_nat j1]
        simp only [Option.bind_some, getD_get j1, getD_get j2]
        by_cases hji : j = i
        · subst hji
          refine .inl ?_
          rw [decide_eq_false (p := (plN sh (k + 1)).getD j 0 < (plN sh k).getD j 0) (by omega), cond_false, decide_eq_true (p := (plN sh (k + 1)).getD j 0 > (plN sh k).getD j 0) hlt, cond_true]
        · have he := heq j (by omega)
          refine .inr ⟨(), by omega, ?_⟩
          rw [he, decide_eq_false (by omega), cond_false, cond_false, w1 (by omega)]

namespace spec_reader_one
noncomputable def E : Entry := ⟨51, false, false, fun | [.box [(.ints .u8 bs), (.int .i64 p)], .d (.ints .i64 xs)] => rdOk bs p && decide (0 < (xs : List Int).length) && decide ((xs : List Int).length ≤ 1048576) | _ => false, fun | [.box [(.ints .u8 bs), (.int .i64 p)], .d (.ints .i64 xs)] => ([.one ((.int .i64 (oneV bs p xs)), false)], [[(.ints .u8 bs), (.int .i64 (p + 1))]]) | _ => ([], []), fun _ => [], false, fun _ => none⟩
end spec_reader_one
namespace spec_reader_one
noncomputable def X : List Entry := [spec_reader_pick.E]
noncomputable def I : List Inl := [⟨51, Try.f51, ⟨[], [], [], [], [], []⟩⟩]
theorem I_ok : ∀ i ∈ I, Try.prog.funcs[i.f]? = some i.fn ∧ (i.fn.name == "runtime.NumGoroutine") = false := by
  intro i hi
  simp only [I, List.mem_cons, List.not_mem_nil, or_false] at hi
  subst hi
  exact ⟨by kernel_rfl, by kernel_rfl⟩
theorem e (fuel : Nat) (p0q0 : List Int) (p0q1 : Int) (p1 : List Int) : runF Try.prog X I 0 fuel 51 Try.f51 [.box [(.ints .u8 p0q0), (.int .i64 p0q1)], .d (.ints .i64 p1)] =
  (bif rdOk p0q0 p0q1 && decide (((((p1.length : Nat) : Int)) : Int) ≤ 1048576) then
  (idx (pickV p0q0 p0q1 (((p1.length : Nat) : Int))) p1.length).bind fun j1 =>
  (p1[j1]?).bind fun v2 =>
  some ([.one ((.int .i64 v2), false)], [[(.ints .u8 p0q0), (.int .i64 (p0q1 + 1))]])
  else
  none) := by kernel_rfl
end spec_reader_one
theorem spec_reader_one.ok_of (hX : ∀ E ∈ spec_reader_one.X, CallSpec Try.prog E) (h : ∀ (bs : List Int) (p : Int) (xs : List Int), (rdOk bs p && decide (0 < (xs : List Int).length) && decide ((xs : List Int).length ≤ 1048576)) = true → ∃ fuel, runF Try.prog spec_reader_one.X spec_reader_one.I 0 fuel 51 Try.f51 [.box [(.ints .u8 bs), (.int .i64 p)], .d (.ints .i64 xs)] = some ([.one ((.int .i64 (oneV bs p xs)), false)], [[(.ints .u8 bs), (.int .i64 (p + 1))]])) : CallSpec Try.prog spec_reader_one.E :=
  callSpec_of (d := 0) hX (by kernel_rfl) spec_reader_one.I_ok (by kernel_rfl) (by kernel_rfl) (by kernel_rfl) (fun _ _ _ _ h => by dsimp only [spec_reader_one.E] at h; cases h) (fun xs hp => by
    dsimp only [spec_reader_one.E] at hp ⊢
    split at hp
    · exact h _ _ _ hp
    · cases hp)
theorem spec_reader_one.ok : CallSpec Try.prog spec_reader_one.E := spec_reader_one.ok_of (by simp [spec_reader_one.X, spec_reader_pick.ok]) fun bs p xs h => ⟨0, by
  simp only [Bool.and_eq_true, decide_eq_true_eq] at h
  have hb := pick_bd (n := ((xs.length : Nat) : Int)) h.1.1 (by omega)
  have hi : idx (pickV bs p ((xs.length : Nat) : Int)) xs.length = some (pickV bs p ((xs.length : Nat) : Int)).toNat := by unfold idx; rw [if_pos hb]
  have g : (pickV bs p ((xs.length : Nat) : Int)).toNat < xs.length := by omega
  rw [spec_reader_one.e, h.1.1, decide_eq_true (p := (((xs.length : Nat) : Int) ≤ 1048576)) (by omega), hi]
  unfold oneV
  simp [g]⟩

namespace spec_someNum
noncomputable def E : Entry := ⟨52, false, false, fun | [.box [(.ints .u8 bs), (.int .i64 p)]] => rdOk bs p | _ => false, fun | [.box [(.ints .u8 bs), (.int .i64 p)]] => ([.one ((.int .i64 (oneV bs p someL)), false)], [[(.ints .u8 bs), (.int .i64 (p + 1))]]) | _ => ([], []), fun _ => [], false, fun _ => none⟩
end spec_someNum
namespace spec_someNum
noncomputable def X : List Entry := [spec_reader_one.E]
noncomputable def I : List Inl := [⟨52, Try.f52, ⟨[], [], [], [], [4], []⟩⟩]
theorem I_ok : ∀ i ∈ I, Try.prog.funcs[i.f]? = some i.fn ∧ (i.fn.name == "runtime.NumGoroutine") = false := by
  intro i hi
  simp only [I, List.mem_cons, List.not_mem_nil, or_false] at hi
  subst hi
  exact ⟨by kernel_rfl, by kernel_rfl⟩
theorem e (fuel : Nat) (p0q0 : List Int) (p0q1 : Int) : runF Try.prog X I 0 fuel 52 Try.f52 [.box [(.ints .u8 p0q0), (.int .i64 p0q1)]] =
  (bif rdOk p0q0 p0q1 && decide (0 < (([0, 1, 2, 3, (-1), 5, 7, (-4), 1000000, (-1000000), 10, 1]) : List Int).length) && decide ((([0, 1, 2, 3, (-1), 5, 7, (-4), 1000000, (-1000000), 10, 1]) : List Int).length ≤ 1048576) then
  some ([.one ((.int .i64 (oneV p0q0 p0q1 ([0, 1, 2, 3, (-1), 5, 7, (-4), 1000000, (-1000000), 10, 1]))), false)], [[(.ints .u8 p0q0), (.int .i64 (p0q1 + 1))]])
  else
  none) := by kernel_rfl
end spec_someNum
theorem spec_someNum.ok_of (hX : ∀ E ∈ spec_someNum.X, CallSpec Try.prog E) (h : ∀ (bs : List Int) (p : Int), (rdOk bs p) = true → ∃ fuel, runF Try.prog spec_someNum.X spec_someNum.I 0 fuel 52 Try.f52 [.box [(.ints .u8 bs), (.int .i64 p)]] = some ([.one ((.int .i64 (oneV bs p someL)), false)], [[(.ints .u8 bs), (.int .i64 (p + 1))]])) : CallSpec Try.prog spec_someNum.E :=
  callSpec_of (d := 0) hX (by kernel_rfl) spec_someNum.I_ok (by kernel_rfl) (by kernel_rfl) (by kernel_rfl) (fun _ _ _ _ h => by dsimp only [spec_someNum.E] at h; cases h) (fun xs hp => by
    dsimp only [spec_someNum.E] at hp ⊢
    split at hp
    · exact h _ _ hp
    · cases hp)
theorem spec_someNum.ok : CallSpec Try.prog spec_someNum.E := spec_someNum.ok_of (by simp [spec_someNum.X, spec_reader_one.ok]) fun bs p h => ⟨0, by
  rw [spec_someNum.e, h]
  rfl⟩

namespace spec_copyInts
noncomputable def E : Entry := ⟨53, false, false, fun | [.d (.ints .i64 xs)] => szB xs | _ => false, fun | [.d (.ints .i64 xs)] => ([.one ((.ints .i64 xs), true)], []) | _ => ([], []), fun _ => [], true, fun _ => none⟩
end spec_copyInts
namespace spec_copyInts
noncomputable def X : List Entry := []
noncomputable def I : List Inl := [⟨53, Try.f53, ⟨[], [], [], [], [], []⟩⟩]
theorem I_ok : ∀ i ∈ I, Try.prog.funcs[i.f]? = some i.fn ∧ (i.fn.name == "runtime.NumGoroutine") = false := by
  intro i hi
  simp only [I, List.mem_cons, List.not_mem_nil, or_false] at hi
  subst hi
  exact ⟨by kernel_rfl, by kernel_rfl⟩
theorem e (fuel : Nat) (p0 : List Int) : runF Try.prog X I 0 fuel 53 Try.f53 [.d (.ints .i64 p0)] =
  (bif fits (([] : List Int).length + p0.length) 8 then
  some ([.one ((.ints .i64 (([] : List Int) ++ p0)), true)], [])
  else
  none) := by kernel_rfl
end spec_copyInts
theorem spec_copyInts.ok_of (hX : ∀ E ∈ spec_copyInts.X, CallSpec Try.prog E) (h : ∀ (xs : List Int), (szB xs) = true → ∃ fuel, runF Try.prog spec_copyInts.X spec_copyInts.I 0 fuel 53 Try.f53 [.d (.ints .i64 xs)] = some ([.one ((.ints .i64 xs), true)], [])) : CallSpec Try.prog spec_copyInts.E :=
  callSpec_of (d := 0) hX (by kernel_rfl) spec_copyInts.I_ok (by kernel_rfl) (by kernel_rfl) (by kernel_rfl) (fun _ _ _ _ h => by dsimp only [spec_copyInts.E] at h; cases h) (fun xs hp => by
    dsimp only [spec_copyInts.E] at hp ⊢
    split at hp
    · exact h _ hp
    · cases hp)
theorem spec_copyInts.ok : CallSpec Try.prog spec_copyInts.E := spec_copyInts.ok_of (by simp [spec_copyInts.X]) fun xs h => ⟨0, by
  have hx := szB_le h
  rw [spec_copyInts.e, fitsOk (by simp; omega)]
  rfl⟩

namespace spec_make1
noncomputable def E : Entry := ⟨43, false, false, fun | [.d (.ints .i64 sh), .d (.ints .i64 da)] => szB sh && szB da | _ => false, fun | [.d (.ints .i64 sh), .d (.ints .i64 da)] => ([.agg [((.ints .i64 sh), true), ((.ints .i64 da), true)]], []) | _ => ([], []), fun _ => [], true, fun _ => none⟩
end spec_make1
namespace spec_make1
noncomputable def X : List Entry := [spec_copyInts.E]
noncomputable def I : List Inl := [⟨43, Try.f43, ⟨[6, 8], [], [], [], [], []⟩⟩]
theorem I_ok : ∀ i ∈ I, Try.prog.funcs[i.f]? = some i.fn ∧ (i.fn.name == "runtime.NumGoroutine") = false := by
  intro i hi
  simp only [I, List.mem_cons, List.not_mem_nil, or_false] at hi
  subst hi
  exact ⟨by kernel_rfl, by kernel_rfl⟩
theorem e (fuel : Nat) (p0 : List Int) (p1 : List Int) : runF Try.prog X I 0 fuel 43 Try.f43 [.d (.ints .i64 p0), .d (.ints .i64 p1)] =
  (bif szB p0 then
  (bif szB p1 then
  some ([.agg [((.ints .i64 p0), true), ((.ints .i64 p1), true)]], [])
  else
  none)
  else
  none) := by kernel_rfl
end spec_make1
theorem spec_make1.ok_of (hX : ∀ E ∈ spec_make1.X, CallSpec Try.prog E) (h : ∀ (sh : List Int) (da : List Int), (szB sh && szB da) = true → ∃ fuel, runF Try.prog spec_make1.X spec_make1.I 0 fuel 43 Try.f43 [.d (.ints .i64 sh), .d (.ints .i64 da)] = some ([.agg [((.ints .i64 sh), true), ((.ints .i64 da), true)]], [])) : CallSpec Try.prog spec_make1.E :=
  callSpec_of (d := 0) hX (by kernel_rfl) spec_make1.I_ok (by kernel_rfl) (by kernel_rfl) (by kernel_rfl) (fun _ _ _ _ h => by dsimp only [spec_make1.E] at h; cases h) (fun xs hp => by
    dsimp only [spec_make1.E] at hp ⊢
    split at hp
    · exact h _ _ hp
    · cases hp)
theorem spec_make1.ok : CallSpec Try.prog spec_make1.E := spec_make1.ok_of (by simp [spec_make1.X, spec_copyInts.ok]) fun sh da h => ⟨0, by
  simp only [Bool.and_eq_true] at h
  rw [spec_make1.e, h.1, h.2]
  rfl⟩

namespace spec_fill
noncomputable def E : Entry := ⟨54, false, false, fun | [.box [(.ints .u8 bs), (.int .i64 p)], .d (.ints .i64 sh)] => rdOk bs p && decide ((p : Int) ≤ 2000000) && validS sh | _ => false, fun | [.box [(.ints .u8 bs), (.int .i64 p)], .d (.ints .i64 sh)] => ([.agg [((.ints .i64 sh), true), ((.ints .i64 (fillV bs p sh)), true)]], [[(.ints .u8 bs), (.int .i64 (p + volW sh))]]) | _ => ([], []), fun _ => [], false, fun _ => none⟩
end spec_fill
namespace spec_fill
noncomputable def X : List Entry := [spec_volume.E, spec_someNum.E, spec_make1.E]
noncomputable def I : List Inl := [⟨54, Try.f54, ⟨[21], [(1000003, [2, 3, 7, 8, 9, 10, 11, 12, 13, 14, 15, 16, 17, 18, 19, 20, 21])], [], [], [], []⟩⟩]
theorem I_ok : ∀ i ∈ I, Try.prog.funcs[i.f]? = some i.fn ∧ (i.fn.name == "runtime.NumGoroutine") = false := by
  intro i hi
  simp only [I, List.mem_cons, List.not_mem_nil, or_false] at hi
  subst hi
  exact ⟨by kernel_rfl, by kernel_rfl⟩
noncomputable abbrev L0 (fuel n : Nat) (s : St) (k : Kont) := lAt Try.prog X I fuel false 0 false 54 (bodyOf Try.f54) [1, 1, 0, 1, 0] n s k
noncomputable abbrev k0  (fuel : Nat) : Kont := (kAt Try.prog X I fuel false 0 false 54 (bodyOf Try.f54) [1, 1, 0, 1, 0] [] (endK Try.prog Try.f54))
noncomputable def t0 (p1 : List Int) (p0q0 : List Int) (x0q1 : Int) (x0q3 : Int) (x0q4 : List Int) : St := ⟨[(.ptr 1000000000 0 0), (.imm (.ints .i64 p1)), .dead, .dead, (.ptr 1000000001 0 0), (.all 1000000002 1), (.imm (.int .i64 x0q1)), .dead, .dead, .dead, .dead, .dead, .dead, .dead, .dead, .dead, .dead, .dead, .dead, .dead, .dead, .dead], hOf [(1000000000, (.box [(.imm (.ints .u8 p0q0)), (.imm (.int .i64 x0q3))])), (1000000001, (.box [(.imm .nils), (.imm .nils)])), (1000000002, (.ints .i64 x0q4))], [(.ptr 1000000000 0 0)], []⟩
theorem e (fuel : Nat) (p0q0 : List Int) (p0q1 : Int) (p1 : List Int) : runF Try.prog X I 0 fuel 54 Try.f54 [.box [(.ints .u8 p0q0), (.int .i64 p0q1)], .d (.ints .i64 p1)] =
  L0 fuel fuel (t0 p1 p0q0 0 p0q1 ([])) (k0  fuel) := by kernel_rfl
theorem s0 (fuel n0 : Nat) (p1 : List Int) (p0q0 : List Int) (x0q1 : Int) (x0q3 : Int) (x0q4 : List Int) : L0 fuel (n0 + 1) (t0 p1 p0q0 x0q1 x0q3 x0q4) (k0  fuel) =
  (bif decide (p1.length < 9223372036854775808) then
  (bif (decide ((x0q1 : Int) < (volW p1))) then
  (bif rdOk p0q0 x0q3 then
  (bif fits (x0q4.length + ([(oneV p0q0 x0q3 someL)] : List Int).length) 8 then
  L0 fuel n0 (t0 p1 p0q0 ((IntKind.wrap .i64 (x0q1 + 1))) ((x0q3 + 1)) ((x0q4 ++ [(oneV p0q0 x0q3 someL)]))) (k0  fuel)
  else
  none)
  else
  none)
  else
  (bif szB p1 && szB x0q4 then
  some ([.agg [((.ints .i64 p1), true), ((.ints .i64 x0q4), true)]], [[(.ints .u8 p0q0), (.int .i64 x0q3)]])
  else
  none))
  else
  none) := by kernel_rfl
end spec_fill
theorem spec_fill.ok_of (hX : ∀ E ∈ spec_fill.X, CallSpec Try.prog E) (h : ∀ (bs : List Int) (p : Int) (sh : List Int), (rdOk bs p && decide ((p : Int) ≤ 2000000) && validS sh) = true → ∃ fuel, runF Try.prog spec_fill.X spec_fill.I 0 fuel 54 Try.f54 [.box [(.ints .u8 bs), (.int .i64 p)], .d (.ints .i64 sh)] = some ([.agg [((.ints .i64 sh), true), ((.ints .i64 (fillV bs p sh)), true)]], [[(.ints .u8 bs), (.int .i64 (p + volW sh))]])) : CallSpec Try.prog spec_fill.E :=
  callSpec_of (d := 0) hX (by kernel_rfl) spec_fill.I_ok (by kernel_rfl) (by kernel_rfl) (by kernel_rfl) (fun _ _ _ _ h => by dsimp only [spec_fill.E] at h; cases h) (fun xs hp => by
    dsimp only [spec_fill.E] at hp ⊢
    split at hp
    · exact h _ _ _ hp
    · cases hp)
theorem spec_fill.loop (fuel : Nat) (bs : List Int) (p : Int) (sh : List Int) (h : rdOk bs p = true) (hp : p ≤ 2000000) (hv : validS sh = true) : ∀ (m n j : Nat) (out : List Int), (volW sh).toNat - j = m → m < n → j ≤ (volW sh).toNat → out = tab j (fun i => oneV bs (p + ((i : Nat) : Int)) someL) →
    spec_fill.L0 fuel n (spec_fill.t0 sh bs (j : Int) (p + (j : Int)) out) (spec_fill.k0 fuel) = some ([.agg [(.ints .i64 sh, true), (.ints .i64 (fillV bs p sh), true)]], [[(.ints .u8 bs), (.int .i64 (p + volW sh))]]) := by
  have hl := (validS_inv hv).1
  have hb := vol_bd hv
  intro m
  induction m with
  | zero =>
    intro n j out h1 h2 h3 h4
    obtain ⟨n, rfl⟩ : ∃ n', n = n' + 1 := ⟨n - 1, by omega⟩
    have ho : out.length = j := by rw [h4, tab_length]
    rw [spec_fill.s0, decide_eq_true (p := sh.length < 9223372036854775808) (by omega), decide_eq_false (p := (j : Int) < volW sh) (by omega), szB_of (xs := sh) (by omega), szB_of (xs := out) (by omega), h4, show p + (j : Int) = p + volW sh by omega, show j = (volW sh).toNat by omega]
    rfl
  | succ m ih =>
    intro n j out h1 h2 h3 h4
    obtain ⟨n, rfl⟩ : ∃ n', n = n' + 1 := ⟨n - 1, by omega⟩
    have ho : out.length = j := by rw [h4, tab_length]
    rw [spec_fill.s0, decide_eq_true (p := sh.length < 9223372036854775808) (by omega), decide_eq_true (p := (j : Int) < volW sh) (by omega), rd_le (q := p + (j : Int)) h (by omega) (by omega), fitsOk (by simp; omega), w1 (by omega), show p + (j : Int) + 1 = p + ((j + 1 : Nat) : Int) by omega]
    exact ih n (j + 1) _ (by omega) (by omega) (by omega) (by rw [tab_succ, h4])
theorem spec_fill.ok : CallSpec Try.prog spec_fill.E := spec_fill.ok_of (by simp [spec_fill.X, spec_volume.ok, spec_someNum.ok, spec_make1.ok]) fun bs p sh h => by
  simp only [Bool.and_eq_true, decide_eq_true_eq] at h
  have hb := vol_bd h.2
  obtain ⟨F, hF⟩ : ∃ F : Nat, 60 < F := ⟨61, by omega⟩
  refine ⟨F, ?_⟩
  have := spec_fill.loop F bs p sh h.1.1 h.1.2 h.2 _ F 0 [] rfl (by omega) (by omega) rfl
  rw [spec_fill.e]
  rw [show p + ((0 : Nat) : Int) = p by omega] at this
  exact this

namespace spec_someArray
noncomputable def E : Entry := ⟨49, false, false, fun | [.box [(.ints .u8 bs), (.int .i64 p)]] => rdOk bs p && decide ((p : Int) ≤ 1000000) | _ => false, fun | [.box [(.ints .u8 bs), (.int .i64 p)]] => ([.agg [((.ints .i64 (sShV bs p)), true), ((.ints .i64 (sDaV bs p)), true)]], [[(.ints .u8 bs), (.int .i64 (sDaP bs p))]]) | _ => ([], []), fun _ => [], false, fun _ => none⟩
end spec_someArray
namespace spec_someArray
noncomputable def X : List Entry := [spec_someShape.E, spec_fill.E]
noncomputable def I : List Inl := [⟨49, Try.f49, ⟨[6], [], [], [], [], []⟩⟩]
theorem I_ok : ∀ i ∈ I, Try.prog.funcs[i.f]? = some i.fn ∧ (i.fn.name == "runtime.NumGoroutine") = false := by
  intro i hi
  simp only [I, List.mem_cons, List.not_mem_nil, or_false] at hi
  subst hi
  exact ⟨by kernel_rfl, by kernel_rfl⟩
theorem e (fuel : Nat) (p0q0 : List Int) (p0q1 : Int) : runF Try.prog X I 0 fuel 49 Try.f49 [.box [(.ints .u8 p0q0), (.int .i64 p0q1)]] =
  (bif rdOk p0q0 p0q1 && decide ((p0q1 : Int) ≤ 2000000) then
  (bif rdOk p0q0 ((sShP p0q0 p0q1)) && decide ((((sShP p0q0 p0q1)) : Int) ≤ 2000000) && validS ((sShV p0q0 p0q1)) then
  some ([.agg [((.ints .i64 ((sShV p0q0 p0q1))), true), ((.ints .i64 (fillV p0q0 ((sShP p0q0 p0q1)) ((sShV p0q0 p0q1)))), true)]], [[(.ints .u8 p0q0), (.int .i64 (((sShP p0q0 p0q1)) + volW ((sShV p0q0 p0q1))))]])
  else
  none)
  else
  none) := by kernel_rfl
end spec_someArray
theorem spec_someArray.ok_of (hX : ∀ E ∈ spec_someArray.X, CallSpec Try.prog E) (h : ∀ (bs : List Int) (p : Int), (rdOk bs p && decide ((p : Int) ≤ 1000000)) = true → ∃ fuel, runF Try.prog spec_someArray.X spec_someArray.I 0 fuel 49 Try.f49 [.box [(.ints .u8 bs), (.int .i64 p)]] = some ([.agg [((.ints .i64 (sShV bs p)), true), ((.ints .i64 (sDaV bs p)), true)]], [[(.ints .u8 bs), (.int .i64 (sDaP bs p))]])) : CallSpec Try.prog spec_someArray.E :=
  callSpec_of (d := 0) hX (by kernel_rfl) spec_someArray.I_ok (by kernel_rfl) (by kernel_rfl) (by kernel_rfl) (fun _ _ _ _ h => by dsimp only [spec_someArray.E] at h; cases h) (fun xs hp => by
    dsimp only [spec_someArray.E] at hp ⊢
    split at hp
    · exact h _ _ hp
    · cases hp)
theorem spec_someArray.ok : CallSpec Try.prog spec_someArray.E := spec_someArray.ok_of (by simp [spec_someArray.X, spec_someShape.ok, spec_fill.ok]) fun bs p h => ⟨0, by
  simp only [Bool.and_eq_true, decide_eq_true_eq] at h
  have b := sShP_bd bs p
  have hs := sShV_ok h.1 (by omega)
  rw [spec_someArray.e, h.1, rd_le (q := sShP bs p) h.1 (by omega) (by omega), decide_eq_true (p := p ≤ 2000000) (by omega), decide_eq_true (p := sShP bs p ≤ 2000000) (by omega), hs]
  rfl⟩

namespace spec_reader_spoil
noncomputable def E : Entry := ⟨50, false, false, fun | [.box [(.ints .u8 bs), (.int .i64 p)], .d (.ints .i64 xs), .d (.int .i64 n)] => rdOk bs p && decide ((p : Int) ≤ 2000000) && decide ((xs : List Int).length ≤ 1000000) | _ => false, fun | [.box [(.ints .u8 bs), (.int .i64 p)], .d (.ints .i64 xs), .d (.int .i64 n)] => ([.one ((.ints .i64 (spV bs p xs n)), false)], [[(.ints .u8 bs), (.int .i64 (spP bs p xs))]]) | _ => ([], []), fun _ => [], false, fun _ => none⟩
end spec_reader_spoil
namespace spec_reader_spoil
noncomputable def X : List Entry := [spec_copyInts.E, spec_reader_pick.E, spec_reader_one.E]
noncomputable def I : List Inl := [⟨50, Try.f50, ⟨[9], [], [(7, [7]), (11, [7])], [], [37], []⟩⟩]
theorem I_ok : ∀ i ∈ I, Try.prog.funcs[i.f]? = some i.fn ∧ (i.fn.name == "runtime.NumGoroutine") = false := by
  intro i hi
  simp only [I, List.mem_cons, List.not_mem_nil, or_false] at hi
  subst hi
  exact ⟨by kernel_rfl, by kernel_rfl⟩
theorem e (fuel : Nat) (p0q0 : List Int) (p0q1 : Int) (p1 : List Int) (p2 : Int) : runF Try.prog X I 0 fuel 50 Try.f50 [.box [(.ints .u8 p0q0), (.int .i64 p0q1)], .d (.ints .i64 p1), .d (.int .i64 p2)] =
  (bif szB p1 then
  (bif rdOk p0q0 p0q1 && decide ((20 : Int) ≤ 1048576) then
  (bif (((pickV p0q0 p0q1 20) : Int) == 0) then
  (bif fits (p1.length + ([p2] : List Int).length) 8 then
  some ([.one ((.ints .i64 (p1 ++ [p2])), false)], [[(.ints .u8 p0q0), (.int .i64 (p0q1 + 1))]])
  else
  none)
  else
  (bif (((pickV p0q0 p0q1 20) : Int) == 1) then
  (bif (decide ((((p1.length : Nat) : Int) : Int) > 0)) then
  (cutEnds p1.length (some (.imm (.int .i64 1))) (none)).bind fun cq1 =>
  some ([.one ((.ints .i64 ((p1.drop cq1.1).take (cq1.2 - cq1.1))), false)], [[(.ints .u8 p0q0), (.int .i64 (p0q1 + 1))]])
  else
  some ([.one ((.ints .i64 p1), false)], [[(.ints .u8 p0q0), (.int .i64 (p0q1 + 1))]]))
  else
  (bif (((pickV p0q0 p0q1 20) : Int) == 2) then
  (bif (decide ((((p1.length : Nat) : Int) : Int) > 0)) then
  (bif rdOk p0q0 ((p0q1 + 1)) && decide (((((p1.length : Nat) : Int)) : Int) ≤ 1048576) then
  (bif rdOk p0q0 ((((p0q1 + 1)) + 1)) && decide (0 < (([(-1), p2, 0, 1]) : List Int).length) && decide ((([(-1), p2, 0, 1]) : List Int).length ≤ 1048576) then
  (idx (pickV p0q0 ((p0q1 + 1)) (((p1.length : Nat) : Int))) p1.length).bind fun j2 =>
  (bif decide (j2 < p1.length) then
  some ([.one ((.ints .i64 (p1.set j2 (oneV p0q0 ((((p0q1 + 1)) + 1)) ([(-1), p2, 0, 1])))), false)], [[(.ints .u8 p0q0), (.int .i64 (((((p0q1 + 1)) + 1)) + 1))]])
  else
  none)
  else
  none)
  else
  none)
  else
  some ([.one ((.ints .i64 p1), false)], [[(.ints .u8 p0q0), (.int .i64 (p0q1 + 1))]]))
  else
  some ([.one ((.ints .i64 p1), false)], [[(.ints .u8 p0q0), (.int .i64 (p0q1 + 1))]]))))
  else
  none)
  else
  none) := by kernel_rfl
end spec_reader_spoil
theorem spec_reader_spoil.ok_of (hX : ∀ E ∈ spec_reader_spoil.X, CallSpec Try.prog E) (h : ∀ (bs : List Int) (p : Int) (xs : List Int) (n : Int), (rdOk bs p && decide ((p : Int) ≤ 2000000) && decide ((xs : List Int).length ≤ 1000000)) = true → ∃ fuel, runF Try.prog spec_reader_spoil.X spec_reader_spoil.I 0 fuel 50 Try.f50 [.box [(.ints .u8 bs), (.int .i64 p)], .d (.ints .i64 xs), .d (.int .i64 n)] = some ([.one ((.ints .i64 (spV bs p xs n)), false)], [[(.ints .u8 bs), (.int .i64 (spP bs p xs))]])) : CallSpec Try.prog spec_reader_spoil.E :=
  callSpec_of (d := 0) hX (by kernel_rfl) spec_reader_spoil.I_ok (by kernel_rfl) (by kernel_rfl) (by kernel_rfl) (fun _ _ _ _ h => by dsimp only [spec_reader_spoil.E] at h; cases h) (fun xs hp => by
    dsimp only [spec_reader_spoil.E] at hp ⊢
    split at hp
    · exact h _ _ _ _ hp
    · cases hp)
theorem spec_reader_spoil.ok : CallSpec Try.prog spec_reader_spoil.E := spec_reader_spoil.ok_of (by simp [spec_reader_spoil.X, spec_copyInts.ok, spec_reader_pick.ok, spec_reader_one.ok]) fun bs p xs n h => ⟨0, by
  simp only [Bool.and_eq_true, decide_eq_true_eq] at h
  obtain ⟨⟨h1, h2⟩, h3⟩ := h
  have r1 := rd_le (q := p + 1) h1 (by omega) (by omega)
  have r2 := rd_le (q := p + 1 + 1) h1 (by omega) (by omega)
  rw [spec_reader_spoil.e, szB_of (by omega), h1]
  unfold spV spP
  simp only [Bool.true_and, cond_true]
  rw [decide_eq_true (p := (20 : Int) ≤ 1048576) (by omega), cond_true]
  cases pickV bs p 20 == 0 with
  | true => rw [fitsOk (by simp only [List.length_cons, List.length_nil]; omega)]; rfl
  | false =>
    cases pickV bs p 20 == 1 with
    | true =>
      simp only [cond_true, cond_false]
      by_cases h0 : xs.length = 0
      · have e := List.length_eq_zero_iff.mp h0
        subst e
        rfl
      · rw [decide_eq_true (p := ((xs.length : Nat) : Int) > 0) (by omega), cond_true, cut_one (by omega)]
        simp only [Option.bind_some]
        rw [drop_take]
    | false =>
      cases pickV bs p 20 == 2 with
      | false => rfl
      | true =>
        simp only [cond_true, cond_false]
        by_cases h0 : xs.length = 0
        · have e := List.length_eq_zero_iff.mp h0
          subst e
          rfl
        · have pb := pick_bd (n := ((xs.length : Nat) : Int)) r1 (by omega)
          have hi : idx (pickV bs (p + 1) ((xs.length : Nat) : Int)) xs.length = some (pickV bs (p + 1) ((xs.length : Nat) : Int)).toNat := by
            simp only [idx]
            rw [if_pos (by omega)]
          rw [decide_eq_true (p := ((xs.length : Nat) : Int) > 0) (by omega), cond_true, r1, r2, decide_eq_true (p := ((xs.length : Nat) : Int) ≤ 1048576) (by omega), hi, decide_eq_true (p := 0 < xs.length) (by omega)]
          simp only [Bool.true_and, cond_true, Option.bind_some]
          rw [decide_eq_true (p := (pickV bs (p + 1) ((xs.length : Nat) : Int)).toNat < xs.length) (by omega)]
          rfl⟩

namespace spec_anyArray
noncomputable def E : Entry := ⟨34, false, false, fun | [.box [(.ints .u8 bs), (.int .i64 p)]] => rdOk bs p && decide ((p : Int) ≤ 1000000) | _ => false, fun | [.box [(.ints .u8 bs), (.int .i64 p)]] => ([.agg [((.ints .i64 (aArS bs p)), false), ((.ints .i64 (aArD bs p)), false)]], [[(.ints .u8 bs), (.int .i64 (aArP bs p))]]) | _ => ([], []), fun _ => [], false, fun _ => none⟩
end spec_anyArray
namespace spec_anyArray
noncomputable def X : List Entry := [spec_someArray.E, spec_reader_pick.E, spec_anyShape.E, spec_reader_spoil.E]
noncomputable def I : List Inl := [⟨34, Try.f34, ⟨[5, 11, 20], [], [(7, [3, 3]), (3000020, [19])], [], [], [20]⟩⟩]
theorem I_ok : ∀ i ∈ I, Try.prog.funcs[i.f]? = some i.fn ∧ (i.fn.name == "runtime.NumGoroutine") = false := by
  intro i hi
  simp only [I, List.mem_cons, List.not_mem_nil, or_false] at hi
  subst hi
  exact ⟨by kernel_rfl, by kernel_rfl⟩
theorem e (fuel : Nat) (p0q0 : List Int) (p0q1 : Int) : runF Try.prog X I 0 fuel 34 Try.f34 [.box [(.ints .u8 p0q0), (.int .i64 p0q1)]] =
  (bif rdOk p0q0 p0q1 && decide ((p0q1 : Int) ≤ 1000000) then
  (bif rdOk p0q0 ((sDaP p0q0 p0q1)) && decide ((30 : Int) ≤ 1048576) then
  (bif (((pickV p0q0 ((sDaP p0q0 p0q1)) 30) : Int) == 0) then
  (bif rdOk p0q0 ((((sDaP p0q0 p0q1)) + 1)) && decide ((((((sDaP p0q0 p0q1)) + 1)) : Int) ≤ 2000000) then
  some ([.agg [((.ints .i64 (aShV p0q0 ((((sDaP p0q0 p0q1)) + 1)))), false), ((.ints .i64 (sDaV p0q0 p0q1)), false)]], [[(.ints .u8 p0q0), (.int .i64 (sShP p0q0 ((((sDaP p0q0 p0q1)) + 1)) + 1))]])
  else
  none)
  else
  (bif (((pickV p0q0 ((sDaP p0q0 p0q1)) 30) : Int) == 1) then
  (bif fits ((sDaV p0q0 p0q1).length + ([5] : List Int).length) 8 then
  (bif rdOk p0q0 ((((sDaP p0q0 p0q1)) + 1)) && decide ((((((sDaP p0q0 p0q1)) + 1)) : Int) ≤ 2000000) && decide (((((sDaV p0q0 p0q1) ++ [5])) : List Int).length ≤ 1000000) then
  some ([.agg [((.ints .i64 (sShV p0q0 p0q1)), false), ((.ints .i64 (spV p0q0 ((((sDaP p0q0 p0q1)) + 1)) (((sDaV p0q0 p0q1) ++ [5])) 1000001)), false)]], [[(.ints .u8 p0q0), (.int .i64 (spP p0q0 ((((sDaP p0q0 p0q1)) + 1)) (((sDaV p0q0 p0q1) ++ [5]))))]])
  else
  none)
  else
  none)
  else
  some ([.agg [((.ints .i64 (sShV p0q0 p0q1)), false), ((.ints .i64 (sDaV p0q0 p0q1)), false)]], [[(.ints .u8 p0q0), (.int .i64 (((sDaP p0q0 p0q1)) + 1))]])))
  else
  none)
  else
  none) := by kernel_rfl
end spec_anyArray
theorem spec_anyArray.ok_of (hX : ∀ E ∈ spec_anyArray.X, CallSpec Try.prog E) (h : ∀ (bs : List Int) (p : Int), (rdOk bs p && decide ((p : Int) ≤ 1000000)) = true → ∃ fuel, runF Try.prog spec_anyArray.X spec_anyArray.I 0 fuel 34 Try.f34 [.box [(.ints .u8 bs), (.int .i64 p)]] = some ([.agg [((.ints .i64 (aArS bs p)), false), ((.ints .i64 (aArD bs p)), false)]], [[(.ints .u8 bs), (.int .i64 (aArP bs p))]])) : CallSpec Try.prog spec_anyArray.E :=
  callSpec_of (d := 0) hX (by kernel_rfl) spec_anyArray.I_ok (by kernel_rfl) (by kernel_rfl) (by kernel_rfl) (fun _ _ _ _ h => by dsimp only [spec_anyArray.E] at h; cases h) (fun xs hp => by
    dsimp only [spec_anyArray.E] at hp ⊢
    split at hp
    · exact h _ _ hp
    · cases hp)
theorem spec_anyArray.ok : CallSpec Try.prog spec_anyArray.E := spec_anyArray.ok_of (by simp [spec_anyArray.X, spec_someArray.ok, spec_reader_pick.ok, spec_anyShape.ok, spec_reader_spoil.ok]) fun bs p h => ⟨0, by
  simp only [Bool.and_eq_true, decide_eq_true_eq] at h
  obtain ⟨h1, h2, h3⟩ := sDa_bd h.1 (by omega)
  have r1 := rd_le (q := sDaP bs p) h.1 (by omega) (by omega)
  have r2 := rd_le (q := sDaP bs p + 1) h.1 (by omega) (by omega)
  have hz : (sDaV bs p ++ [5]).length ≤ 1000000 := by rw [List.length_append]; simp; omega
  rw [spec_anyArray.e, h.1, r1, r2, decide_eq_true (p := p ≤ 1000000) h.2, decide_eq_true (p := (30 : Int) ≤ 1048576) (by omega), decide_eq_true (p := sDaP bs p + 1 ≤ 2000000) (by omega), fitsOk (by simp only [List.length_cons, List.length_nil]; omega), decide_eq_true hz]
  unfold aArS aArD aArP
  cases pickV bs (sDaP bs p) 30 == 0 with
  | true => rfl
  | false =>
    cases pickV bs (sDaP bs p) 30 == 1 with
    | true => rfl
    | false => rfl⟩

namespace spec_anyPlace
noncomputable def E : Entry := ⟨35, false, false, fun | [.box [(.ints .u8 bs), (.int .i64 p)], .d (.ints .i64 sh)] => rdOk bs p && decide ((p : Int) ≤ 1000000) && decide ((sh : List Int).length ≤ 1000) | _ => false, fun | [.box [(.ints .u8 bs), (.int .i64 p)], .d (.ints .i64 sh)] => ([.one ((.ints .i64 (aPl bs p sh)), false)], [[(.ints .u8 bs), (.int .i64 (aPlP bs p sh))]]) | _ => ([], []), fun _ => [], false, fun _ => none⟩
end spec_anyPlace
namespace spec_anyPlace
noncomputable def X : List Entry := [spec_reader_pick.E, spec_reader_spoil.E]
noncomputable def I : List Inl := [⟨35, Try.f35, ⟨[32], [(1000003, [2, 3, 4, 7, 8, 9, 10, 11, 12, 13, 14, 15, 16, 17, 18, 19, 20, 21, 22, 23, 24, 25, 26, 27, 28, 29, 30, 31, 32, 33])], [(8, [5]), (3000032, [31])], [], [], [32]⟩⟩]
theorem I_ok : ∀ i ∈ I, Try.prog.funcs[i.f]? = some i.fn ∧ (i.fn.name == "runtime.NumGoroutine") = false := by
  intro i hi
  simp only [I, List.mem_cons, List.not_mem_nil, or_false] at hi
  subst hi
  exact ⟨by kernel_rfl, by kernel_rfl⟩
noncomputable abbrev L0 (fuel n : Nat) (s : St) (k : Kont) := lAt Try.prog X I fuel false 0 false 35 (bodyOf Try.f35) [1, 1, 0, 1, 0] n s k
noncomputable abbrev k0  (fuel : Nat) : Kont := (kAt Try.prog X I fuel false 0 false 35 (bodyOf Try.f35) [1, 1, 0, 1, 0] [] (endK Try.prog Try.f35))
noncomputable def t0 (p1 : List Int) (p0q0 : List Int) (x0q1 : Int) (x0q3 : Int) (x0q4 : List Int) : St := ⟨[(.ptr 1000000000 0 0), (.imm (.ints .i64 p1)), .dead, .dead, .dead, (.all 1000000001 1), (.imm (.int .i64 x0q1)), .dead, .dead, .dead, .dead, .dead, .dead, .dead, .dead, .dead, .dead, .dead, .dead, .dead, .dead, .dead, .dead, .dead, .dead, .dead, .dead, .dead, .dead, .dead, .dead, .dead, .dead, .dead], hOf [(1000000000, (.box [(.imm (.ints .u8 p0q0)), (.imm (.int .i64 x0q3))])), (1000000001, (.ints .i64 x0q4))], [(.ptr 1000000000 0 0)], []⟩
theorem e (fuel : Nat) (p0q0 : List Int) (p0q1 : Int) (p1 : List Int) : runF Try.prog X I 0 fuel 35 Try.f35 [.box [(.ints .u8 p0q0), (.int .i64 p0q1)], .d (.ints .i64 p1)] =
  L0 fuel fuel (t0 p1 p0q0 0 p0q1 ([])) (k0  fuel) := by kernel_rfl
theorem s0 (fuel n0 : Nat) (p1 : List Int) (p0q0 : List Int) (x0q1 : Int) (x0q3 : Int) (x0q4 : List Int) : L0 fuel (n0 + 1) (t0 p1 p0q0 x0q1 x0q3 x0q4) (k0  fuel) =
  (bif (decide ((x0q1 : Int) < ((p1.length : Nat) : Int))) then
  (idx x0q1 p1.length).bind fun j5 =>
  (p1[j5]?).bind fun v6 =>
  (bif rdOk p0q0 x0q3 && decide ((((maxI 1 (minI v6 9))) : Int) ≤ 1048576) then
  (bif fits (x0q4.length + ([(pickV p0q0 x0q3 ((maxI 1 (minI v6 9))))] : List Int).length) 8 then
  L0 fuel n0 (t0 p1 p0q0 ((IntKind.wrap .i64 (x0q1 + 1))) ((x0q3 + 1)) ((x0q4 ++ [(pickV p0q0 x0q3 ((maxI 1 (minI v6 9))))]))) (k0  fuel)
  else
  none)
  else
  none)
  else
  (bif rdOk p0q0 x0q3 && decide ((8 : Int) ≤ 1048576) then
  (bif (((pickV p0q0 x0q3 8) : Int) == 0) then
  (bif fits (x0q4.length + ([0] : List Int).length) 8 then
  (bif rdOk p0q0 ((x0q3 + 1)) && decide ((((x0q3 + 1)) : Int) ≤ 2000000) && decide ((((x0q4 ++ [0])) : List Int).length ≤ 1000000) then
  some ([.one ((.ints .i64 (spV p0q0 ((x0q3 + 1)) ((x0q4 ++ [0])) 4)), false)], [[(.ints .u8 p0q0), (.int .i64 (spP p0q0 ((x0q3 + 1)) ((x0q4 ++ [0]))))]])
  else
  none)
  else
  none)
  else
  some ([.one ((.ints .i64 x0q4), false)], [[(.ints .u8 p0q0), (.int .i64 (x0q3 + 1))]]))
  else
  none)) := by kernel_rfl
end spec_anyPlace
theorem spec_anyPlace.ok_of (hX : ∀ E ∈ spec_anyPlace.X, CallSpec Try.prog E) (h : ∀ (bs : List Int) (p : Int) (sh : List Int), (rdOk bs p && decide ((p : Int) ≤ 1000000) && decide ((sh : List Int).length ≤ 1000)) = true → ∃ fuel, runF Try.prog spec_anyPlace.X spec_anyPlace.I 0 fuel 35 Try.f35 [.box [(.ints .u8 bs), (.int .i64 p)], .d (.ints .i64 sh)] = some ([.one ((.ints .i64 (aPl bs p sh)), false)], [[(.ints .u8 bs), (.int .i64 (aPlP bs p sh))]])) : CallSpec Try.prog spec_anyPlace.E :=
  callSpec_of (d := 0) hX (by kernel_rfl) spec_anyPlace.I_ok (by kernel_rfl) (by kernel_rfl) (by kernel_rfl) (fun _ _ _ _ h => by dsimp only [spec_anyPlace.E] at h; cases h) (fun xs hp => by
    dsimp only [spec_anyPlace.E] at hp ⊢
    split at hp
    · exact h _ _ _ hp
    · cases hp)
theorem spec_anyPlace.ok : CallSpec Try.prog spec_anyPlace.E := spec_anyPlace.ok_of (by simp [spec_anyPlace.X, spec_reader_pick.ok, spec_reader_spoil.ok]) fun bs p sh h => by
  obtain ⟨F, hF⟩ : ∃ F : Nat, 1000 < F := ⟨1001, by omega⟩
  refine ⟨F, ?_⟩
  simp only [Bool.and_eq_true, decide_eq_true_eq] at h
  obtain ⟨⟨h1, h2⟩, h3⟩ := h
  have hlen := aPl0_length bs p sh
  rw [spec_anyPlace.e]
  refine run_loop (N := sh.length) (fun n j (st : Int × List Int) => spec_anyPlace.L0 F n (spec_anyPlace.t0 sh bs (j : Int) st.1 st.2) (spec_anyPlace.k0 F)) (fun j st => st.1 = p + ((j : Nat) : Int) ∧ st.2 = (aPl0 bs p sh).take j) ?_ ?_ F 0 (p, []) (by omega) (by omega) ⟨by simp, by simp⟩
  · rintro n ⟨q, out⟩ ⟨e1, e2⟩
    simp only at e1 e2
    rw [← hlen, List.take_length] at e2
    subst e1
    subst e2
    have r1 := rd_le (q := p + ((sh.length : Nat) : Int)) h1 (by omega) (by omega)
    have r2 := rd_le (q := p + ((sh.length : Nat) : Int) + 1) h1 (by omega) (by omega)
    have hz : (aPl0 bs p sh ++ [0]).length ≤ 1000000 := by rw [List.length_append, List.length_cons, List.length_nil]; omega
    rw [spec_anyPlace.s0, dge (by omega), cond_false, r1, r2, fitsOk (by simp only [List.length_cons, List.length_nil]; omega), decide_eq_true hz, decide_eq_true (p := (8 : Int) ≤ 1048576) (by omega), decide_eq_true (p := p + ((sh.length : Nat) : Int) + 1 ≤ 2000000) (by omega)]
    unfold aPl aPlP
    cases pickV bs (p + ((sh.length : Nat) : Int)) 8 == 0 <;> rfl
  · rintro n j ⟨q, out⟩ hj ⟨e1, e2⟩
    simp only at e1 e2
    subst e1
    have hol : out.length = j := by rw [e2, take_len (by omega)]
    have r1 := rd_le (q := p + ((j : Nat) : Int)) h1 (by omega) (by omega)
    have hm : maxI 1 (minI (sh.getD j 0) 9) ≤ 1048576 := by unfold maxI minI; split <;> split <;> omega
    rw [spec_anyPlace.s0, dlt hj, cond_true, idx_nat hj, w1 (by omega)]
    simp only [Option.bind_some, getD_get hj]
    rw [r1, decide_eq_true hm, fitsOk (by simp only [List.length_cons, List.length_nil]; omega)]
    simp only [Bool.and_self, cond_true]
    refine ⟨(p + ((j + 1 : Nat) : Int), out ++ [pickV bs (p + ((j : Nat) : Int)) (maxI 1 (minI (sh.getD j 0) 9))]), ⟨rfl, ?_⟩, by rw [show p + ((j + 1 : Nat) : Int) = p + ((j : Nat) : Int) + 1 by omega]⟩
    simp only
    rw [e2]
    refine take_push (by omega) ?_
    simp only [aPl0]
    rw [tab_getD hj]

namespace spec_DrawItemAt
noncomputable def E : Entry := ⟨15, false, false, fun | [.d (.ints .u8 bs)] => bytesB bs | _ => false, fun | [.d (.ints .u8 bs)] => ([.agg [((.ints .i64 (aArS (cutC bs) 0)), false), ((.ints .i64 (aArD (cutC bs) 0)), false)], .one ((.ints .i64 (aPl (cutC bs) (aArP (cutC bs) 0) (aArS (cutC bs) 0))), false)], []) | _ => ([], []), fun _ => [], true, fun _ => none⟩
end spec_DrawItemAt
namespace spec_DrawItemAt
noncomputable def X : List Entry := [spec_newReader.E, spec_anyArray.E, spec_anyPlace.E]
noncomputable def I : List Inl := [⟨15, Try.f15, ⟨[9, 14], [], [(3, [5])], [], [10], []⟩⟩]
theorem I_ok : ∀ i ∈ I, Try.prog.funcs[i.f]? = some i.fn ∧ (i.fn.name == "runtime.NumGoroutine") = false := by
  intro i hi
  simp only [I, List.mem_cons, List.not_mem_nil, or_false] at hi
  subst hi
  exact ⟨by kernel_rfl, by kernel_rfl⟩
theorem e (fuel : Nat) (p0 : List Int) : runF Try.prog X I 0 fuel 15 Try.f15 [.d (.ints .u8 p0)] =
  (bif rdOk ((cutC p0)) 0 && decide ((0 : Int) ≤ 1000000) then
  (bif rdOk (((cutC p0))) ((aArP ((cutC p0)) 0)) && decide ((((aArP ((cutC p0)) 0)) : Int) ≤ 1000000) && decide ((((aArS ((cutC p0)) 0)) : List Int).length ≤ 1000) then
  some ([.agg [((.ints .i64 (aArS ((cutC p0)) 0)), false), ((.ints .i64 (aArD ((cutC p0)) 0)), false)], .one ((.ints .i64 (aPl (((cutC p0))) ((aArP ((cutC p0)) 0)) ((aArS ((cutC p0)) 0)))), false)], [])
  else
  none)
  else
  none) := by kernel_rfl
end spec_DrawItemAt
theorem spec_DrawItemAt.ok_of (hX : ∀ E ∈ spec_DrawItemAt.X, CallSpec Try.prog E) (h : ∀ (bs : List Int), (bytesB bs) = true → ∃ fuel, runF Try.prog spec_DrawItemAt.X spec_DrawItemAt.I 0 fuel 15 Try.f15 [.d (.ints .u8 bs)] = some ([.agg [((.ints .i64 (aArS (cutC bs) 0)), false), ((.ints .i64 (aArD (cutC bs) 0)), false)], .one ((.ints .i64 (aPl (cutC bs) (aArP (cutC bs) 0) (aArS (cutC bs) 0))), false)], [])) : CallSpec Try.prog spec_DrawItemAt.E :=
  callSpec_of (d := 0) hX (by kernel_rfl) spec_DrawItemAt.I_ok (by kernel_rfl) (by kernel_rfl) (by kernel_rfl) (fun _ _ _ _ h => by dsimp only [spec_DrawItemAt.E] at h; cases h) (fun xs hp => by
    dsimp only [spec_DrawItemAt.E] at hp ⊢
    split at hp
    · exact h _ hp
    · cases hp)
theorem spec_DrawItemAt.ok : CallSpec Try.prog spec_DrawItemAt.E := spec_DrawItemAt.ok_of (by simp [spec_DrawItemAt.X, spec_newReader.ok, spec_anyArray.ok, spec_anyPlace.ok]) fun bs h => ⟨0, by
  have r0 := cut_ok h (p := 0) (by omega) (by omega)
  obtain ⟨a1, a2, a3, a4⟩ := aAr_bd r0 (by omega)
  have r1 := rd_le (q := aArP (cutC bs) 0) r0 (by omega) (by omega)
  rw [spec_DrawItemAt.e, r0, r1, decide_eq_true (p := aArP (cutC bs) 0 ≤ 1000000) (by omega), decide_eq_true (p := (aArS (cutC bs) 0).length ≤ 1000) (by omega)]
  rfl⟩

namespace impl_isNumber
noncomputable def E : Entry := ⟨40, true, false, fun | [.d (.int .i64 v)] => true | _ => false, fun | [.d (.int .i64 v)] => ([.one ((.bool (numB v)), false)], []) | _ => ([], []), fun _ => [], false, fun _ => none⟩
end impl_isNumber
namespace impl_isNumber
noncomputable def X : List Entry := []
noncomputable def I : List Inl := [⟨40, Try.f40, ⟨[], [], [], [], [], []⟩⟩]
theorem I_ok : ∀ i ∈ I, Try.prog.funcs[i.f]? = some i.fn ∧ (i.fn.name == "runtime.NumGoroutine") = false := by
  intro i hi
  simp only [I, List.mem_cons, List.not_mem_nil, or_false] at hi
  subst hi
  exact ⟨by kernel_rfl, by kernel_rfl⟩
theorem e (fuel : Nat) (p0 : Int) : runF Try.prog X I 0 fuel 40 Try.f40 [.d (.int .i64 p0)] =
  (bif (decide (((-1000000) : Int) ≤ p0)) then
  some ([.one ((.bool (decide ((p0 : Int) ≤ 1000000))), false)], [])
  else
  some ([.one ((.bool false), false)], [])) := by kernel_rfl
end impl_isNumber
theorem impl_isNumber.ok_of (hX : ∀ E ∈ impl_isNumber.X, CallSpec Try.prog E) (h : ∀ (v : Int), (true) = true → ∃ fuel, runF Try.prog impl_isNumber.X impl_isNumber.I 0 fuel 40 Try.f40 [.d (.int .i64 v)] = some ([.one ((.bool (numB v)), false)], [])) : CallSpec Try.prog impl_isNumber.E :=
  callSpec_of (d := 0) hX (by kernel_rfl) impl_isNumber.I_ok (by kernel_rfl) (by kernel_rfl) (by kernel_rfl) (fun _ _ _ _ h => by dsimp only [impl_isNumber.E] at h; cases h) (fun xs hp => by
    dsimp only [impl_isNumber.E] at hp ⊢
    split at hp
    · exact h _ hp
    · cases hp)
theorem impl_isNumber.ok : CallSpec Try.prog impl_isNumber.E := impl_isNumber.ok_of (by simp [impl_isNumber.X]) fun v _ => ⟨0, by
  rw [impl_isNumber.e]
  unfold numB
  cases decide (-1000000 ≤ v) <;> rfl⟩

namespace impl_ValidArray
noncomputable def E : Entry := ⟨18, true, false, fun | [.d (.agg [(.ints .i64 sh), (.ints .i64 da)])] => decide (sh.length < 9223372036854775808) && decide (da.length < 9223372036854775808) | _ => false, fun | [.d (.agg [(.ints .i64 sh), (.ints .i64 da)])] => ([.one ((.bool (validA sh da)), false)], []) | _ => ([], []), fun _ => [], false, fun _ => none⟩
end impl_ValidArray
namespace impl_ValidArray
noncomputable def X : List Entry := [impl_layoutOf.E, impl_isNumber.E]
noncomputable def I : List Inl := [⟨18, Try.f18, ⟨[10], [(1000005, [0, 1, 2, 3, 4, 5, 6, 7, 8, 9, 10, 11, 12, 13, 14, 15, 16, 17, 18, 19, 20, 21, 22, 23, 27, 28, 29, 30, 31, 32, 33])], [], [], [], []⟩⟩]
theorem I_ok : ∀ i ∈ I, Try.prog.funcs[i.f]? = some i.fn ∧ (i.fn.name == "runtime.NumGoroutine") = false := by
  intro i hi
  simp only [I, List.mem_cons, List.not_mem_nil, or_false] at hi
  subst hi
  exact ⟨by kernel_rfl, by kernel_rfl⟩
noncomputable abbrev L0 (fuel n : Nat) (s : St) (k : Kont) := lAt Try.prog X I fuel true 0 false 18 (bodyOf Try.f18) [1, 1, 1, 0, 1, 0] n s k
noncomputable abbrev k0  (fuel : Nat) : Kont := (kAt Try.prog X I fuel true 0 false 18 (bodyOf Try.f18) [1, 1, 1, 0, 1, 0] [] (endK Try.prog Try.f18))
noncomputable def t0 (p0q1 : List Int) (x0q2 : Int) : St := ⟨[.dead, .dead, .dead, .dead, .dead, .dead, .dead, .dead, .dead, .dead, .dead, .dead, .dead, .dead, .dead, .dead, .dead, .dead, .dead, .dead, .dead, .dead, .dead, .dead, (.imm (.ints .i64 p0q1)), (.imm (.int .i64 ((p0q1.length : Nat) : Int))), (.imm (.int .i64 x0q2)), .dead, .dead, .dead, .dead, .dead, .dead, .dead], hOf [], [], []⟩
theorem e (fuel : Nat) (p0q0 : List Int) (p0q1 : List Int) : runF Try.prog X I 0 fuel 18 Try.f18 [.d (.agg [(.ints .i64 p0q0), (.ints .i64 p0q1)])] =
  (bif decide (p0q0.length < 9223372036854775808) then
  (bif validS p0q0 then
  (bif ((((p0q1.length : Nat) : Int) : Int) != (volW p0q0)) then
  some ([.one ((.bool false), false)], [])
  else
  L0 fuel fuel (t0 p0q1 0) (k0  fuel))
  else
  some ([.one ((.bool false), false)], []))
  else
  none) := by kernel_rfl
theorem s0 (fuel n0 : Nat) (p0q1 : List Int) (x0q2 : Int) : L0 fuel (n0 + 1) (t0 p0q1 x0q2) (k0  fuel) =
  (bif (decide ((x0q2 : Int) < ((p0q1.length : Nat) : Int))) then
  (idx x0q2 p0q1.length).bind fun j5 =>
  (p0q1[j5]?).bind fun v6 =>
  (bif (!(numB v6)) then
  some ([.one ((.bool false), false)], [])
  else
  L0 fuel n0 (t0 p0q1 ((IntKind.wrap .i64 (x0q2 + 1)))) (k0  fuel))
  else
  some ([.one ((.bool true), false)], [])) := by kernel_rfl
end impl_ValidArray
theorem impl_ValidArray.ok_of (hX : ∀ E ∈ impl_ValidArray.X, CallSpec Try.prog E) (h : ∀ (sh : List Int) (da : List Int), (decide (sh.length < 9223372036854775808) && decide (da.length < 9223372036854775808)) = true → ∃ fuel, runF Try.prog impl_ValidArray.X impl_ValidArray.I 0 fuel 18 Try.f18 [.d (.agg [(.ints .i64 sh), (.ints .i64 da)])] = some ([.one ((.bool (validA sh da)), false)], [])) : CallSpec Try.prog impl_ValidArray.E :=
  callSpec_of (d := 0) hX (by kernel_rfl) impl_ValidArray.I_ok (by kernel_rfl) (by kernel_rfl) (by kernel_rfl) (fun _ _ _ _ h => by dsimp only [impl_ValidArray.E] at h; cases h) (fun xs hp => by
    dsimp only [impl_ValidArray.E] at hp ⊢
    split at hp
    · exact h _ _ hp
    · cases hp)
theorem impl_ValidArray.loop (fuel : Nat) (xs : List Int) (hx : xs.length < 9223372036854775808) : ∀ (m n j : Nat), xs.length - j = m → m < n → j ≤ xs.length →
    impl_ValidArray.L0 fuel n (impl_ValidArray.t0 xs (j : Int)) (impl_ValidArray.k0 fuel) = some ([.one (.bool (allB (xs.drop j) (-1000000) 1000000), false)], []) := by
  intro m
  induction m with
  | zero =>
    intro n j h1 h2 h3
    obtain ⟨n, rfl⟩ : ∃ n', n = n' + 1 := ⟨n - 1, by omega⟩
    have hj : ¬ j < xs.length := by omega
    rw [impl_ValidArray.s0, dge hj, dropE hj]
    rfl
  | succ m ih =>
    intro n j h1 h2 h3
    obtain ⟨n, rfl⟩ : ∃ n', n = n' + 1 := ⟨n - 1, by omega⟩
    have hj : j < xs.length := by omega
    rw [impl_ValidArray.s0, dlt hj, idx_nat hj, w1 (by omega), dropS hj]
    simp only [cond_true, Option.bind_some, getS hj, allB_cons, numB_eq]
    rw [ih n (j + 1) (by omega) (by omega) (by omega)]
    cases decide (-1000000 ≤ xs[j]) && decide (xs[j] ≤ 1000000) <;> rfl

theorem impl_ValidArray.ok : CallSpec Try.prog impl_ValidArray.E := impl_ValidArray.ok_of (by simp [impl_ValidArray.X, impl_layoutOf.ok, impl_isNumber.ok]) fun sh da h => by
  simp only [Bool.and_eq_true, decide_eq_true_eq] at h
  refine ⟨da.length + 1, ?_⟩
  rw [impl_ValidArray.e, lt_of h.1]
  have := impl_ValidArray.loop (da.length + 1) da h.2 da.length (da.length + 1) 0 (by omega) (by omega) (by omega)
  simp only [cond_true, List.drop_zero] at this ⊢
  rw [show ((0 : Nat) : Int) = 0 from rfl] at this
  rw [this]
  unfold validA
  cases validS sh
  · rfl
  · cases hb : (((da.length : Nat) : Int) == volW sh) with
    | true => simp [bne, hb]
    | false => simp [bne, hb]

namespace impl_offsetIn
noncomputable def E : Entry := ⟨36, true, false, fun | [.d (.agg [(.ints .i64 sh), (.ints .i64 da)]), .d (.ints .i64 pl)] => decide (sh.length < 9223372036854775808) && decide (da.length < 9223372036854775808) && decide (pl.length < 9223372036854775808) | _ => false, fun | [.d (.agg [(.ints .i64 sh), (.ints .i64 da)]), .d (.ints .i64 pl)] => ([.one ((.int .i64 (offA sh da pl)), false)], []) | _ => ([], []), fun _ => [], false, fun _ => none⟩
end impl_offsetIn
namespace impl_offsetIn
noncomputable def X : List Entry := [impl_ValidArray.E, impl_OffsetOf.E]
noncomputable def I : List Inl := [⟨36, Try.f36, ⟨[], [], [], [], [], []⟩⟩]
theorem I_ok : ∀ i ∈ I, Try.prog.funcs[i.f]? = some i.fn ∧ (i.fn.name == "runtime.NumGoroutine") = false := by
  intro i hi
  simp only [I, List.mem_cons, List.not_mem_nil, or_false] at hi
  subst hi
  exact ⟨by kernel_rfl, by kernel_rfl⟩
theorem e (fuel : Nat) (p0q0 : List Int) (p0q1 : List Int) (p1 : List Int) : runF Try.prog X I 0 fuel 36 Try.f36 [.d (.agg [(.ints .i64 p0q0), (.ints .i64 p0q1)]), .d (.ints .i64 p1)] =
  (bif decide (p0q0.length < 9223372036854775808) && decide (p0q1.length < 9223372036854775808) then
  (bif (!(validA p0q0 p0q1)) then
  some ([.one ((.int .i64 (-1)), false)], [])
  else
  (bif decide (p0q0.length < 9223372036854775808) && decide (p1.length < 9223372036854775808) then
  some ([.one ((.int .i64 (offS p0q0 p1)), false)], [])
  else
  none))
  else
  none) := by kernel_rfl
end impl_offsetIn
theorem impl_offsetIn.ok_of (hX : ∀ E ∈ impl_offsetIn.X, CallSpec Try.prog E) (h : ∀ (sh : List Int) (da : List Int) (pl : List Int), (decide (sh.length < 9223372036854775808) && decide (da.length < 9223372036854775808) && decide (pl.length < 9223372036854775808)) = true → ∃ fuel, runF Try.prog impl_offsetIn.X impl_offsetIn.I 0 fuel 36 Try.f36 [.d (.agg [(.ints .i64 sh), (.ints .i64 da)]), .d (.ints .i64 pl)] = some ([.one ((.int .i64 (offA sh da pl)), false)], [])) : CallSpec Try.prog impl_offsetIn.E :=
  callSpec_of (d := 0) hX (by kernel_rfl) impl_offsetIn.I_ok (by kernel_rfl) (by kernel_rfl) (by kernel_rfl) (fun _ _ _ _ h => by dsimp only [impl_offsetIn.E] at h; cases h) (fun xs hp => by
    dsimp only [impl_offsetIn.E] at hp ⊢
    split at hp
    · exact h _ _ _ hp
    · cases hp)
theorem impl_offsetIn.ok : CallSpec Try.prog impl_offsetIn.E := impl_offsetIn.ok_of (by simp [impl_offsetIn.X, impl_ValidArray.ok, impl_OffsetOf.ok]) fun sh da pl h => ⟨0, by
  simp only [Bool.and_eq_true] at h
  rw [impl_offsetIn.e, h.1.1, h.1.2, h.2]
  unfold offA
  cases validA sh da <;> rfl⟩

namespace impl_ItemAt
noncomputable def E : Entry := ⟨16, true, false, fun | [.d (.agg [(.ints .i64 sh), (.ints .i64 da)]), .d (.ints .i64 pl)] => decide (sh.length < 9223372036854775808) && decide (da.length < 9223372036854775808) && decide (pl.length < 9223372036854775808) | _ => false, fun | [.d (.agg [(.ints .i64 sh), (.ints .i64 da)]), .d (.ints .i64 pl)] => ([.one ((.int .i64 (itemV sh da pl)), false), .one ((.bool (itemB sh da pl)), false)], []) | _ => ([], []), fun _ => [], false, fun _ => none⟩
end impl_ItemAt
namespace impl_ItemAt
noncomputable def X : List Entry := [impl_offsetIn.E]
noncomputable def I : List Inl := [⟨16, Try.f16, ⟨[], [], [], [], [], []⟩⟩]
theorem I_ok : ∀ i ∈ I, Try.prog.funcs[i.f]? = some i.fn ∧ (i.fn.name == "runtime.NumGoroutine") = false := by
  intro i hi
  simp only [I, List.mem_cons, List.not_mem_nil, or_false] at hi
  subst hi
  exact ⟨by kernel_rfl, by kernel_rfl⟩
theorem e (fuel : Nat) (p0q0 : List Int) (p0q1 : List Int) (p1 : List Int) : runF Try.prog X I 0 fuel 16 Try.f16 [.d (.agg [(.ints .i64 p0q0), (.ints .i64 p0q1)]), .d (.ints .i64 p1)] =
  (bif decide (p0q0.length < 9223372036854775808) && decide (p0q1.length < 9223372036854775808) && decide (p1.length < 9223372036854775808) then
  (bif (decide (((offA p0q0 p0q1 p1) : Int) < 0)) then
  some ([.one ((.int .i64 0), false), .one ((.bool false), false)], [])
  else
  (idx (offA p0q0 p0q1 p1) p0q1.length).bind fun j1 =>
  (p0q1[j1]?).bind fun v2 =>
  some ([.one ((.int .i64 v2), false), .one ((.bool true), false)], []))
  else
  none) := by kernel_rfl
end impl_ItemAt
theorem impl_ItemAt.ok_of (hX : ∀ E ∈ impl_ItemAt.X, CallSpec Try.prog E) (h : ∀ (sh : List Int) (da : List Int) (pl : List Int), (decide (sh.length < 9223372036854775808) && decide (da.length < 9223372036854775808) && decide (pl.length < 9223372036854775808)) = true → ∃ fuel, runF Try.prog impl_ItemAt.X impl_ItemAt.I 0 fuel 16 Try.f16 [.d (.agg [(.ints .i64 sh), (.ints .i64 da)]), .d (.ints .i64 pl)] = some ([.one ((.int .i64 (itemV sh da pl)), false), .one ((.bool (itemB sh da pl)), false)], [])) : CallSpec Try.prog impl_ItemAt.E :=
  callSpec_of (d := 0) hX (by kernel_rfl) impl_ItemAt.I_ok (by kernel_rfl) (by kernel_rfl) (by kernel_rfl) (fun _ _ _ _ h => by dsimp only [impl_ItemAt.E] at h; cases h) (fun xs hp => by
    dsimp only [impl_ItemAt.E] at hp ⊢
    split at hp
    · exact h _ _ _ hp
    · cases hp)
theorem impl_ItemAt.ok : CallSpec Try.prog impl_ItemAt.E := impl_ItemAt.ok_of (by simp [impl_ItemAt.X, impl_offsetIn.ok]) fun sh da pl h => ⟨0, by
  rw [impl_ItemAt.e, h]
  unfold itemV
  cases hb : itemB sh da pl with
  | false => rw [item_no hb]; rfl
  | true =>
    obtain ⟨g1, g2, g3, g4⟩ := item_idx hb
    rw [decide_eq_false g4, g3, g2]
    simp [g1]⟩

namespace spec_valid
noncomputable def E : Entry := ⟨37, true, false, fun | [.d (.agg [(.ints .i64 sh), (.ints .i64 da)])] => decide (sh.length < 9223372036854775808) && decide (da.length < 9223372036854775808) | _ => false, fun | [.d (.agg [(.ints .i64 sh), (.ints .i64 da)])] => ([.one ((.bool (validA sh da)), false)], []) | _ => ([], []), fun _ => [], false, fun _ => none⟩
end spec_valid
namespace spec_valid
noncomputable def X : List Entry := [spec_validShape.E, spec_volume.E, spec_allIn.E]
noncomputable def I : List Inl := [⟨37, Try.f37, ⟨[], [], [], [(1, [0, 1, 2, 3, 4, 7, 5, 6, 8, 9, 10, 11, 12, 13, 14, 15, 16, 17])], [], []⟩⟩]
theorem I_ok : ∀ i ∈ I, Try.prog.funcs[i.f]? = some i.fn ∧ (i.fn.name == "runtime.NumGoroutine") = false := by
  intro i hi
  simp only [I, List.mem_cons, List.not_mem_nil, or_false] at hi
  subst hi
  exact ⟨by kernel_rfl, by kernel_rfl⟩
theorem e (fuel : Nat) (p0q0 : List Int) (p0q1 : List Int) : runF Try.prog X I 0 fuel 37 Try.f37 [.d (.agg [(.ints .i64 p0q0), (.ints .i64 p0q1)])] =
  (bif decide (p0q0.length < 9223372036854775808) then
  (bif (validS p0q0) then
  (bif decide (p0q0.length < 9223372036854775808) then
  (bif ((((p0q1.length : Nat) : Int) : Int) == (volW p0q0)) then
  (bif decide (p0q1.length < 9223372036854775808) then
  some ([.one ((.bool (allB p0q1 ((-1000000)) 1000000)), false)], [])
  else
  none)
  else
  some ([.one ((.bool false), false)], []))
  else
  none)
  else
  some ([.one ((.bool false), false)], []))
  else
  none) := by kernel_rfl
end spec_valid
theorem spec_valid.ok_of (hX : ∀ E ∈ spec_valid.X, CallSpec Try.prog E) (h : ∀ (sh : List Int) (da : List Int), (decide (sh.length < 9223372036854775808) && decide (da.length < 9223372036854775808)) = true → ∃ fuel, runF Try.prog spec_valid.X spec_valid.I 0 fuel 37 Try.f37 [.d (.agg [(.ints .i64 sh), (.ints .i64 da)])] = some ([.one ((.bool (validA sh da)), false)], [])) : CallSpec Try.prog spec_valid.E :=
  callSpec_of (d := 0) hX (by kernel_rfl) spec_valid.I_ok (by kernel_rfl) (by kernel_rfl) (by kernel_rfl) (fun _ _ _ _ h => by dsimp only [spec_valid.E] at h; cases h) (fun xs hp => by
    dsimp only [spec_valid.E] at hp ⊢
    split at hp
    · exact h _ _ hp
    · cases hp)
theorem spec_valid.ok : CallSpec Try.prog spec_valid.E := spec_valid.ok_of (by simp [spec_valid.X, spec_validShape.ok, spec_volume.ok, spec_allIn.ok]) fun sh da h => ⟨0, by
  simp only [Bool.and_eq_true] at h
  rw [spec_valid.e, h.1, h.2]
  unfold validA
  cases validS sh <;> cases (((da.length : Nat) : Int) == volW sh) <;> rfl⟩

namespace spec_isPlace
noncomputable def E : Entry := ⟨38, true, false, fun | [.d (.ints .i64 sh), .d (.ints .i64 pl)] => decide (sh.length < 9223372036854775808) && decide (pl.length < 9223372036854775808) | _ => false, fun | [.d (.ints .i64 sh), .d (.ints .i64 pl)] => ([.one ((.bool (isPl sh pl)), false)], []) | _ => ([], []), fun _ => [], false, fun _ => none⟩
end spec_isPlace
namespace spec_isPlace
noncomputable def X : List Entry := [spec_inRange.E]
noncomputable def I : List Inl := [⟨38, Try.f38, ⟨[], [(1000004, [2, 3, 4, 6, 7, 8, 9, 10, 11, 12, 13, 14, 15, 16, 17, 18, 19, 20, 21, 22, 23, 24, 25, 26, 27])], [], [(6, [0, 1, 4, 5, 2, 3, 6, 7, 8, 9, 10])], [], []⟩⟩]
theorem I_ok : ∀ i ∈ I, Try.prog.funcs[i.f]? = some i.fn ∧ (i.fn.name == "runtime.NumGoroutine") = false := by
  intro i hi
  simp only [I, List.mem_cons, List.not_mem_nil, or_false] at hi
  subst hi
  exact ⟨by kernel_rfl, by kernel_rfl⟩
noncomputable abbrev L0 (fuel n : Nat) (s : St) (k : Kont) := lAt Try.prog X I fuel true 0 false 38 (bodyOf Try.f38) [1, 1, 0, 1, 0] n s k
noncomputable abbrev k0  (fuel : Nat) : Kont := (kAt Try.prog X I fuel true 0 false 38 (bodyOf Try.f38) [1, 1, 0, 1, 0] [] (endK Try.prog Try.f38))
noncomputable def t0 (p0 : List Int) (p1 : List Int) (x0q2 : Int) : St := ⟨[(.imm (.ints .i64 p0)), (.imm (.ints .i64 p1)), .dead, .dead, .dead, (.imm (.int .i64 x0q2)), .dead, .dead, .dead, .dead, .dead, .dead, .dead, .dead, .dead, .dead, .dead, .dead, .dead, .dead, .dead, .dead, .dead, .dead, .dead, .dead, .dead, .dead], hOf [], [], []⟩
theorem e (fuel : Nat) (p0 : List Int) (p1 : List Int) : runF Try.prog X I 0 fuel 38 Try.f38 [.d (.ints .i64 p0), .d (.ints .i64 p1)] =
  (bif ((((p1.length : Nat) : Int) : Int) != ((p0.length : Nat) : Int)) then
  some ([.one ((.bool false), false)], [])
  else
  L0 fuel fuel (t0 p0 p1 0) (k0  fuel)) := by kernel_rfl
theorem s0 (fuel n0 : Nat) (p0 : List Int) (p1 : List Int) (x0q2 : Int) : L0 fuel (n0 + 1) (t0 p0 p1 x0q2) (k0  fuel) =
  (bif (decide ((x0q2 : Int) < ((p0.length : Nat) : Int))) then
  (idx x0q2 p1.length).bind fun j9 =>
  (p1[j9]?).bind fun v10 =>
  (idx x0q2 p0.length).bind fun j11 =>
  (p0[j11]?).bind fun v12 =>
  (bif (!(decide (0 ≤ v10) && decide (v10 ≤ ((IntKind.wrap .i64 (v12 - 1)))))) then
  some ([.one ((.bool false), false)], [])
  else
  L0 fuel n0 (t0 p0 p1 ((IntKind.wrap .i64 (x0q2 + 1)))) (k0  fuel))
  else
  some ([.one ((.bool true), false)], [])) := by kernel_rfl
end spec_isPlace
theorem spec_isPlace.ok_of (hX : ∀ E ∈ spec_isPlace.X, CallSpec Try.prog E) (h : ∀ (sh : List Int) (pl : List Int), (decide (sh.length < 9223372036854775808) && decide (pl.length < 9223372036854775808)) = true → ∃ fuel, runF Try.prog spec_isPlace.X spec_isPlace.I 0 fuel 38 Try.f38 [.d (.ints .i64 sh), .d (.ints .i64 pl)] = some ([.one ((.bool (isPl sh pl)), false)], [])) : CallSpec Try.prog spec_isPlace.E :=
  callSpec_of (d := 0) hX (by kernel_rfl) spec_isPlace.I_ok (by kernel_rfl) (by kernel_rfl) (by kernel_rfl) (fun _ _ _ _ h => by dsimp only [spec_isPlace.E] at h; cases h) (fun xs hp => by
    dsimp only [spec_isPlace.E] at hp ⊢
    split at hp
    · exact h _ _ hp
    · cases hp)
theorem spec_isPlace.loop (fuel : Nat) (sh pl : List Int) (hx : sh.length < 9223372036854775808) (hl : pl.length = sh.length) : ∀ (m n j : Nat), sh.length - j = m → m < n → j ≤ sh.length →
    spec_isPlace.L0 fuel n (spec_isPlace.t0 sh pl (j : Int)) (spec_isPlace.k0 fuel) = some ([.one (.bool (isPl (sh.drop j) (pl.drop j)), false)], []) := by
  intro m
  induction m with
  | zero =>
    intro n j h1 h2 h3
    obtain ⟨n, rfl⟩ : ∃ n', n = n' + 1 := ⟨n - 1, by omega⟩
    have hj : ¬ j < sh.length := by omega
    rw [spec_isPlace.s0, dge hj, dropE hj, dropE (xs := pl) (by omega)]
    rfl
  | succ m ih =>
    intro n j h1 h2 h3
    obtain ⟨n, rfl⟩ : ∃ n', n = n' + 1 := ⟨n - 1, by omega⟩
    have hj : j < sh.length := by omega
    have hj2 : j < pl.length := by omega
    rw [spec_isPlace.s0, dlt hj, idx_nat hj, idx_nat hj2, w1 (by omega), dropS hj, dropS hj2]
    simp only [cond_true, Option.bind_some, getS hj, getS hj2, isPl]
    rw [ih n (j + 1) (by omega) (by omega) (by omega)]
    cases decide (0 ≤ pl[j]) && decide (pl[j] ≤ IntKind.wrap .i64 (sh[j] - 1)) <;> rfl

theorem spec_isPlace.ok : CallSpec Try.prog spec_isPlace.E := spec_isPlace.ok_of (by simp [spec_isPlace.X, spec_inRange.ok]) fun sh pl h => by
  simp only [Bool.and_eq_true, decide_eq_true_eq] at h
  refine ⟨sh.length + 1, ?_⟩
  rw [spec_isPlace.e]
  by_cases hl : pl.length = sh.length
  · have := spec_isPlace.loop (sh.length + 1) sh pl h.1 hl sh.length (sh.length + 1) 0 (by omega) (by omega) (by omega)
    simp only [hl, bne_self_eq_false, cond_false]
    exact this
  · rw [isPl_ne hl]
    have : (((pl.length : Nat) : Int) != ((sh.length : Nat) : Int)) = true := by simp; omega
    rw [this]
    rfl

namespace spec_offset
noncomputable def E : Entry := ⟨39, true, false, fun | [.d (.ints .i64 sh), .d (.ints .i64 pl)] => decide (sh.length < 9223372036854775808) && decide (pl.length < 9223372036854775808) && decide (sh.length ≤ pl.length) | _ => false, fun | [.d (.ints .i64 sh), .d (.ints .i64 pl)] => ([.one ((.int .i64 (offW sh pl 0)), false)], []) | _ => ([], []), fun _ => [], false, fun _ => none⟩
end spec_offset
namespace spec_offset
noncomputable def X : List Entry := []
noncomputable def I : List Inl := [⟨39, Try.f39, ⟨[], [(1000003, [2, 3, 4, 7, 8, 9, 10, 11, 12, 13, 14, 15, 16, 17, 18, 19, 20, 21, 22, 23, 24])], [], [(5, [0, 1, 2, 6, 7, 3, 4, 5, 8, 9, 10, 11])], [], []⟩⟩]
theorem I_ok : ∀ i ∈ I, Try.prog.funcs[i.f]? = some i.fn ∧ (i.fn.name == "runtime.NumGoroutine") = false := by
  intro i hi
  simp only [I, List.mem_cons, List.not_mem_nil, or_false] at hi
  subst hi
  exact ⟨by kernel_rfl, by kernel_rfl⟩
noncomputable abbrev L0 (fuel n : Nat) (s : St) (k : Kont) := lAt Try.prog X I fuel true 0 false 39 (bodyOf Try.f39) [1, 1, 0, 1, 0] n s k
noncomputable abbrev k0  (fuel : Nat) : Kont := (kAt Try.prog X I fuel true 0 false 39 (bodyOf Try.f39) [1, 1, 0, 1, 0] [] (endK Try.prog Try.f39))
noncomputable def t0 (p0 : List Int) (p1 : List Int) (x0q2 : Int) (x0q3 : Int) : St := ⟨[(.imm (.ints .i64 p0)), (.imm (.ints .i64 p1)), .dead, .dead, .dead, (.imm (.int .i64 x0q2)), (.imm (.int .i64 x0q3)), .dead, .dead, .dead, .dead, .dead, .dead, .dead, .dead, .dead, .dead, .dead, .dead, .dead, .dead, .dead, .dead, .dead, .dead], hOf [], [], []⟩
theorem e (fuel : Nat) (p0 : List Int) (p1 : List Int) : runF Try.prog X I 0 fuel 39 Try.f39 [.d (.ints .i64 p0), .d (.ints .i64 p1)] =
  L0 fuel fuel (t0 p0 p1 0 0) (k0  fuel) := by kernel_rfl
theorem s0 (fuel n0 : Nat) (p0 : List Int) (p1 : List Int) (x0q2 : Int) (x0q3 : Int) : L0 fuel (n0 + 1) (t0 p0 p1 x0q2 x0q3) (k0  fuel) =
  (bif (decide ((x0q3 : Int) < ((p0.length : Nat) : Int))) then
  (idx x0q3 p0.length).bind fun j9 =>
  (p0[j9]?).bind fun v10 =>
  (idx x0q3 p1.length).bind fun j11 =>
  (p1[j11]?).bind fun v12 =>
  L0 fuel n0 (t0 p0 p1 ((IntKind.wrap .i64 ((IntKind.wrap .i64 (x0q2 * v10)) + v12))) ((IntKind.wrap .i64 (x0q3 + 1)))) (k0  fuel)
  else
  some ([.one ((.int .i64 x0q2), false)], [])) := by kernel_rfl
end spec_offset
theorem spec_offset.ok_of (hX : ∀ E ∈ spec_offset.X, CallSpec Try.prog E) (h : ∀ (sh : List Int) (pl : List Int), (decide (sh.length < 9223372036854775808) && decide (pl.length < 9223372036854775808) && decide (sh.length ≤ pl.length)) = true → ∃ fuel, runF Try.prog spec_offset.X spec_offset.I 0 fuel 39 Try.f39 [.d (.ints .i64 sh), .d (.ints .i64 pl)] = some ([.one ((.int .i64 (offW sh pl 0)), false)], [])) : CallSpec Try.prog spec_offset.E :=
  callSpec_of (d := 0) hX (by kernel_rfl) spec_offset.I_ok (by kernel_rfl) (by kernel_rfl) (by kernel_rfl) (fun _ _ _ _ h => by dsimp only [spec_offset.E] at h; cases h) (fun xs hp => by
    dsimp only [spec_offset.E] at hp ⊢
    split at hp
    · exact h _ _ hp
    · cases hp)
theorem spec_offset.loop (fuel : Nat) (sh pl : List Int) (hx : sh.length < 9223372036854775808) (hl : sh.length ≤ pl.length) : ∀ (m n j : Nat) (a : Int), sh.length - j = m → m < n → j ≤ sh.length →
    spec_offset.L0 fuel n (spec_offset.t0 sh pl a (j : Int)) (spec_offset.k0 fuel) = some ([.one (.int .i64 (offW (sh.drop j) (pl.drop j) a), false)], []) := by
  intro m
  induction m with
  | zero =>
    intro n j a h1 h2 h3
    obtain ⟨n, rfl⟩ : ∃ n', n = n' + 1 := ⟨n - 1, by omega⟩
    have hj : ¬ j < sh.length := by omega
    rw [spec_offset.s0, dge hj, dropE hj]
    rfl
  | succ m ih =>
    intro n j a h1 h2 h3
    obtain ⟨n, rfl⟩ : ∃ n', n = n' + 1 := ⟨n - 1, by omega⟩
    have hj : j < sh.length := by omega
    have hj2 : j < pl.length := by omega
    rw [spec_offset.s0, dlt hj, idx_nat hj, idx_nat hj2, w1 (by omega), dropS hj, dropS hj2]
    simp only [cond_true, Option.bind_some, getS hj, getS hj2, offW]
    exact ih n (j + 1) _ (by omega) (by omega) (by omega)

theorem spec_offset.ok : CallSpec Try.prog spec_offset.E := spec_offset.ok_of (by simp [spec_offset.X]) fun sh pl h => by
  simp only [Bool.and_eq_true, decide_eq_true_eq] at h
  refine ⟨sh.length + 1, ?_⟩
  rw [spec_offset.e]
  exact spec_offset.loop (sh.length + 1) sh pl h.1.1 h.2 sh.length (sh.length + 1) 0 0 (by omega) (by omega) (by omega)

namespace spec_ItemAt
noncomputable def E : Entry := ⟨17, true, false, fun | [.d (.agg [(.ints .i64 sh), (.ints .i64 da)]), .d (.ints .i64 pl)] => decide (sh.length < 9223372036854775808) && decide (da.length < 9223372036854775808) && decide (pl.length < 9223372036854775808) | _ => false, fun | [.d (.agg [(.ints .i64 sh), (.ints .i64 da)]), .d (.ints .i64 pl)] => ([.one ((.int .i64 (itemV sh da pl)), false), .one ((.bool (itemB sh da pl)), false)], []) | _ => ([], []), fun _ => [], false, fun _ => none⟩
end spec_ItemAt
namespace spec_ItemAt
noncomputable def X : List Entry := [spec_valid.E, spec_isPlace.E, spec_offset.E]
noncomputable def I : List Inl := [⟨17, Try.f17, ⟨[], [], [], [(3, [0, 2, 4, 1, 3, 5, 6, 7, 8, 9])], [], []⟩⟩]
theorem I_ok : ∀ i ∈ I, Try.prog.funcs[i.f]? = some i.fn ∧ (i.fn.name == "runtime.NumGoroutine") = false := by
  intro i hi
  simp only [I, List.mem_cons, List.not_mem_nil, or_false] at hi
  subst hi
  exact ⟨by kernel_rfl, by kernel_rfl⟩
theorem e (fuel : Nat) (p0q0 : List Int) (p0q1 : List Int) (p1 : List Int) : runF Try.prog X I 0 fuel 17 Try.f17 [.d (.agg [(.ints .i64 p0q0), (.ints .i64 p0q1)]), .d (.ints .i64 p1)] =
  (bif decide (p0q0.length < 9223372036854775808) && decide (p0q1.length < 9223372036854775808) then
  (bif (!(validA p0q0 p0q1)) then
  some ([.one ((.int .i64 0), false), .one ((.bool false), false)], [])
  else
  (bif decide (p0q0.length < 9223372036854775808) && decide (p1.length < 9223372036854775808) then
  (bif (!(isPl p0q0 p1)) then
  some ([.one ((.int .i64 0), false), .one ((.bool false), false)], [])
  else
  (bif decide (p0q0.length < 9223372036854775808) && decide (p1.length < 9223372036854775808) && decide (p0q0.length ≤ p1.length) then
  (idx (offW p0q0 p1 0) p0q1.length).bind fun j1 =>
  (p0q1[j1]?).bind fun v2 =>
  some ([.one ((.int .i64 v2), false), .one ((.bool true), false)], [])
  else
  none))
  else
  none))
  else
  none) := by kernel_rfl
end spec_ItemAt
theorem spec_ItemAt.ok_of (hX : ∀ E ∈ spec_ItemAt.X, CallSpec Try.prog E) (h : ∀ (sh : List Int) (da : List Int) (pl : List Int), (decide (sh.length < 9223372036854775808) && decide (da.length < 9223372036854775808) && decide (pl.length < 9223372036854775808)) = true → ∃ fuel, runF Try.prog spec_ItemAt.X spec_ItemAt.I 0 fuel 17 Try.f17 [.d (.agg [(.ints .i64 sh), (.ints .i64 da)]), .d (.ints .i64 pl)] = some ([.one ((.int .i64 (itemV sh da pl)), false), .one ((.bool (itemB sh da pl)), false)], [])) : CallSpec Try.prog spec_ItemAt.E :=
  callSpec_of (d := 0) hX (by kernel_rfl) spec_ItemAt.I_ok (by kernel_rfl) (by kernel_rfl) (by kernel_rfl) (fun _ _ _ _ h => by dsimp only [spec_ItemAt.E] at h; cases h) (fun xs hp => by
    dsimp only [spec_ItemAt.E] at hp ⊢
    split at hp
    · exact h _ _ _ hp
    · cases hp)
theorem spec_ItemAt.ok : CallSpec Try.prog spec_ItemAt.E := spec_ItemAt.ok_of (by simp [spec_ItemAt.X, spec_valid.ok, spec_isPlace.ok, spec_offset.ok]) fun sh da pl h => ⟨0, by
  simp only [Bool.and_eq_true] at h
  rw [spec_ItemAt.e, h.1.1, h.1.2, h.2]
  cases hb : itemB sh da pl with
  | false =>
    unfold itemV
    rw [hb]
    unfold itemB at hb
    cases hv : validA sh da with
    | false => rfl
    | true => rw [hv] at hb; simp only [Bool.true_and] at hb; rw [hb]; rfl
  | true =>
    obtain ⟨g1, g2, _, _⟩ := item_idx hb
    unfold itemV
    have hb2 := hb
    simp only [itemB, Bool.and_eq_true] at hb2
    rw [hb, hb2.1, hb2.2, decide_eq_true (p := sh.length ≤ pl.length) (by rw [isPl_len hb2.2]; exact Nat.le_refl _), g2]
    simp [g1]⟩

namespace laws_FnItemAt
noncomputable def E : Entry := ⟨5, true, false, fun | [.d (.ints .u8 bs)] => bytesB bs | _ => false, fun | [.d (.ints .u8 bs)] => ([.one ((.bool true), false)], []) | _ => ([], []), fun _ => [], false, fun _ => none⟩
end laws_FnItemAt
namespace laws_FnItemAt
noncomputable def X : List Entry := [spec_DrawItemAt.E, impl_ItemAt.E, spec_ItemAt.E, impl_ValidArray.E, impl_PlaceOf.E, impl_OffsetOf.E]
noncomputable def I : List Inl := [⟨5, Try.f5, ⟨[19, 66], [(1000009, [0, 1, 2, 5, 7, 8, 10, 11, 12, 13, 14, 15, 16, 17, 18, 19, 20, 21, 22, 23, 24, 25, 26, 27, 28, 29, 30, 31, 32, 33, 34, 35, 36, 37, 38, 39, 40, 41, 42, 43, 44, 45, 46, 47, 48, 49, 50, 51, 52, 53, 54, 55, 56, 57, 58, 59, 60, 61, 62, 63, 64, 65, 66, 67, 68, 69, 70, 71, 72, 73, 74, 75, 76, 77, 78, 79, 80, 81, 82, 83, 84, 85, 86, 87, 88, 89, 90, 91, 92, 93, 94, 95, 96])], [], [], [], []⟩⟩]
theorem I_ok : ∀ i ∈ I, Try.prog.funcs[i.f]? = some i.fn ∧ (i.fn.name == "runtime.NumGoroutine") = false := by
  intro i hi
  simp only [I, List.mem_cons, List.not_mem_nil, or_false] at hi
  subst hi
  exact ⟨by kernel_rfl, by kernel_rfl⟩
noncomputable abbrev L0 (fuel n : Nat) (s : St) (k : Kont) := lAt Try.prog X I fuel true 0 false 5 (bodyOf Try.f5) [1, 1, 1, 1, 1, 1, 0, 1, 0] n s k
noncomputable abbrev k0  (fuel : Nat) : Kont := (kAt Try.prog X I fuel true 0 false 5 (bodyOf Try.f5) [1, 1, 1, 1, 1, 1, 0, 1, 0] [] (endK Try.prog Try.f5))
noncomputable def t0 (p0 : List Int) (x0q2 : Int) : St := ⟨[.dead, .dead, .dead, (.ptr 1000000000 0 0), (.imm (.ints .i64 (aPl (cutC p0) (aArP (cutC p0) 0) (aArS (cutC p0) 0)))), .dead, (.imm (.bool (itemB ((aArS (cutC p0) 0)) ((aArD (cutC p0) 0)) ((aPl (cutC p0) (aArP (cutC p0) 0) (aArS (cutC p0) 0)))))), .dead, .dead, (.imm (.int .i64 x0q2)), .dead, .dead, .dead, .dead, .dead, .dead, .dead, .dead, .dead, .dead, .dead, .dead, .dead, .dead, .dead, .dead, .dead, .dead, .dead, .dead, .dead, .dead, .dead, .dead, .dead, .dead, .dead, .dead, .dead, .dead, .dead, .dead, .dead, .dead, .dead, .dead, .dead, .dead, .dead, .dead, .dead, .dead, .dead, .dead, .dead, .dead, .dead, .dead, .dead, .dead, .dead, .dead, .dead, .dead, .dead, .dead, .dead, .dead, .dead, .dead, .dead, .dead, .dead, .dead, .dead, .dead, .dead, .dead, .dead, .dead, .dead, .dead, .dead, .dead, .dead, .dead, .dead, .dead, .dead, .dead, .dead, .dead, .dead, .dead, .dead, .dead, .dead], hOf [(1000000000, (.box [(.imm (.ints .i64 (aArS (cutC p0) 0))), (.imm (.ints .i64 (aArD (cutC p0) 0)))]))], [], []⟩
theorem e (fuel : Nat) (p0 : List Int) : runF Try.prog X I 0 fuel 5 Try.f5 [.d (.ints .u8 p0)] =
  (bif (decide ((((p0.length : Nat) : Int) : Int) > 1048576)) then
  some ([.one ((.bool true), false)], [])
  else
  (bif bytesB p0 then
  (bif decide (((aArS (cutC p0) 0)).length < 9223372036854775808) && decide (((aArD (cutC p0) 0)).length < 9223372036854775808) && decide (((aPl (cutC p0) (aArP (cutC p0) 0) (aArS (cutC p0) 0))).length < 9223372036854775808) then
  (bif decide (((aArS (cutC p0) 0)).length < 9223372036854775808) && decide (((aArD (cutC p0) 0)).length < 9223372036854775808) && decide (((aPl (cutC p0) (aArP (cutC p0) 0) (aArS (cutC p0) 0))).length < 9223372036854775808) then
  (bif (((itemV ((aArS (cutC p0) 0)) ((aArD (cutC p0) 0)) ((aPl (cutC p0) (aArP (cutC p0) 0) (aArS (cutC p0) 0)))) : Int) != (itemV ((aArS (cutC p0) 0)) ((aArD (cutC p0) 0)) ((aPl (cutC p0) (aArP (cutC p0) 0) (aArS (cutC p0) 0))))) then
  (bif (((itemV ((aArS (cutC p0) 0)) ((aArD (cutC p0) 0)) ((aPl (cutC p0) (aArP (cutC p0) 0) (aArS (cutC p0) 0)))) : Int) == (itemV ((aArS (cutC p0) 0)) ((aArD (cutC p0) 0)) ((aPl (cutC p0) (aArP (cutC p0) 0) (aArS (cutC p0) 0))))) then
  some ([.one ((.bool ((itemB ((aArS (cutC p0) 0)) ((aArD (cutC p0) 0)) ((aPl (cutC p0) (aArP (cutC p0) 0) (aArS (cutC p0) 0)))) == (itemB ((aArS (cutC p0) 0)) ((aArD (cutC p0) 0)) ((aPl (cutC p0) (aArP (cutC p0) 0) (aArS (cutC p0) 0)))))), false)], [])
  else
  some ([.one ((.bool false), false)], []))
  else
  (bif (!((itemB ((aArS (cutC p0) 0)) ((aArD (cutC p0) 0)) ((aPl (cutC p0) (aArP (cutC p0) 0) (aArS (cutC p0) 0)))) == (itemB ((aArS (cutC p0) 0)) ((aArD (cutC p0) 0)) ((aPl (cutC p0) (aArP (cutC p0) 0) (aArS (cutC p0) 0)))))) then
  (bif (((itemV ((aArS (cutC p0) 0)) ((aArD (cutC p0) 0)) ((aPl (cutC p0) (aArP (cutC p0) 0) (aArS (cutC p0) 0)))) : Int) == (itemV ((aArS (cutC p0) 0)) ((aArD (cutC p0) 0)) ((aPl (cutC p0) (aArP (cutC p0) 0) (aArS (cutC p0) 0))))) then
  some ([.one ((.bool ((itemB ((aArS (cutC p0) 0)) ((aArD (cutC p0) 0)) ((aPl (cutC p0) (aArP (cutC p0) 0) (aArS (cutC p0) 0)))) == (itemB ((aArS (cutC p0) 0)) ((aArD (cutC p0) 0)) ((aPl (cutC p0) (aArP (cutC p0) 0) (aArS (cutC p0) 0)))))), false)], [])
  else
  some ([.one ((.bool false), false)], []))
  else
  (bif decide (((aArS (cutC p0) 0)).length < 9223372036854775808) && decide (((aArD (cutC p0) 0)).length < 9223372036854775808) then
  (bif (!(validA ((aArS (cutC p0) 0)) ((aArD (cutC p0) 0)))) then
  (bif (((itemV ((aArS (cutC p0) 0)) ((aArD (cutC p0) 0)) ((aPl (cutC p0) (aArP (cutC p0) 0) (aArS (cutC p0) 0)))) : Int) == (itemV ((aArS (cutC p0) 0)) ((aArD (cutC p0) 0)) ((aPl (cutC p0) (aArP (cutC p0) 0) (aArS (cutC p0) 0))))) then
  some ([.one ((.bool ((itemB ((aArS (cutC p0) 0)) ((aArD (cutC p0) 0)) ((aPl (cutC p0) (aArP (cutC p0) 0) (aArS (cutC p0) 0)))) == (itemB ((aArS (cutC p0) 0)) ((aArD (cutC p0) 0)) ((aPl (cutC p0) (aArP (cutC p0) 0) (aArS (cutC p0) 0)))))), false)], [])
  else
  some ([.one ((.bool false), false)], []))
  else
  L0 fuel fuel (t0 p0 0) (k0  fuel))
  else
  none)))
  else
  none)
  else
  none)
  else
  none)) := by kernel_rfl
theorem s0 (fuel n0 : Nat) (p0 : List Int) (x0q2 : Int) : L0 fuel (n0 + 1) (t0 p0 x0q2) (k0  fuel) =
  (bif (decide ((x0q2 : Int) < (((aArD (cutC p0) 0).length : Nat) : Int))) then
  (bif decide (((aArS (cutC p0) 0)).length < 9223372036854775808) then
  (bif decide (((aArS (cutC p0) 0)).length < 9223372036854775808) && decide (((aArD (cutC p0) 0)).length < 9223372036854775808) && decide (((plD ((aArS (cutC p0) 0)) x0q2)).length < 9223372036854775808) then
  (bif (!(plB ((aArS (cutC p0) 0)) x0q2)) then
  some ([.one ((.bool false), false)], [])
  else
  (bif (!(itemB ((aArS (cutC p0) 0)) ((aArD (cutC p0) 0)) ((plD ((aArS (cutC p0) 0)) x0q2)))) then
  some ([.one ((.bool false), false)], [])
  else
  (idx x0q2 (aArD (cutC p0) 0).length).bind fun j5 =>
  ((aArD (cutC p0) 0)[j5]?).bind fun v6 =>
  (bif (((itemV ((aArS (cutC p0) 0)) ((aArD (cutC p0) 0)) ((plD ((aArS (cutC p0) 0)) x0q2))) : Int) != v6) then
  some ([.one ((.bool false), false)], [])
  else
  L0 fuel n0 (t0 p0 ((IntKind.wrap .i64 (x0q2 + 1)))) (k0  fuel))))
  else
  none)
  else
  none)
  else
  (bif decide (((aArS (cutC p0) 0)).length < 9223372036854775808) && decide (((aPl (cutC p0) (aArP (cutC p0) 0) (aArS (cutC p0) 0))).length < 9223372036854775808) then
  some ([.one ((.bool ((itemB ((aArS (cutC p0) 0)) ((aArD (cutC p0) 0)) ((aPl (cutC p0) (aArP (cutC p0) 0) (aArS (cutC p0) 0)))) == (decide (((offS ((aArS (cutC p0) 0)) ((aPl (cutC p0) (aArP (cutC p0) 0) (aArS (cutC p0) 0)))) : Int) ≥ 0)))), false)], [])
  else
  none)) := by kernel_rfl
end laws_FnItemAt
theorem laws_FnItemAt.ok_of (hX : ∀ E ∈ laws_FnItemAt.X, CallSpec Try.prog E) (h : ∀ (bs : List Int), (bytesB bs) = true → ∃ fuel, runF Try.prog laws_FnItemAt.X laws_FnItemAt.I 0 fuel 5 Try.f5 [.d (.ints .u8 bs)] = some ([.one ((.bool true), false)], [])) : CallSpec Try.prog laws_FnItemAt.E :=
  callSpec_of (d := 0) hX (by kernel_rfl) laws_FnItemAt.I_ok (by kernel_rfl) (by kernel_rfl) (by kernel_rfl) (fun _ _ _ _ h => by dsimp only [laws_FnItemAt.E] at h; cases h) (fun xs hp => by
    dsimp only [laws_FnItemAt.E] at hp ⊢
    split at hp
    · exact h _ hp
    · cases hp)
theorem laws_FnItemAt.ok : CallSpec Try.prog laws_FnItemAt.E := laws_FnItemAt.ok_of (by simp [laws_FnItemAt.X, spec_DrawItemAt.ok, impl_ItemAt.ok, spec_ItemAt.ok, impl_ValidArray.ok, impl_PlaceOf.ok, impl_OffsetOf.ok]) fun bs h => by
  obtain ⟨F, hF⟩ : ∃ F : Nat, 4000 < F := ⟨4001, by omega⟩
  refine ⟨F, ?_⟩
  rw [laws_FnItemAt.e]
  by_cases hl : ((bs.length : Nat) : Int) > 1048576
  · rw [decide_eq_true hl]; rfl
  rw [decide_eq_false hl, cond_false, h, cond_true]
  have r0 := cut_ok h (p := 0) (by omega) (by omega)
  obtain ⟨a1, a2, _, _⟩ := aAr_bd r0 (by omega)
  have a3 := (aPl_bd (cutC bs) (aArP (cutC bs) 0) (aArS (cutC bs) 0)).1
  obtain ⟨sh, hsh⟩ : ∃ x, aArS (cutC bs) 0 = x := ⟨_, rfl⟩
  obtain ⟨da, hda⟩ : ∃ x, aArD (cutC bs) 0 = x := ⟨_, rfl⟩
  obtain ⟨pl, hpl⟩ : ∃ x, aPl (cutC bs) (aArP (cutC bs) 0) sh = x := ⟨_, rfl⟩
  rw [hsh] at a1 a3
  rw [hda] at a2
  rw [hpl] at a3
  have g1 := lt_of (xs := sh) (by omega)
  have g2 := lt_of (xs := da) (by omega)
  have g3 := lt_of (xs := pl) (by omega)
  simp only [hsh, hda, hpl]
  cases hv : validA sh da with
  | false =>
    simp only [itemV, itemB, hv, g1, g2, g3, Bool.and_self, Bool.false_and, cond_true, cond_false]
    rfl
  | true =>
    simp only [Bool.and_self, Bool.and_true, Bool.true_and, cond_true, cond_false, Bool.not_true, Bool.not_false, bne_self_eq_false, beq_self_eq_true, decide_true, eq_self, g1, g2, g3]
    have hvs := (validA_inv hv).1
    have hd := (validA_inv hv).2.1
    have hvol := (volS hvs).1
    refine run_loop (N := da.length) (fun n j (_ : Unit) => laws_FnItemAt.L0 F n (laws_FnItemAt.t0 bs (j : Int)) (laws_FnItemAt.k0 F)) (fun j _ => True) ?_ ?_ F 0 () (by omega) (by omega) trivial
    · intro n _ _
      rw [laws_FnItemAt.s0]
      simp only [hsh, hda, hpl]
      rw [dge (by omega), cond_false, g1, g3]
      cases hp : isPl sh pl with
      | false => simp only [itemB, offS, hv, hvs, hp]; rfl
      | true =>
        have := (off_bd hvs hp).1
        simp only [itemB, offS, hv, hvs, hp, Bool.and_self, cond_true]
        rw [decide_eq_true (p := offW sh pl 0 ≥ 0) (by omega)]
        rfl
    · intro n j _ hj _
      have hjp : j < prodN sh := by omega
      obtain ⟨o1, o2⟩ := off_pl hvs hjp
      have hlen := plN_length sh j
      have hr := (validS_inv hvs).1
      have hb : plB sh (j : Int) = true := by
        simp only [plB, hvs, hvol, Bool.true_and, Bool.and_eq_true, decide_eq_true_eq]; omega
      have g4 := lt_of (xs := plN sh j) (by omega)
      rw [laws_FnItemAt.s0]
      simp only [hsh, hda, hpl]
      rw [dlt hj, cond_true, w1 (by omega)]
      simp only [Bool.and_self, Bool.and_true, Bool.true_and, cond_true, cond_false, Bool.not_true, Bool.not_false, bne_self_eq_false, beq_self_eq_true, decide_true, eq_self, plD, hb, g1, g2, g4, itemB, itemV, hv, o1, o2, Int.toNat_natCast, idx_nat hj, Option.bind_some, getD_get hj]
      exact ⟨(), trivial, trivial⟩

namespace spec_anyNum
noncomputable def E : Entry := ⟨41, false, false, fun | [.box [(.ints .u8 bs), (.int .i64 p)]] => rdOk bs (p + 1) && rdOk bs p | _ => false, fun | [.box [(.ints .u8 bs), (.int .i64 p)]] => ([.one ((.int .i64 (anyNumV bs p)), false)], [[(.ints .u8 bs), (.int .i64 (p + 2))]]) | _ => ([], []), fun _ => [], false, fun _ => none⟩
end spec_anyNum
namespace spec_anyNum
noncomputable def X : List Entry := [spec_reader_pick.E, spec_reader_one.E, spec_someNum.E]
noncomputable def I : List Inl := [⟨41, Try.f41, ⟨[], [], [], [], [7], []⟩⟩]
theorem I_ok : ∀ i ∈ I, Try.prog.funcs[i.f]? = some i.fn ∧ (i.fn.name == "runtime.NumGoroutine") = false := by
  intro i hi
  simp only [I, List.mem_cons, List.not_mem_nil, or_false] at hi
  subst hi
  exact ⟨by kernel_rfl, by kernel_rfl⟩
theorem e (fuel : Nat) (p0q0 : List Int) (p0q1 : Int) : runF Try.prog X I 0 fuel 41 Try.f41 [.box [(.ints .u8 p0q0), (.int .i64 p0q1)]] =
  (bif rdOk p0q0 p0q1 && decide ((12 : Int) ≤ 1048576) then
  (bif (((pickV p0q0 p0q1 12) : Int) == 0) then
  (bif rdOk p0q0 ((p0q1 + 1)) && decide (0 < (([1000001, (-1000001)]) : List Int).length) && decide ((([1000001, (-1000001)]) : List Int).length ≤ 1048576) then
  some ([.one ((.int .i64 (oneV p0q0 ((p0q1 + 1)) ([1000001, (-1000001)]))), false)], [[(.ints .u8 p0q0), (.int .i64 (((p0q1 + 1)) + 1))]])
  else
  none)
  else
  (bif rdOk p0q0 ((p0q1 + 1)) then
  some ([.one ((.int .i64 (oneV p0q0 ((p0q1 + 1)) someL)), false)], [[(.ints .u8 p0q0), (.int .i64 (((p0q1 + 1)) + 1))]])
  else
  none))
  else
  none) := by kernel_rfl
end spec_anyNum
theorem spec_anyNum.ok_of (hX : ∀ E ∈ spec_anyNum.X, CallSpec Try.prog E) (h : ∀ (bs : List Int) (p : Int), (rdOk bs (p + 1) && rdOk bs p) = true → ∃ fuel, runF Try.prog spec_anyNum.X spec_anyNum.I 0 fuel 41 Try.f41 [.box [(.ints .u8 bs), (.int .i64 p)]] = some ([.one ((.int .i64 (anyNumV bs p)), false)], [[(.ints .u8 bs), (.int .i64 (p + 2))]])) : CallSpec Try.prog spec_anyNum.E :=
  callSpec_of (d := 0) hX (by kernel_rfl) spec_anyNum.I_ok (by kernel_rfl) (by kernel_rfl) (by kernel_rfl) (fun _ _ _ _ h => by dsimp only [spec_anyNum.E] at h; cases h) (fun xs hp => by
    dsimp only [spec_anyNum.E] at hp ⊢
    split at hp
    · exact h _ _ hp
    · cases hp)
theorem spec_anyNum.ok : CallSpec Try.prog spec_anyNum.E := spec_anyNum.ok_of (by simp [spec_anyNum.X, spec_reader_pick.ok, spec_reader_one.ok, spec_someNum.ok]) fun bs p h => ⟨0, by
  simp only [Bool.and_eq_true] at h
  rw [spec_anyNum.e, h.1, h.2, show p + 2 = p + 1 + 1 by omega]
  unfold anyNumV
  cases pickV bs p 12 == 0 <;> rfl⟩

namespace spec_DrawWithItem
noncomputable def E : Entry := ⟨19, false, false, fun | [.d (.ints .u8 bs)] => bytesB bs | _ => false, fun | [.d (.ints .u8 bs)] => ([.agg [((.ints .i64 (aArS (cutC bs) 0)), false), ((.ints .i64 (aArD (cutC bs) 0)), false)], .one ((.ints .i64 (aPl (cutC bs) (aArP (cutC bs) 0) (aArS (cutC bs) 0))), false), .one ((.int .i64 (anyNumV (cutC bs) (aPlP (cutC bs) (aArP (cutC bs) 0) (aArS (cutC bs) 0)))), false)], []) | _ => ([], []), fun _ => [], true, fun _ => none⟩
end spec_DrawWithItem
namespace spec_DrawWithItem
noncomputable def X : List Entry := [spec_newReader.E, spec_anyArray.E, spec_anyPlace.E, spec_anyNum.E]
noncomputable def I : List Inl := [⟨19, Try.f19, ⟨[11, 15], [], [(4, [6])], [], [16], []⟩⟩]
theorem I_ok : ∀ i ∈ I, Try.prog.funcs[i.f]? = some i.fn ∧ (i.fn.name == "runtime.NumGoroutine") = false := by
  intro i hi
  simp only [I, List.mem_cons, List.not_mem_nil, or_false] at hi
  subst hi
  exact ⟨by kernel_rfl, by kernel_rfl⟩
theorem e (fuel : Nat) (p0 : List Int) : runF Try.prog X I 0 fuel 19 Try.f19 [.d (.ints .u8 p0)] =
  (bif rdOk ((cutC p0)) 0 && decide ((0 : Int) ≤ 1000000) then
  (bif rdOk (((cutC p0))) ((aArP ((cutC p0)) 0)) && decide ((((aArP ((cutC p0)) 0)) : Int) ≤ 1000000) && decide ((((aArS ((cutC p0)) 0)) : List Int).length ≤ 1000) then
  (bif rdOk ((((cutC p0)))) (((aPlP (((cutC p0))) ((aArP ((cutC p0)) 0)) ((aArS ((cutC p0)) 0)))) + 1) && rdOk ((((cutC p0)))) ((aPlP (((cutC p0))) ((aArP ((cutC p0)) 0)) ((aArS ((cutC p0)) 0)))) then
  some ([.agg [((.ints .i64 (aArS ((cutC p0)) 0)), false), ((.ints .i64 (aArD ((cutC p0)) 0)), false)], .one ((.ints .i64 (aPl (((cutC p0))) ((aArP ((cutC p0)) 0)) ((aArS ((cutC p0)) 0)))), false), .one ((.int .i64 (anyNumV ((((cutC p0)))) ((aPlP (((cutC p0))) ((aArP ((cutC p0)) 0)) ((aArS ((cutC p0)) 0)))))), false)], [])
  else
  none)
  else
  none)
  else
  none) := by kernel_rfl
end spec_DrawWithItem
theorem spec_DrawWithItem.ok_of (hX : ∀ E ∈ spec_DrawWithItem.X, CallSpec Try.prog E) (h : ∀ (bs : List Int), (bytesB bs) = true → ∃ fuel, runF Try.prog spec_DrawWithItem.X spec_DrawWithItem.I 0 fuel 19 Try.f19 [.d (.ints .u8 bs)] = some ([.agg [((.ints .i64 (aArS (cutC bs) 0)), false), ((.ints .i64 (aArD (cutC bs) 0)), false)], .one ((.ints .i64 (aPl (cutC bs) (aArP (cutC bs) 0) (aArS (cutC bs) 0))), false), .one ((.int .i64 (anyNumV (cutC bs) (aPlP (cutC bs) (aArP (cutC bs) 0) (aArS (cutC bs) 0)))), false)], [])) : CallSpec Try.prog spec_DrawWithItem.E :=
  callSpec_of (d := 0) hX (by kernel_rfl) spec_DrawWithItem.I_ok (by kernel_rfl) (by kernel_rfl) (by kernel_rfl) (fun _ _ _ _ h => by dsimp only [spec_DrawWithItem.E] at h; cases h) (fun xs hp => by
    dsimp only [spec_DrawWithItem.E] at hp ⊢
    split at hp
    · exact h _ hp
    · cases hp)
theorem spec_DrawWithItem.ok : CallSpec Try.prog spec_DrawWithItem.E := spec_DrawWithItem.ok_of (by simp [spec_DrawWithItem.X, spec_newReader.ok, spec_anyArray.ok, spec_anyPlace.ok, spec_anyNum.ok]) fun bs h => ⟨0, by
  have r0 := cut_ok h (p := 0) (by omega) (by omega)
  obtain ⟨a1, a2, a3, a4⟩ := aAr_bd r0 (by omega)
  have r1 := rd_le (q := aArP (cutC bs) 0) r0 (by omega) (by omega)
  obtain ⟨b1, b2, b3⟩ := aPl_bd (cutC bs) (aArP (cutC bs) 0) (aArS (cutC bs) 0)
  have r2 := rd_le (q := aPlP (cutC bs) (aArP (cutC bs) 0) (aArS (cutC bs) 0)) r0 (by omega) (by omega)
  have r3 := rd_le (q := aPlP (cutC bs) (aArP (cutC bs) 0) (aArS (cutC bs) 0) + 1) r0 (by omega) (by omega)
  rw [spec_DrawWithItem.e, r0, r1, r2, r3, decide_eq_true (p := aArP (cutC bs) 0 ≤ 1000000) (by omega), decide_eq_true (p := (aArS (cutC bs) 0).length ≤ 1000) (by omega)]
  rfl⟩

namespace impl_copyList
noncomputable def E : Entry := ⟨42, false, false, fun | [.d (.ints .i64 xs)] => szB xs | _ => false, fun | [.d (.ints .i64 xs)] => ([.one ((.ints .i64 xs), true)], []) | _ => ([], []), fun _ => [], true, fun _ => none⟩
end impl_copyList
namespace impl_copyList
noncomputable def X : List Entry := []
noncomputable def I : List Inl := [⟨42, Try.f42, ⟨[], [], [], [], [], []⟩⟩]
theorem I_ok : ∀ i ∈ I, Try.prog.funcs[i.f]? = some i.fn ∧ (i.fn.name == "runtime.NumGoroutine") = false := by
  intro i hi
  simp only [I, List.mem_cons, List.not_mem_nil, or_false] at hi
  subst hi
  exact ⟨by kernel_rfl, by kernel_rfl⟩
theorem e (fuel : Nat) (p0 : List Int) : runF Try.prog X I 0 fuel 42 Try.f42 [.d (.ints .i64 p0)] =
  (bif decide (0 ≤ (((p0.length : Nat) : Int) : Int)) && decide ((((p0.length : Nat) : Int) : Int) ≤ ((p0.length : Nat) : Int)) && decide ((((p0.length : Nat) : Int) : Int) ≤ 1152921504606846976) && decide (((8 : Nat) : Int) * ((p0.length : Nat) : Int) ≤ 281474976710656) then
  some ([.one ((.ints .i64 (copyL (List.replicate (((p0.length : Nat) : Int)).toNat (0 : Int)) 0 (List.replicate (((p0.length : Nat) : Int)).toNat (0 : Int)).length p0)), true)], [])
  else
  none) := by kernel_rfl
end impl_copyList
theorem impl_copyList.ok_of (hX : ∀ E ∈ impl_copyList.X, CallSpec Try.prog E) (h : ∀ (xs : List Int), (szB xs) = true → ∃ fuel, runF Try.prog impl_copyList.X impl_copyList.I 0 fuel 42 Try.f42 [.d (.ints .i64 xs)] = some ([.one ((.ints .i64 xs), true)], [])) : CallSpec Try.prog impl_copyList.E :=
  callSpec_of (d := 0) hX (by kernel_rfl) impl_copyList.I_ok (by kernel_rfl) (by kernel_rfl) (by kernel_rfl) (fun _ _ _ _ h => by dsimp only [impl_copyList.E] at h; cases h) (fun xs hp => by
    dsimp only [impl_copyList.E] at hp ⊢
    split at hp
    · exact h _ hp
    · cases hp)
theorem impl_copyList.ok : CallSpec Try.prog impl_copyList.E := impl_copyList.ok_of (by simp [impl_copyList.X]) fun xs h => ⟨0, by
  have hx := szB_le h
  rw [impl_copyList.e, mkOk (by omega) (by omega)]
  simp only [cond_true, Int.toNat_natCast, copyL_all]⟩

namespace impl_WithItem
noncomputable def E : Entry := ⟨20, false, false, fun | [.d (.agg [(.ints .i64 sh), (.ints .i64 da)]), .d (.ints .i64 pl), .d (.int .i64 n)] => decide (sh.length < 9223372036854775808) && decide (da.length < 9223372036854775808) && decide (pl.length < 9223372036854775808) | _ => false, fun | [.d (.agg [(.ints .i64 sh), (.ints .i64 da)]), .d (.ints .i64 pl), .d (.int .i64 n)] => ([.agg [((.ints .i64 (withS sh da pl n)), true), ((.ints .i64 (withD sh da pl n)), true)], .one ((.bool (withB sh da pl n)), false)], []) | _ => ([], []), fun _ => [], true, fun _ => none⟩
end impl_WithItem
namespace impl_WithItem
noncomputable def X : List Entry := [impl_offsetIn.E, impl_isNumber.E, impl_copyList.E]
noncomputable def I : List Inl := [⟨20, Try.f20, ⟨[23, 26], [], [], [(4, [0, 3, 1, 4, 2, 5, 6, 7, 8])], [], []⟩⟩]
theorem I_ok : ∀ i ∈ I, Try.prog.funcs[i.f]? = some i.fn ∧ (i.fn.name == "runtime.NumGoroutine") = false := by
  intro i hi
  simp only [I, List.mem_cons, List.not_mem_nil, or_false] at hi
  subst hi
  exact ⟨by kernel_rfl, by kernel_rfl⟩
theorem e (fuel : Nat) (p0q0 : List Int) (p0q1 : List Int) (p1 : List Int) (p2 : Int) : runF Try.prog X I 0 fuel 20 Try.f20 [.d (.agg [(.ints .i64 p0q0), (.ints .i64 p0q1)]), .d (.ints .i64 p1), .d (.int .i64 p2)] =
  (bif decide (p0q0.length < 9223372036854775808) && decide (p0q1.length < 9223372036854775808) && decide (p1.length < 9223372036854775808) then
  (bif (decide (((offA p0q0 p0q1 p1) : Int) < 0)) then
  some ([.agg [((.ints .i64 []), true), ((.ints .i64 []), true)], .one ((.bool false), false)], [])
  else
  (bif (!(numB p2)) then
  some ([.agg [((.ints .i64 []), true), ((.ints .i64 []), true)], .one ((.bool false), false)], [])
  else
  (bif szB p0q0 then
  (bif szB p0q1 then
  (idx (offA p0q0 p0q1 p1) p0q1.length).bind fun j1 =>
  (bif decide (j1 < p0q1.length) then
  some ([.agg [((.ints .i64 p0q0), true), ((.ints .i64 (p0q1.set j1 p2)), true)], .one ((.bool true), false)], [])
  else
  none)
  else
  none)
  else
  none)))
  else
  none) := by kernel_rfl
end impl_WithItem
theorem impl_WithItem.ok_of (hX : ∀ E ∈ impl_WithItem.X, CallSpec Try.prog E) (h : ∀ (sh : List Int) (da : List Int) (pl : List Int) (n : Int), (decide (sh.length < 9223372036854775808) && decide (da.length < 9223372036854775808) && decide (pl.length < 9223372036854775808)) = true → ∃ fuel, runF Try.prog impl_WithItem.X impl_WithItem.I 0 fuel 20 Try.f20 [.d (.agg [(.ints .i64 sh), (.ints .i64 da)]), .d (.ints .i64 pl), .d (.int .i64 n)] = some ([.agg [((.ints .i64 (withS sh da pl n)), true), ((.ints .i64 (withD sh da pl n)), true)], .one ((.bool (withB sh da pl n)), false)], [])) : CallSpec Try.prog impl_WithItem.E :=
  callSpec_of (d := 0) hX (by kernel_rfl) impl_WithItem.I_ok (by kernel_rfl) (by kernel_rfl) (by kernel_rfl) (fun _ _ _ _ h => by dsimp only [impl_WithItem.E] at h; cases h) (fun xs hp => by
    dsimp only [impl_WithItem.E] at hp ⊢
    split at hp
    · exact h _ _ _ _ hp
    · cases hp)
theorem impl_WithItem.ok : CallSpec Try.prog impl_WithItem.E := impl_WithItem.ok_of (by simp [impl_WithItem.X, impl_offsetIn.ok, impl_isNumber.ok, impl_copyList.ok]) fun sh da pl n h => ⟨0, by
  rw [impl_WithItem.e, h]
  unfold withS withD withB
  cases hb : itemB sh da pl with
  | false => rw [item_no hb]; rfl
  | true =>
    obtain ⟨g1, g2, g3, g4⟩ := item_idx hb
    have hb2 := hb
    simp only [itemB, Bool.and_eq_true] at hb2
    obtain ⟨l1, l2⟩ := validA_len hb2.1
    rw [decide_eq_false g4, g3, g2, szB_of (by omega), szB_of (by omega)]
    cases numB n
    · rfl
    · simp [g1]⟩

namespace spec_WithItem
noncomputable def E : Entry := ⟨21, false, false, fun | [.d (.agg [(.ints .i64 sh), (.ints .i64 da)]), .d (.ints .i64 pl), .d (.int .i64 n)] => decide (sh.length < 9223372036854775808) && decide (da.length < 9223372036854775808) && decide (pl.length < 9223372036854775808) | _ => false, fun | [.d (.agg [(.ints .i64 sh), (.ints .i64 da)]), .d (.ints .i64 pl), .d (.int .i64 n)] => ([.agg [((.ints .i64 (withS sh da pl n)), true), ((.ints .i64 (withD sh da pl n)), true)], .one ((.bool (withB sh da pl n)), false)], []) | _ => ([], []), fun _ => [], true, fun _ => none⟩
end spec_WithItem
namespace spec_WithItem
noncomputable def X : List Entry := [spec_valid.E, spec_isPlace.E, spec_inRange.E, spec_make1.E, spec_offset.E]
noncomputable def I : List Inl := [⟨21, Try.f21, ⟨[29], [], [], [(4, [0, 2, 4, 6, 1, 3, 5, 7, 8])], [], []⟩⟩]
theorem I_ok : ∀ i ∈ I, Try.prog.funcs[i.f]? = some i.fn ∧ (i.fn.name == "runtime.NumGoroutine") = false := by
  intro i hi
  simp only [I, List.mem_cons, List.not_mem_nil, or_false] at hi
  subst hi
  exact ⟨by kernel_rfl, by kernel_rfl⟩
theorem e (fuel : Nat) (p0q0 : List Int) (p0q1 : List Int) (p1 : List Int) (p2 : Int) : runF Try.prog X I 0 fuel 21 Try.f21 [.d (.agg [(.ints .i64 p0q0), (.ints .i64 p0q1)]), .d (.ints .i64 p1), .d (.int .i64 p2)] =
  (bif decide (p0q0.length < 9223372036854775808) && decide (p0q1.length < 9223372036854775808) then
  (bif (!(validA p0q0 p0q1)) then
  some ([.agg [((.ints .i64 []), true), ((.ints .i64 []), true)], .one ((.bool false), false)], [])
  else
  (bif decide (p0q0.length < 9223372036854775808) && decide (p1.length < 9223372036854775808) then
  (bif (!(isPl p0q0 p1)) then
  some ([.agg [((.ints .i64 []), true), ((.ints .i64 []), true)], .one ((.bool false), false)], [])
  else
  (bif (!(decide (((-1000000)) ≤ p2) && decide (p2 ≤ 1000000))) then
  some ([.agg [((.ints .i64 []), true), ((.ints .i64 []), true)], .one ((.bool false), false)], [])
  else
  (bif szB p0q0 && szB p0q1 then
  (bif decide (p0q0.length < 9223372036854775808) && decide (p1.length < 9223372036854775808) && decide (p0q0.length ≤ p1.length) then
  (idx (offW p0q0 p1 0) p0q1.length).bind fun j1 =>
  (bif decide (j1 < p0q1.length) then
  some ([.agg [((.ints .i64 p0q0), true), ((.ints .i64 (p0q1.set j1 p2)), true)], .one ((.bool true), false)], [])
  else
  none)
  else
  none)
  else
  none)))
  else
  none))
  else
  none) := by kernel_rfl
end spec_WithItem
theorem spec_WithItem.ok_of (hX : ∀ E ∈ spec_WithItem.X, CallSpec Try.prog E) (h : ∀ (sh : List Int) (da : List Int) (pl : List Int) (n : Int), (decide (sh.length < 9223372036854775808) && decide (da.length < 9223372036854775808) && decide (pl.length < 9223372036854775808)) = true → ∃ fuel, runF Try.prog spec_WithItem.X spec_WithItem.I 0 fuel 21 Try.f21 [.d (.agg [(.ints .i64 sh), (.ints .i64 da)]), .d (.ints .i64 pl), .d (.int .i64 n)] = some ([.agg [((.ints .i64 (withS sh da pl n)), true), ((.ints .i64 (withD sh da pl n)), true)], .one ((.bool (withB sh da pl n)), false)], [])) : CallSpec Try.prog spec_WithItem.E :=
  callSpec_of (d := 0) hX (by kernel_rfl) spec_WithItem.I_ok (by kernel_rfl) (by kernel_rfl) (by kernel_rfl) (fun _ _ _ _ h => by dsimp only [spec_WithItem.E] at h; cases h) (fun xs hp => by
    dsimp only [spec_WithItem.E] at hp ⊢
    split at hp
    · exact h _ _ _ _ hp
    · cases hp)
theorem spec_WithItem.ok : CallSpec Try.prog spec_WithItem.E := spec_WithItem.ok_of (by simp [spec_WithItem.X, spec_valid.ok, spec_isPlace.ok, spec_inRange.ok, spec_make1.ok, spec_offset.ok]) fun sh da pl n h => ⟨0, by
  simp only [Bool.and_eq_true] at h
  rw [spec_WithItem.e, h.1.1, h.1.2, h.2]
  unfold withS withD withB
  rw [numB_eq]
  cases hb : itemB sh da pl with
  | false =>
    simp only [Bool.false_and, cond_false]
    unfold itemB at hb
    cases hv : validA sh da with
    | false => rfl
    | true => rw [hv] at hb; simp only [Bool.true_and] at hb; rw [hb]; rfl
  | true =>
    obtain ⟨g1, g2, _, _⟩ := item_idx hb
    have hb2 := hb
    simp only [itemB, Bool.and_eq_true] at hb2
    obtain ⟨l1, l2⟩ := validA_len hb2.1
    rw [hb2.1, hb2.2, decide_eq_true (p := sh.length ≤ pl.length) (by rw [isPl_len hb2.2]; exact Nat.le_refl _), g2, szB_of (by omega), szB_of (by omega)]
    cases (decide (-1000000 ≤ n) && decide (n ≤ 1000000))
    · rfl
    · simp [g1]⟩

namespace laws_equalArray
noncomputable def E : Entry := ⟨22, true, false, fun | [.d (.agg [(.ints .i64 sa), (.ints .i64 da)]), .d (.agg [(.ints .i64 sb), (.ints .i64 db)])] => decide (sa.length < 9223372036854775808) && decide (da.length < 9223372036854775808) && decide (sb.length < 9223372036854775808) && decide (db.length < 9223372036854775808) | _ => false, fun | [.d (.agg [(.ints .i64 sa), (.ints .i64 da)]), .d (.agg [(.ints .i64 sb), (.ints .i64 db)])] => ([.one ((.bool (decide (sa = sb) && decide (da = db))), false)], []) | _ => ([], []), fun _ => [], false, fun _ => none⟩
end laws_equalArray
namespace laws_equalArray
noncomputable def X : List Entry := [laws_equalInts.E]
noncomputable def I : List Inl := [⟨22, Try.f22, ⟨[], [], [], [], [], []⟩⟩]
theorem I_ok : ∀ i ∈ I, Try.prog.funcs[i.f]? = some i.fn ∧ (i.fn.name == "runtime.NumGoroutine") = false := by
  intro i hi
  simp only [I, List.mem_cons, List.not_mem_nil, or_false] at hi
  subst hi
  exact ⟨by kernel_rfl, by kernel_rfl⟩
theorem e (fuel : Nat) (p0q0 : List Int) (p0q1 : List Int) (p1q0 : List Int) (p1q1 : List Int) : runF Try.prog X I 0 fuel 22 Try.f22 [.d (.agg [(.ints .i64 p0q0), (.ints .i64 p0q1)]), .d (.agg [(.ints .i64 p1q0), (.ints .i64 p1q1)])] =
  (bif decide (p0q0.length < 9223372036854775808) && decide (p1q0.length < 9223372036854775808) then
  (bif (decide (p0q0 = p1q0)) then
  (bif decide (p0q1.length < 9223372036854775808) && decide (p1q1.length < 9223372036854775808) then
  some ([.one ((.bool (decide (p0q1 = p1q1))), false)], [])
  else
  none)
  else
  some ([.one ((.bool false), false)], []))
  else
  none) := by kernel_rfl
end laws_equalArray
theorem laws_equalArray.ok_of (hX : ∀ E ∈ laws_equalArray.X, CallSpec Try.prog E) (h : ∀ (sa : List Int) (da : List Int) (sb : List Int) (db : List Int), (decide (sa.length < 9223372036854775808) && decide (da.length < 9223372036854775808) && decide (sb.length < 9223372036854775808) && decide (db.length < 9223372036854775808)) = true → ∃ fuel, runF Try.prog laws_equalArray.X laws_equalArray.I 0 fuel 22 Try.f22 [.d (.agg [(.ints .i64 sa), (.ints .i64 da)]), .d (.agg [(.ints .i64 sb), (.ints .i64 db)])] = some ([.one ((.bool (decide (sa = sb) && decide (da = db))), false)], [])) : CallSpec Try.prog laws_equalArray.E :=
  callSpec_of (d := 0) hX (by kernel_rfl) laws_equalArray.I_ok (by kernel_rfl) (by kernel_rfl) (by kernel_rfl) (fun _ _ _ _ h => by dsimp only [laws_equalArray.E] at h; cases h) (fun xs hp => by
    dsimp only [laws_equalArray.E] at hp ⊢
    split at hp
    · exact h _ _ _ _ hp
    · cases hp)
theorem laws_equalArray.ok : CallSpec Try.prog laws_equalArray.E := laws_equalArray.ok_of (by simp [laws_equalArray.X, laws_equalInts.ok]) fun sa da sb db h => ⟨0, by
  simp only [Bool.and_eq_true, decide_eq_true_eq] at h
  obtain ⟨⟨⟨h1, h2⟩, h3⟩, h4⟩ := h
  rw [laws_equalArray.e]
  simp only [h1, h2, h3, h4, decide_true, Bool.and_self, cond_true]
  cases decide (sa = sb) <;> cases decide (da = db) <;> rfl⟩

namespace laws_FnWithItem
noncomputable def E : Entry := ⟨6, true, false, fun | [.d (.ints .u8 bs)] => bytesB bs | _ => false, fun | [.d (.ints .u8 bs)] => ([.one ((.bool true), false)], []) | _ => ([], []), fun _ => [], false, fun _ => none⟩
end laws_FnWithItem
namespace laws_FnWithItem
noncomputable def X : List Entry := [spec_DrawWithItem.E, impl_WithItem.E, spec_WithItem.E, laws_equalArray.E, impl_ItemAt.E]
noncomputable def I : List Inl := [⟨6, Try.f6, ⟨[21, 29, 36, 76], [], [], [], [], []⟩⟩]
theorem I_ok : ∀ i ∈ I, Try.prog.funcs[i.f]? = some i.fn ∧ (i.fn.name == "runtime.NumGoroutine") = false := by
  intro i hi
  simp only [I, List.mem_cons, List.not_mem_nil, or_false] at hi
  subst hi
  exact ⟨by kernel_rfl, by kernel_rfl⟩
theorem e (fuel : Nat) (p0 : List Int) : runF Try.prog X I 0 fuel 6 Try.f6 [.d (.ints .u8 p0)] =
  (bif (decide ((((p0.length : Nat) : Int) : Int) > 1048576)) then
  some ([.one ((.bool true), false)], [])
  else
  (bif bytesB p0 then
  (bif decide (((aArS (cutC p0) 0)).length < 9223372036854775808) && decide (((aArD (cutC p0) 0)).length < 9223372036854775808) && decide (((aPl (cutC p0) (aArP (cutC p0) 0) (aArS (cutC p0) 0))).length < 9223372036854775808) then
  (bif decide (((aArS (cutC p0) 0)).length < 9223372036854775808) && decide (((aArD (cutC p0) 0)).length < 9223372036854775808) && decide (((aPl (cutC p0) (aArP (cutC p0) 0) (aArS (cutC p0) 0))).length < 9223372036854775808) then
  (bif decide (((withS ((aArS (cutC p0) 0)) ((aArD (cutC p0) 0)) ((aPl (cutC p0) (aArP (cutC p0) 0) (aArS (cutC p0) 0))) ((anyNumV (cutC p0) (aPlP (cutC p0) (aArP (cutC p0) 0) (aArS (cutC p0) 0)))))).length < 9223372036854775808) && decide (((withD ((aArS (cutC p0) 0)) ((aArD (cutC p0) 0)) ((aPl (cutC p0) (aArP (cutC p0) 0) (aArS (cutC p0) 0))) ((anyNumV (cutC p0) (aPlP (cutC p0) (aArP (cutC p0) 0) (aArS (cutC p0) 0)))))).length < 9223372036854775808) && decide (((withS ((aArS (cutC p0) 0)) ((aArD (cutC p0) 0)) ((aPl (cutC p0) (aArP (cutC p0) 0) (aArS (cutC p0) 0))) ((anyNumV (cutC p0) (aPlP (cutC p0) (aArP (cutC p0) 0) (aArS (cutC p0) 0)))))).length < 9223372036854775808) && decide (((withD ((aArS (cutC p0) 0)) ((aArD (cutC p0) 0)) ((aPl (cutC p0) (aArP (cutC p0) 0) (aArS (cutC p0) 0))) ((anyNumV (cutC p0) (aPlP (cutC p0) (aArP (cutC p0) 0) (aArS (cutC p0) 0)))))).length < 9223372036854775808) then
  (bif (!(decide (((withS ((aArS (cutC p0) 0)) ((aArD (cutC p0) 0)) ((aPl (cutC p0) (aArP (cutC p0) 0) (aArS (cutC p0) 0))) ((anyNumV (cutC p0) (aPlP (cutC p0) (aArP (cutC p0) 0) (aArS (cutC p0) 0)))))) = ((withS ((aArS (cutC p0) 0)) ((aArD (cutC p0) 0)) ((aPl (cutC p0) (aArP (cutC p0) 0) (aArS (cutC p0) 0))) ((anyNumV (cutC p0) (aPlP (cutC p0) (aArP (cutC p0) 0) (aArS (cutC p0) 0))))))) && decide (((withD ((aArS (cutC p0) 0)) ((aArD (cutC p0) 0)) ((aPl (cutC p0) (aArP (cutC p0) 0) (aArS (cutC p0) 0))) ((anyNumV (cutC p0) (aPlP (cutC p0) (aArP (cutC p0) 0) (aArS (cutC p0) 0)))))) = ((withD ((aArS (cutC p0) 0)) ((aArD (cutC p0) 0)) ((aPl (cutC p0) (aArP (cutC p0) 0) (aArS (cutC p0) 0))) ((anyNumV (cutC p0) (aPlP (cutC p0) (aArP (cutC p0) 0) (aArS (cutC p0) 0))))))))) then
  (bif decide (((withS ((aArS (cutC p0) 0)) ((aArD (cutC p0) 0)) ((aPl (cutC p0) (aArP (cutC p0) 0) (aArS (cutC p0) 0))) ((anyNumV (cutC p0) (aPlP (cutC p0) (aArP (cutC p0) 0) (aArS (cutC p0) 0)))))).length < 9223372036854775808) && decide (((withD ((aArS (cutC p0) 0)) ((aArD (cutC p0) 0)) ((aPl (cutC p0) (aArP (cutC p0) 0) (aArS (cutC p0) 0))) ((anyNumV (cutC p0) (aPlP (cutC p0) (aArP (cutC p0) 0) (aArS (cutC p0) 0)))))).length < 9223372036854775808) && decide (((withS ((aArS (cutC p0) 0)) ((aArD (cutC p0) 0)) ((aPl (cutC p0) (aArP (cutC p0) 0) (aArS (cutC p0) 0))) ((anyNumV (cutC p0) (aPlP (cutC p0) (aArP (cutC p0) 0) (aArS (cutC p0) 0)))))).length < 9223372036854775808) && decide (((withD ((aArS (cutC p0) 0)) ((aArD (cutC p0) 0)) ((aPl (cutC p0) (aArP (cutC p0) 0) (aArS (cutC p0) 0))) ((anyNumV (cutC p0) (aPlP (cutC p0) (aArP (cutC p0) 0) (aArS (cutC p0) 0)))))).length < 9223372036854775808) then
  (bif (decide (((withS ((aArS (cutC p0) 0)) ((aArD (cutC p0) 0)) ((aPl (cutC p0) (aArP (cutC p0) 0) (aArS (cutC p0) 0))) ((anyNumV (cutC p0) (aPlP (cutC p0) (aArP (cutC p0) 0) (aArS (cutC p0) 0)))))) = ((withS ((aArS (cutC p0) 0)) ((aArD (cutC p0) 0)) ((aPl (cutC p0) (aArP (cutC p0) 0) (aArS (cutC p0) 0))) ((anyNumV (cutC p0) (aPlP (cutC p0) (aArP (cutC p0) 0) (aArS (cutC p0) 0))))))) && decide (((withD ((aArS (cutC p0) 0)) ((aArD (cutC p0) 0)) ((aPl (cutC p0) (aArP (cutC p0) 0) (aArS (cutC p0) 0))) ((anyNumV (cutC p0) (aPlP (cutC p0) (aArP (cutC p0) 0) (aArS (cutC p0) 0)))))) = ((withD ((aArS (cutC p0) 0)) ((aArD (cutC p0) 0)) ((aPl (cutC p0) (aArP (cutC p0) 0) (aArS (cutC p0) 0))) ((anyNumV (cutC p0) (aPlP (cutC p0) (aArP (cutC p0) 0) (aArS (cutC p0) 0)))))))) then
  some ([.one ((.bool ((withB ((aArS (cutC p0) 0)) ((aArD (cutC p0) 0)) ((aPl (cutC p0) (aArP (cutC p0) 0) (aArS (cutC p0) 0))) ((anyNumV (cutC p0) (aPlP (cutC p0) (aArP (cutC p0) 0) (aArS (cutC p0) 0))))) == (withB ((aArS (cutC p0) 0)) ((aArD (cutC p0) 0)) ((aPl (cutC p0) (aArP (cutC p0) 0) (aArS (cutC p0) 0))) ((anyNumV (cutC p0) (aPlP (cutC p0) (aArP (cutC p0) 0) (aArS (cutC p0) 0))))))), false)], [])
  else
  some ([.one ((.bool false), false)], []))
  else
  none)
  else
  (bif (!((withB ((aArS (cutC p0) 0)) ((aArD (cutC p0) 0)) ((aPl (cutC p0) (aArP (cutC p0) 0) (aArS (cutC p0) 0))) ((anyNumV (cutC p0) (aPlP (cutC p0) (aArP (cutC p0) 0) (aArS (cutC p0) 0))))) == (withB ((aArS (cutC p0) 0)) ((aArD (cutC p0) 0)) ((aPl (cutC p0) (aArP (cutC p0) 0) (aArS (cutC p0) 0))) ((anyNumV (cutC p0) (aPlP (cutC p0) (aArP (cutC p0) 0) (aArS (cutC p0) 0))))))) then
  (bif decide (((withS ((aArS (cutC p0) 0)) ((aArD (cutC p0) 0)) ((aPl (cutC p0) (aArP (cutC p0) 0) (aArS (cutC p0) 0))) ((anyNumV (cutC p0) (aPlP (cutC p0) (aArP (cutC p0) 0) (aArS (cutC p0) 0)))))).length < 9223372036854775808) && decide (((withD ((aArS (cutC p0) 0)) ((aArD (cutC p0) 0)) ((aPl (cutC p0) (aArP (cutC p0) 0) (aArS (cutC p0) 0))) ((anyNumV (cutC p0) (aPlP (cutC p0) (aArP (cutC p0) 0) (aArS (cutC p0) 0)))))).length < 9223372036854775808) && decide (((withS ((aArS (cutC p0) 0)) ((aArD (cutC p0) 0)) ((aPl (cutC p0) (aArP (cutC p0) 0) (aArS (cutC p0) 0))) ((anyNumV (cutC p0) (aPlP (cutC p0) (aArP (cutC p0) 0) (aArS (cutC p0) 0)))))).length < 9223372036854775808) && decide (((withD ((aArS (cutC p0) 0)) ((aArD (cutC p0) 0)) ((aPl (cutC p0) (aArP (cutC p0) 0) (aArS (cutC p0) 0))) ((anyNumV (cutC p0) (aPlP (cutC p0) (aArP (cutC p0) 0) (aArS (cutC p0) 0)))))).length < 9223372036854775808) then
  (bif (decide (((withS ((aArS (cutC p0) 0)) ((aArD (cutC p0) 0)) ((aPl (cutC p0) (aArP (cutC p0) 0) (aArS (cutC p0) 0))) ((anyNumV (cutC p0) (aPlP (cutC p0) (aArP (cutC p0) 0) (aArS (cutC p0) 0)))))) = ((withS ((aArS (cutC p0) 0)) ((aArD (cutC p0) 0)) ((aPl (cutC p0) (aArP (cutC p0) 0) (aArS (cutC p0) 0))) ((anyNumV (cutC p0) (aPlP (cutC p0) (aArP (cutC p0) 0) (aArS (cutC p0) 0))))))) && decide (((withD ((aArS (cutC p0) 0)) ((aArD (cutC p0) 0)) ((aPl (cutC p0) (aArP (cutC p0) 0) (aArS (cutC p0) 0))) ((anyNumV (cutC p0) (aPlP (cutC p0) (aArP (cutC p0) 0) (aArS (cutC p0) 0)))))) = ((withD ((aArS (cutC p0) 0)) ((aArD (cutC p0) 0)) ((aPl (cutC p0) (aArP (cutC p0) 0) (aArS (cutC p0) 0))) ((anyNumV (cutC p0) (aPlP (cutC p0) (aArP (cutC p0) 0) (aArS (cutC p0) 0)))))))) then
  some ([.one ((.bool ((withB ((aArS (cutC p0) 0)) ((aArD (cutC p0) 0)) ((aPl (cutC p0) (aArP (cutC p0) 0) (aArS (cutC p0) 0))) ((anyNumV (cutC p0) (aPlP (cutC p0) (aArP (cutC p0) 0) (aArS (cutC p0) 0))))) == (withB ((aArS (cutC p0) 0)) ((aArD (cutC p0) 0)) ((aPl (cutC p0) (aArP (cutC p0) 0) (aArS (cutC p0) 0))) ((anyNumV (cutC p0) (aPlP (cutC p0) (aArP (cutC p0) 0) (aArS (cutC p0) 0))))))), false)], [])
  else
  some ([.one ((.bool false), false)], []))
  else
  none)
  else
  (bif (!(withB ((aArS (cutC p0) 0)) ((aArD (cutC p0) 0)) ((aPl (cutC p0) (aArP (cutC p0) 0) (aArS (cutC p0) 0))) ((anyNumV (cutC p0) (aPlP (cutC p0) (aArP (cutC p0) 0) (aArS (cutC p0) 0)))))) then
  (bif decide (((withS ((aArS (cutC p0) 0)) ((aArD (cutC p0) 0)) ((aPl (cutC p0) (aArP (cutC p0) 0) (aArS (cutC p0) 0))) ((anyNumV (cutC p0) (aPlP (cutC p0) (aArP (cutC p0) 0) (aArS (cutC p0) 0)))))).length < 9223372036854775808) && decide (((withD ((aArS (cutC p0) 0)) ((aArD (cutC p0) 0)) ((aPl (cutC p0) (aArP (cutC p0) 0) (aArS (cutC p0) 0))) ((anyNumV (cutC p0) (aPlP (cutC p0) (aArP (cutC p0) 0) (aArS (cutC p0) 0)))))).length < 9223372036854775808) && decide (((withS ((aArS (cutC p0) 0)) ((aArD (cutC p0) 0)) ((aPl (cutC p0) (aArP (cutC p0) 0) (aArS (cutC p0) 0))) ((anyNumV (cutC p0) (aPlP (cutC p0) (aArP (cutC p0) 0) (aArS (cutC p0) 0)))))).length < 9223372036854775808) && decide (((withD ((aArS (cutC p0) 0)) ((aArD (cutC p0) 0)) ((aPl (cutC p0) (aArP (cutC p0) 0) (aArS (cutC p0) 0))) ((anyNumV (cutC p0) (aPlP (cutC p0) (aArP (cutC p0) 0) (aArS (cutC p0) 0)))))).length < 9223372036854775808) then
  (bif (decide (((withS ((aArS (cutC p0) 0)) ((aArD (cutC p0) 0)) ((aPl (cutC p0) (aArP (cutC p0) 0) (aArS (cutC p0) 0))) ((anyNumV (cutC p0) (aPlP (cutC p0) (aArP (cutC p0) 0) (aArS (cutC p0) 0)))))) = ((withS ((aArS (cutC p0) 0)) ((aArD (cutC p0) 0)) ((aPl (cutC p0) (aArP (cutC p0) 0) (aArS (cutC p0) 0))) ((anyNumV (cutC p0) (aPlP (cutC p0) (aArP (cutC p0) 0) (aArS (cutC p0) 0))))))) && decide (((withD ((aArS (cutC p0) 0)) ((aArD (cutC p0) 0)) ((aPl (cutC p0) (aArP (cutC p0) 0) (aArS (cutC p0) 0))) ((anyNumV (cutC p0) (aPlP (cutC p0) (aArP (cutC p0) 0) (aArS (cutC p0) 0)))))) = ((withD ((aArS (cutC p0) 0)) ((aArD (cutC p0) 0)) ((aPl (cutC p0) (aArP (cutC p0) 0) (aArS (cutC p0) 0))) ((anyNumV (cutC p0) (aPlP (cutC p0) (aArP (cutC p0) 0) (aArS (cutC p0) 0)))))))) then
  some ([.one ((.bool ((withB ((aArS (cutC p0) 0)) ((aArD (cutC p0) 0)) ((aPl (cutC p0) (aArP (cutC p0) 0) (aArS (cutC p0) 0))) ((anyNumV (cutC p0) (aPlP (cutC p0) (aArP (cutC p0) 0) (aArS (cutC p0) 0))))) == (withB ((aArS (cutC p0) 0)) ((aArD (cutC p0) 0)) ((aPl (cutC p0) (aArP (cutC p0) 0) (aArS (cutC p0) 0))) ((anyNumV (cutC p0) (aPlP (cutC p0) (aArP (cutC p0) 0) (aArS (cutC p0) 0))))))), false)], [])
  else
  some ([.one ((.bool false), false)], []))
  else
  none)
  else
  (bif decide (((aArS (cutC p0) 0)).length < 9223372036854775808) && decide (((aArD (cutC p0) 0)).length < 9223372036854775808) && decide (((aPl (cutC p0) (aArP (cutC p0) 0) (aArS (cutC p0) 0))).length < 9223372036854775808) then
  (bif decide (((withS ((aArS (cutC p0) 0)) ((aArD (cutC p0) 0)) ((aPl (cutC p0) (aArP (cutC p0) 0) (aArS (cutC p0) 0))) ((anyNumV (cutC p0) (aPlP (cutC p0) (aArP (cutC p0) 0) (aArS (cutC p0) 0)))))).length < 9223372036854775808) && decide (((withD ((aArS (cutC p0) 0)) ((aArD (cutC p0) 0)) ((aPl (cutC p0) (aArP (cutC p0) 0) (aArS (cutC p0) 0))) ((anyNumV (cutC p0) (aPlP (cutC p0) (aArP (cutC p0) 0) (aArS (cutC p0) 0)))))).length < 9223372036854775808) && decide (((aPl (cutC p0) (aArP (cutC p0) 0) (aArS (cutC p0) 0))).length < 9223372036854775808) then
  (bif decide (((withS ((aArS (cutC p0) 0)) ((aArD (cutC p0) 0)) ((aPl (cutC p0) (aArP (cutC p0) 0) (aArS (cutC p0) 0))) ((anyNumV (cutC p0) (aPlP (cutC p0) (aArP (cutC p0) 0) (aArS (cutC p0) 0)))))).length < 9223372036854775808) && decide (((withD ((aArS (cutC p0) 0)) ((aArD (cutC p0) 0)) ((aPl (cutC p0) (aArP (cutC p0) 0) (aArS (cutC p0) 0))) ((anyNumV (cutC p0) (aPlP (cutC p0) (aArP (cutC p0) 0) (aArS (cutC p0) 0)))))).length < 9223372036854775808) && decide (((aPl (cutC p0) (aArP (cutC p0) 0) (aArS (cutC p0) 0))).length < 9223372036854775808) then
  (bif (itemB ((aArS (cutC p0) 0)) ((aArD (cutC p0) 0)) ((aPl (cutC p0) (aArP (cutC p0) 0) (aArS (cutC p0) 0)))) then
  (bif (itemB ((withS ((aArS (cutC p0) 0)) ((aArD (cutC p0) 0)) ((aPl (cutC p0) (aArP (cutC p0) 0) (aArS (cutC p0) 0))) ((anyNumV (cutC p0) (aPlP (cutC p0) (aArP (cutC p0) 0) (aArS (cutC p0) 0)))))) ((withD ((aArS (cutC p0) 0)) ((aArD (cutC p0) 0)) ((aPl (cutC p0) (aArP (cutC p0) 0) (aArS (cutC p0) 0))) ((anyNumV (cutC p0) (aPlP (cutC p0) (aArP (cutC p0) 0) (aArS (cutC p0) 0)))))) ((aPl (cutC p0) (aArP (cutC p0) 0) (aArS (cutC p0) 0)))) then
  (bif (((itemV ((withS ((aArS (cutC p0) 0)) ((aArD (cutC p0) 0)) ((aPl (cutC p0) (aArP (cutC p0) 0) (aArS (cutC p0) 0))) ((anyNumV (cutC p0) (aPlP (cutC p0) (aArP (cutC p0) 0) (aArS (cutC p0) 0)))))) ((withD ((aArS (cutC p0) 0)) ((aArD (cutC p0) 0)) ((aPl (cutC p0) (aArP (cutC p0) 0) (aArS (cutC p0) 0))) ((anyNumV (cutC p0) (aPlP (cutC p0) (aArP (cutC p0) 0) (aArS (cutC p0) 0)))))) ((aPl (cutC p0) (aArP (cutC p0) 0) (aArS (cutC p0) 0)))) : Int) == (anyNumV (cutC p0) (aPlP (cutC p0) (aArP (cutC p0) 0) (aArS (cutC p0) 0)))) then
  (bif (withB ((withS ((aArS (cutC p0) 0)) ((aArD (cutC p0) 0)) ((aPl (cutC p0) (aArP (cutC p0) 0) (aArS (cutC p0) 0))) ((anyNumV (cutC p0) (aPlP (cutC p0) (aArP (cutC p0) 0) (aArS (cutC p0) 0)))))) ((withD ((aArS (cutC p0) 0)) ((aArD (cutC p0) 0)) ((aPl (cutC p0) (aArP (cutC p0) 0) (aArS (cutC p0) 0))) ((anyNumV (cutC p0) (aPlP (cutC p0) (aArP (cutC p0) 0) (aArS (cutC p0) 0)))))) ((aPl (cutC p0) (aArP (cutC p0) 0) (aArS (cutC p0) 0))) ((itemV ((aArS (cutC p0) 0)) ((aArD (cutC p0) 0)) ((aPl (cutC p0) (aArP (cutC p0) 0) (aArS (cutC p0) 0)))))) then
  (bif decide (((withS ((withS ((aArS (cutC p0) 0)) ((aArD (cutC p0) 0)) ((aPl (cutC p0) (aArP (cutC p0) 0) (aArS (cutC p0) 0))) ((anyNumV (cutC p0) (aPlP (cutC p0) (aArP (cutC p0) 0) (aArS (cutC p0) 0)))))) ((withD ((aArS (cutC p0) 0)) ((aArD (cutC p0) 0)) ((aPl (cutC p0) (aArP (cutC p0) 0) (aArS (cutC p0) 0))) ((anyNumV (cutC p0) (aPlP (cutC p0) (aArP (cutC p0) 0) (aArS (cutC p0) 0)))))) ((aPl (cutC p0) (aArP (cutC p0) 0) (aArS (cutC p0) 0))) ((itemV ((aArS (cutC p0) 0)) ((aArD (cutC p0) 0)) ((aPl (cutC p0) (aArP (cutC p0) 0) (aArS (cutC p0) 0))))))).length < 9223372036854775808) && decide (((withD ((withS ((aArS (cutC p0) 0)) ((aArD (cutC p0) 0)) ((aPl (cutC p0) (aArP (cutC p0) 0) (aArS (cutC p0) 0))) ((anyNumV (cutC p0) (aPlP (cutC p0) (aArP (cutC p0) 0) (aArS (cutC p0) 0)))))) ((withD ((aArS (cutC p0) 0)) ((aArD (cutC p0) 0)) ((aPl (cutC p0) (aArP (cutC p0) 0) (aArS (cutC p0) 0))) ((anyNumV (cutC p0) (aPlP (cutC p0) (aArP (cutC p0) 0) (aArS (cutC p0) 0)))))) ((aPl (cutC p0) (aArP (cutC p0) 0) (aArS (cutC p0) 0))) ((itemV ((aArS (cutC p0) 0)) ((aArD (cutC p0) 0)) ((aPl (cutC p0) (aArP (cutC p0) 0) (aArS (cutC p0) 0))))))).length < 9223372036854775808) && decide (((aArS (cutC p0) 0)).length < 9223372036854775808) && decide (((aArD (cutC p0) 0)).length < 9223372036854775808) then
  some ([.one ((.bool (decide (((withS ((withS ((aArS (cutC p0) 0)) ((aArD (cutC p0) 0)) ((aPl (cutC p0) (aArP (cutC p0) 0) (aArS (cutC p0) 0))) ((anyNumV (cutC p0) (aPlP (cutC p0) (aArP (cutC p0) 0) (aArS (cutC p0) 0)))))) ((withD ((aArS (cutC p0) 0)) ((aArD (cutC p0) 0)) ((aPl (cutC p0) (aArP (cutC p0) 0) (aArS (cutC p0) 0))) ((anyNumV (cutC p0) (aPlP (cutC p0) (aArP (cutC p0) 0) (aArS (cutC p0) 0)))))) ((aPl (cutC p0) (aArP (cutC p0) 0) (aArS (cutC p0) 0))) ((itemV ((aArS (cutC p0) 0)) ((aArD (cutC p0) 0)) ((aPl (cutC p0) (aArP (cutC p0) 0) (aArS (cutC p0) 0))))))) = ((aArS (cutC p0) 0))) && decide (((withD ((withS ((aArS (cutC p0) 0)) ((aArD (cutC p0) 0)) ((aPl (cutC p0) (aArP (cutC p0) 0) (aArS (cutC p0) 0))) ((anyNumV (cutC p0) (aPlP (cutC p0) (aArP (cutC p0) 0) (aArS (cutC p0) 0)))))) ((withD ((aArS (cutC p0) 0)) ((aArD (cutC p0) 0)) ((aPl (cutC p0) (aArP (cutC p0) 0) (aArS (cutC p0) 0))) ((anyNumV (cutC p0) (aPlP (cutC p0) (aArP (cutC p0) 0) (aArS (cutC p0) 0)))))) ((aPl (cutC p0) (aArP (cutC p0) 0) (aArS (cutC p0) 0))) ((itemV ((aArS (cutC p0) 0)) ((aArD (cutC p0) 0)) ((aPl (cutC p0) (aArP (cutC p0) 0) (aArS (cutC p0) 0))))))) = ((aArD (cutC p0) 0))))), false)], [])
  else
  none)
  else
  some ([.one ((.bool false), false)], []))
  else
  some ([.one ((.bool false), false)], []))
  else
  some ([.one ((.bool false), false)], []))
  else
  some ([.one ((.bool false), false)], []))
  else
  none)
  else
  none)
  else
  none))))
  else
  none)
  else
  none)
  else
  none)
  else
  none)) := by kernel_rfl
end laws_FnWithItem
theorem laws_FnWithItem.ok_of (hX : ∀ E ∈ laws_FnWithItem.X, CallSpec Try.prog E) (h : ∀ (bs : List Int), (bytesB bs) = true → ∃ fuel, runF Try.prog laws_FnWithItem.X laws_FnWithItem.I 0 fuel 6 Try.f6 [.d (.ints .u8 bs)] = some ([.one ((.bool true), false)], [])) : CallSpec Try.prog laws_FnWithItem.E :=
  callSpec_of (d := 0) hX (by kernel_rfl) laws_FnWithItem.I_ok (by kernel_rfl) (by kernel_rfl) (by kernel_rfl) (fun _ _ _ _ h => by dsimp only [laws_FnWithItem.E] at h; cases h) (fun xs hp => by
    dsimp only [laws_FnWithItem.E] at hp ⊢
    split at hp
    · exact h _ hp
    · cases hp)
theorem laws_FnWithItem.ok : CallSpec Try.prog laws_FnWithItem.E := laws_FnWithItem.ok_of (by simp [laws_FnWithItem.X, spec_DrawWithItem.ok, impl_WithItem.ok, spec_WithItem.ok, laws_equalArray.ok, impl_ItemAt.ok]) fun bs h => by
  obtain ⟨F, hF⟩ : ∃ F : Nat, 4000 < F := ⟨4001, by omega⟩
  refine ⟨F, ?_⟩
  rw [laws_FnWithItem.e]
  by_cases hl : ((bs.length : Nat) : Int) > 1048576
  · rw [decide_eq_true hl]; rfl
  rw [decide_eq_false hl, cond_false, h, cond_true]
  have r0 := cut_ok h (p := 0) (by omega) (by omega)
  obtain ⟨a1, a2, _, _⟩ := aAr_bd r0 (by omega)
  have a3 := (aPl_bd (cutC bs) (aArP (cutC bs) 0) (aArS (cutC bs) 0)).1
  obtain ⟨sh, hsh⟩ : ∃ x, aArS (cutC bs) 0 = x := ⟨_, rfl⟩
  obtain ⟨da, hda⟩ : ∃ x, aArD (cutC bs) 0 = x := ⟨_, rfl⟩
  obtain ⟨pl, hpl⟩ : ∃ x, aPl (cutC bs) (aArP (cutC bs) 0) sh = x := ⟨_, rfl⟩
  rw [hsh] at a1 a3
  rw [hda] at a2
  rw [hpl] at a3
  have g1 := lt_of (xs := sh) (by omega)
  have g2 := lt_of (xs := da) (by omega)
  have g3 := lt_of (xs := pl) (by omega)
  obtain ⟨nn, hnn⟩ : ∃ x, anyNumV (cutC bs) (aPlP (cutC bs) (aArP (cutC bs) 0) sh) = x := ⟨_, rfl⟩
  simp only [hsh, hda, hpl, hnn]
  cases hw : withB sh da pl nn with
  | false =>
    simp only [withS, withD, hw, g1, g2, g3, Bool.and_self, cond_true, cond_false]
    rfl
  | true =>
    have hw' := hw
    simp only [withB, Bool.and_eq_true] at hw'
    obtain ⟨hb, hn⟩ := hw'
    obtain ⟨hv, hp, o1, o2⟩ := itemB_inv hb
    obtain ⟨A, hA⟩ : ∃ A : Nat, offW sh pl 0 = A := ⟨(offW sh pl 0).toNat, by omega⟩
    rw [hA, Int.toNat_natCast] at o2
    have hv2 := validA_set (i := A) hv hn
    have hb2 : itemB sh (da.set A nn) pl = true := by simp only [itemB, hv2, hp, Bool.and_self]
    have e1 : itemV sh da pl = da.getD A 0 := by simp only [itemV, hb, cond_true, hA, Int.toNat_natCast]
    have e2 : itemV sh (da.set A nn) pl = nn := by
      simp only [itemV, hb2, cond_true, hA, Int.toNat_natCast]
      simp [o2]
    have hw3 : withB sh (da.set A nn) pl (da.getD A 0) = true := by simp only [withB, hb2, numB_get hv o2, Bool.and_self]
    have e3 : (da.set A nn).set A (da.getD A 0) = da := by
      rw [List.set_set]
      have : da.getD A 0 = da[A] := by simp [o2]
      rw [this, List.set_getElem_self]
    have g4 := lt_of (xs := da.set A nn) (by rw [List.length_set]; omega)
    simp only [Bool.and_self, Bool.and_true, Bool.true_and, cond_true, cond_false, Bool.not_true, Bool.not_false, bne_self_eq_false, beq_self_eq_true, decide_true, eq_self, withS, withD, hw, hA, Int.toNat_natCast, g1, g2, g3, g4, hb, hb2, e1, e2, hw3, e3]

namespace laws_FnWithItemOthers
noncomputable def E : Entry := ⟨7, true, false, fun | [.d (.ints .u8 bs)] => bytesB bs | _ => false, fun | [.d (.ints .u8 bs)] => ([.one ((.bool true), false)], []) | _ => ([], []), fun _ => [], false, fun _ => none⟩
end laws_FnWithItemOthers
namespace laws_FnWithItemOthers
noncomputable def X : List Entry := [spec_DrawWithItem.E, impl_WithItem.E, spec_WithItem.E, laws_equalArray.E, laws_equalInts.E]
noncomputable def I : List Inl := [⟨7, Try.f7, ⟨[17, 25, 32], [(1000010, [0, 1, 2, 4, 5, 7, 8, 9, 12, 13, 14, 15, 16, 17, 18, 19, 20, 21, 22, 23, 24, 25, 26, 27, 28, 29, 30, 31, 32, 33, 34, 35, 36, 37, 38, 39, 40, 41, 42, 43, 44, 45, 46, 47, 48, 49, 50, 51, 52, 53, 54, 55, 56, 57, 58, 59, 60, 61, 62, 63, 64, 65, 66, 67, 68, 69, 70, 71, 72, 73, 74, 75, 76, 77, 78, 79, 80, 81, 82, 83, 84, 85, 86, 87, 88, 89, 90, 91])], [], [(12, [0, 1, 2, 3, 4, 5, 6, 8, 11, 13, 7, 9, 10, 12, 14, 15, 16, 17])], [], []⟩⟩]
theorem I_ok : ∀ i ∈ I, Try.prog.funcs[i.f]? = some i.fn ∧ (i.fn.name == "runtime.NumGoroutine") = false := by
  intro i hi
  simp only [I, List.mem_cons, List.not_mem_nil, or_false] at hi
  subst hi
  exact ⟨by kernel_rfl, by kernel_rfl⟩
noncomputable abbrev L0 (fuel n : Nat) (s : St) (k : Kont) := lAt Try.prog X I fuel true 0 false 7 (bodyOf Try.f7) [1, 1, 1, 1, 1, 1, 1, 0, 1, 0] n s k
noncomputable abbrev k0  (fuel : Nat) : Kont := (kAt Try.prog X I fuel true 0 false 7 (bodyOf Try.f7) [1, 1, 1, 1, 1, 1, 1, 0, 1, 0] [] (endK Try.prog Try.f7))
noncomputable def t0 (p0 : List Int) (x0q0 : Int) (x0q1 : Int) : St := ⟨[.dead, .dead, .dead, (.ptr 1000000000 0 0), .dead, .dead, (.ptr 1000000001 0 0), .dead, .dead, .dead, (.imm (.int .i64 x0q0)), (.imm (.int .i64 x0q1)), .dead, .dead, .dead, .dead, .dead, .dead, .dead, .dead, .dead, .dead, .dead, .dead, .dead, .dead, .dead, .dead, .dead, .dead, .dead, .dead, .dead, .dead, .dead, .dead, .dead, .dead, .dead, .dead, .dead, .dead, .dead, .dead, .dead, .dead, .dead, .dead, .dead, .dead, .dead, .dead, .dead, .dead, .dead, .dead, .dead, .dead, .dead, .dead, .dead, .dead, .dead, .dead, .dead, .dead, .dead, .dead, .dead, .dead, .dead, .dead, .dead, .dead, .dead, .dead, .dead, .dead, .dead, .dead, .dead, .dead, .dead, .dead, .dead, .dead, .dead, .dead, .dead, .dead, .dead, .dead], hOf [(1000000000, (.box [(.imm (.ints .i64 (aArS (cutC p0) 0))), (.imm (.ints .i64 (aArD (cutC p0) 0)))])), (1000000001, (.box [(.all 1000000002 1), (.all 1000000003 1)])), (1000000002, (.ints .i64 (withS ((aArS (cutC p0) 0)) ((aArD (cutC p0) 0)) ((aPl (cutC p0) (aArP (cutC p0) 0) (aArS (cutC p0) 0))) ((anyNumV (cutC p0) (aPlP (cutC p0) (aArP (cutC p0) 0) (aArS (cutC p0) 0))))))), (1000000003, (.ints .i64 (withD ((aArS (cutC p0) 0)) ((aArD (cutC p0) 0)) ((aPl (cutC p0) (aArP (cutC p0) 0) (aArS (cutC p0) 0))) ((anyNumV (cutC p0) (aPlP (cutC p0) (aArP (cutC p0) 0) (aArS (cutC p0) 0)))))))], [], []⟩
theorem e (fuel : Nat) (p0 : List Int) : runF Try.prog X I 0 fuel 7 Try.f7 [.d (.ints .u8 p0)] =
  (bif (decide ((((p0.length : Nat) : Int) : Int) > 1048576)) then
  some ([.one ((.bool true), false)], [])
  else
  (bif bytesB p0 then
  (bif decide (((aArS (cutC p0) 0)).length < 9223372036854775808) && decide (((aArD (cutC p0) 0)).length < 9223372036854775808) && decide (((aPl (cutC p0) (aArP (cutC p0) 0) (aArS (cutC p0) 0))).length < 9223372036854775808) then
  (bif decide (((aArS (cutC p0) 0)).length < 9223372036854775808) && decide (((aArD (cutC p0) 0)).length < 9223372036854775808) && decide (((aPl (cutC p0) (aArP (cutC p0) 0) (aArS (cutC p0) 0))).length < 9223372036854775808) then
  (bif decide (((withS ((aArS (cutC p0) 0)) ((aArD (cutC p0) 0)) ((aPl (cutC p0) (aArP (cutC p0) 0) (aArS (cutC p0) 0))) ((anyNumV (cutC p0) (aPlP (cutC p0) (aArP (cutC p0) 0) (aArS (cutC p0) 0)))))).length < 9223372036854775808) && decide (((withD ((aArS (cutC p0) 0)) ((aArD (cutC p0) 0)) ((aPl (cutC p0) (aArP (cutC p0) 0) (aArS (cutC p0) 0))) ((anyNumV (cutC p0) (aPlP (cutC p0) (aArP (cutC p0) 0) (aArS (cutC p0) 0)))))).length < 9223372036854775808) && decide (((withS ((aArS (cutC p0) 0)) ((aArD (cutC p0) 0)) ((aPl (cutC p0) (aArP (cutC p0) 0) (aArS (cutC p0) 0))) ((anyNumV (cutC p0) (aPlP (cutC p0) (aArP (cutC p0) 0) (aArS (cutC p0) 0)))))).length < 9223372036854775808) && decide (((withD ((aArS (cutC p0) 0)) ((aArD (cutC p0) 0)) ((aPl (cutC p0) (aArP (cutC p0) 0) (aArS (cutC p0) 0))) ((anyNumV (cutC p0) (aPlP (cutC p0) (aArP (cutC p0) 0) (aArS (cutC p0) 0)))))).length < 9223372036854775808) then
  (bif (!(decide (((withS ((aArS (cutC p0) 0)) ((aArD (cutC p0) 0)) ((aPl (cutC p0) (aArP (cutC p0) 0) (aArS (cutC p0) 0))) ((anyNumV (cutC p0) (aPlP (cutC p0) (aArP (cutC p0) 0) (aArS (cutC p0) 0)))))) = ((withS ((aArS (cutC p0) 0)) ((aArD (cutC p0) 0)) ((aPl (cutC p0) (aArP (cutC p0) 0) (aArS (cutC p0) 0))) ((anyNumV (cutC p0) (aPlP (cutC p0) (aArP (cutC p0) 0) (aArS (cutC p0) 0))))))) && decide (((withD ((aArS (cutC p0) 0)) ((aArD (cutC p0) 0)) ((aPl (cutC p0) (aArP (cutC p0) 0) (aArS (cutC p0) 0))) ((anyNumV (cutC p0) (aPlP (cutC p0) (aArP (cutC p0) 0) (aArS (cutC p0) 0)))))) = ((withD ((aArS (cutC p0) 0)) ((aArD (cutC p0) 0)) ((aPl (cutC p0) (aArP (cutC p0) 0) (aArS (cutC p0) 0))) ((anyNumV (cutC p0) (aPlP (cutC p0) (aArP (cutC p0) 0) (aArS (cutC p0) 0))))))))) then
  (bif decide (((withS ((aArS (cutC p0) 0)) ((aArD (cutC p0) 0)) ((aPl (cutC p0) (aArP (cutC p0) 0) (aArS (cutC p0) 0))) ((anyNumV (cutC p0) (aPlP (cutC p0) (aArP (cutC p0) 0) (aArS (cutC p0) 0)))))).length < 9223372036854775808) && decide (((withD ((aArS (cutC p0) 0)) ((aArD (cutC p0) 0)) ((aPl (cutC p0) (aArP (cutC p0) 0) (aArS (cutC p0) 0))) ((anyNumV (cutC p0) (aPlP (cutC p0) (aArP (cutC p0) 0) (aArS (cutC p0) 0)))))).length < 9223372036854775808) && decide (((withS ((aArS (cutC p0) 0)) ((aArD (cutC p0) 0)) ((aPl (cutC p0) (aArP (cutC p0) 0) (aArS (cutC p0) 0))) ((anyNumV (cutC p0) (aPlP (cutC p0) (aArP (cutC p0) 0) (aArS (cutC p0) 0)))))).length < 9223372036854775808) && decide (((withD ((aArS (cutC p0) 0)) ((aArD (cutC p0) 0)) ((aPl (cutC p0) (aArP (cutC p0) 0) (aArS (cutC p0) 0))) ((anyNumV (cutC p0) (aPlP (cutC p0) (aArP (cutC p0) 0) (aArS (cutC p0) 0)))))).length < 9223372036854775808) then
  (bif (decide (((withS ((aArS (cutC p0) 0)) ((aArD (cutC p0) 0)) ((aPl (cutC p0) (aArP (cutC p0) 0) (aArS (cutC p0) 0))) ((anyNumV (cutC p0) (aPlP (cutC p0) (aArP (cutC p0) 0) (aArS (cutC p0) 0)))))) = ((withS ((aArS (cutC p0) 0)) ((aArD (cutC p0) 0)) ((aPl (cutC p0) (aArP (cutC p0) 0) (aArS (cutC p0) 0))) ((anyNumV (cutC p0) (aPlP (cutC p0) (aArP (cutC p0) 0) (aArS (cutC p0) 0))))))) && decide (((withD ((aArS (cutC p0) 0)) ((aArD (cutC p0) 0)) ((aPl (cutC p0) (aArP (cutC p0) 0) (aArS (cutC p0) 0))) ((anyNumV (cutC p0) (aPlP (cutC p0) (aArP (cutC p0) 0) (aArS (cutC p0) 0)))))) = ((withD ((aArS (cutC p0) 0)) ((aArD (cutC p0) 0)) ((aPl (cutC p0) (aArP (cutC p0) 0) (aArS (cutC p0) 0))) ((anyNumV (cutC p0) (aPlP (cutC p0) (aArP (cutC p0) 0) (aArS (cutC p0) 0)))))))) then
  some ([.one ((.bool ((withB ((aArS (cutC p0) 0)) ((aArD (cutC p0) 0)) ((aPl (cutC p0) (aArP (cutC p0) 0) (aArS (cutC p0) 0))) ((anyNumV (cutC p0) (aPlP (cutC p0) (aArP (cutC p0) 0) (aArS (cutC p0) 0))))) == (withB ((aArS (cutC p0) 0)) ((aArD (cutC p0) 0)) ((aPl (cutC p0) (aArP (cutC p0) 0) (aArS (cutC p0) 0))) ((anyNumV (cutC p0) (aPlP (cutC p0) (aArP (cutC p0) 0) (aArS (cutC p0) 0))))))), false)], [])
  else
  some ([.one ((.bool false), false)], []))
  else
  none)
  else
  (bif (!((withB ((aArS (cutC p0) 0)) ((aArD (cutC p0) 0)) ((aPl (cutC p0) (aArP (cutC p0) 0) (aArS (cutC p0) 0))) ((anyNumV (cutC p0) (aPlP (cutC p0) (aArP (cutC p0) 0) (aArS (cutC p0) 0))))) == (withB ((aArS (cutC p0) 0)) ((aArD (cutC p0) 0)) ((aPl (cutC p0) (aArP (cutC p0) 0) (aArS (cutC p0) 0))) ((anyNumV (cutC p0) (aPlP (cutC p0) (aArP (cutC p0) 0) (aArS (cutC p0) 0))))))) then
  (bif decide (((withS ((aArS (cutC p0) 0)) ((aArD (cutC p0) 0)) ((aPl (cutC p0) (aArP (cutC p0) 0) (aArS (cutC p0) 0))) ((anyNumV (cutC p0) (aPlP (cutC p0) (aArP (cutC p0) 0) (aArS (cutC p0) 0)))))).length < 9223372036854775808) && decide (((withD ((aArS (cutC p0) 0)) ((aArD (cutC p0) 0)) ((aPl (cutC p0) (aArP (cutC p0) 0) (aArS (cutC p0) 0))) ((anyNumV (cutC p0) (aPlP (cutC p0) (aArP (cutC p0) 0) (aArS (cutC p0) 0)))))).length < 9223372036854775808) && decide (((withS ((aArS (cutC p0) 0)) ((aArD (cutC p0) 0)) ((aPl (cutC p0) (aArP (cutC p0) 0) (aArS (cutC p0) 0))) ((anyNumV (cutC p0) (aPlP (cutC p0) (aArP (cutC p0) 0) (aArS (cutC p0) 0)))))).length < 9223372036854775808) && decide (((withD ((aArS (cutC p0) 0)) ((aArD (cutC p0) 0)) ((aPl (cutC p0) (aArP (cutC p0) 0) (aArS (cutC p0) 0))) ((anyNumV (cutC p0) (aPlP (cutC p0) (aArP (cutC p0) 0) (aArS (cutC p0) 0)))))).length < 9223372036854775808) then
  (bif (decide (((withS ((aArS (cutC p0) 0)) ((aArD (cutC p0) 0)) ((aPl (cutC p0) (aArP (cutC p0) 0) (aArS (cutC p0) 0))) ((anyNumV (cutC p0) (aPlP (cutC p0) (aArP (cutC p0) 0) (aArS (cutC p0) 0)))))) = ((withS ((aArS (cutC p0) 0)) ((aArD (cutC p0) 0)) ((aPl (cutC p0) (aArP (cutC p0) 0) (aArS (cutC p0) 0))) ((anyNumV (cutC p0) (aPlP (cutC p0) (aArP (cutC p0) 0) (aArS (cutC p0) 0))))))) && decide (((withD ((aArS (cutC p0) 0)) ((aArD (cutC p0) 0)) ((aPl (cutC p0) (aArP (cutC p0) 0) (aArS (cutC p0) 0))) ((anyNumV (cutC p0) (aPlP (cutC p0) (aArP (cutC p0) 0) (aArS (cutC p0) 0)))))) = ((withD ((aArS (cutC p0) 0)) ((aArD (cutC p0) 0)) ((aPl (cutC p0) (aArP (cutC p0) 0) (aArS (cutC p0) 0))) ((anyNumV (cutC p0) (aPlP (cutC p0) (aArP (cutC p0) 0) (aArS (cutC p0) 0)))))))) then
  some ([.one ((.bool ((withB ((aArS (cutC p0) 0)) ((aArD (cutC p0) 0)) ((aPl (cutC p0) (aArP (cutC p0) 0) (aArS (cutC p0) 0))) ((anyNumV (cutC p0) (aPlP (cutC p0) (aArP (cutC p0) 0) (aArS (cutC p0) 0))))) == (withB ((aArS (cutC p0) 0)) ((aArD (cutC p0) 0)) ((aPl (cutC p0) (aArP (cutC p0) 0) (aArS (cutC p0) 0))) ((anyNumV (cutC p0) (aPlP (cutC p0) (aArP (cutC p0) 0) (aArS (cutC p0) 0))))))), false)], [])
  else
  some ([.one ((.bool false), false)], []))
  else
  none)
  else
  (bif (!(withB ((aArS (cutC p0) 0)) ((aArD (cutC p0) 0)) ((aPl (cutC p0) (aArP (cutC p0) 0) (aArS (cutC p0) 0))) ((anyNumV (cutC p0) (aPlP (cutC p0) (aArP (cutC p0) 0) (aArS (cutC p0) 0)))))) then
  (bif decide (((withS ((aArS (cutC p0) 0)) ((aArD (cutC p0) 0)) ((aPl (cutC p0) (aArP (cutC p0) 0) (aArS (cutC p0) 0))) ((anyNumV (cutC p0) (aPlP (cutC p0) (aArP (cutC p0) 0) (aArS (cutC p0) 0)))))).length < 9223372036854775808) && decide (((withD ((aArS (cutC p0) 0)) ((aArD (cutC p0) 0)) ((aPl (cutC p0) (aArP (cutC p0) 0) (aArS (cutC p0) 0))) ((anyNumV (cutC p0) (aPlP (cutC p0) (aArP (cutC p0) 0) (aArS (cutC p0) 0)))))).length < 9223372036854775808) && decide (((withS ((aArS (cutC p0) 0)) ((aArD (cutC p0) 0)) ((aPl (cutC p0) (aArP (cutC p0) 0) (aArS (cutC p0) 0))) ((anyNumV (cutC p0) (aPlP (cutC p0) (aArP (cutC p0) 0) (aArS (cutC p0) 0)))))).length < 9223372036854775808) && decide (((withD ((aArS (cutC p0) 0)) ((aArD (cutC p0) 0)) ((aPl (cutC p0) (aArP (cutC p0) 0) (aArS (cutC p0) 0))) ((anyNumV (cutC p0) (aPlP (cutC p0) (aArP (cutC p0) 0) (aArS (cutC p0) 0)))))).length < 9223372036854775808) then
  (bif (decide (((withS ((aArS (cutC p0) 0)) ((aArD (cutC p0) 0)) ((aPl (cutC p0) (aArP (cutC p0) 0) (aArS (cutC p0) 0))) ((anyNumV (cutC p0) (aPlP (cutC p0) (aArP (cutC p0) 0) (aArS (cutC p0) 0)))))) = ((withS ((aArS (cutC p0) 0)) ((aArD (cutC p0) 0)) ((aPl (cutC p0) (aArP (cutC p0) 0) (aArS (cutC p0) 0))) ((anyNumV (cutC p0) (aPlP (cutC p0) (aArP (cutC p0) 0) (aArS (cutC p0) 0))))))) && decide (((withD ((aArS (cutC p0) 0)) ((aArD (cutC p0) 0)) ((aPl (cutC p0) (aArP (cutC p0) 0) (aArS (cutC p0) 0))) ((anyNumV (cutC p0) (aPlP (cutC p0) (aArP (cutC p0) 0) (aArS (cutC p0) 0)))))) = ((withD ((aArS (cutC p0) 0)) ((aArD (cutC p0) 0)) ((aPl (cutC p0) (aArP (cutC p0) 0) (aArS (cutC p0) 0))) ((anyNumV (cutC p0) (aPlP (cutC p0) (aArP (cutC p0) 0) (aArS (cutC p0) 0)))))))) then
  some ([.one ((.bool ((withB ((aArS (cutC p0) 0)) ((aArD (cutC p0) 0)) ((aPl (cutC p0) (aArP (cutC p0) 0) (aArS (cutC p0) 0))) ((anyNumV (cutC p0) (aPlP (cutC p0) (aArP (cutC p0) 0) (aArS (cutC p0) 0))))) == (withB ((aArS (cutC p0) 0)) ((aArD (cutC p0) 0)) ((aPl (cutC p0) (aArP (cutC p0) 0) (aArS (cutC p0) 0))) ((anyNumV (cutC p0) (aPlP (cutC p0) (aArP (cutC p0) 0) (aArS (cutC p0) 0))))))), false)], [])
  else
  some ([.one ((.bool false), false)], []))
  else
  none)
  else
  L0 fuel fuel (t0 p0 0 0) (k0  fuel))))
  else
  none)
  else
  none)
  else
  none)
  else
  none)) := by kernel_rfl
theorem s0 (fuel n0 : Nat) (p0 : List Int) (x0q0 : Int) (x0q1 : Int) : L0 fuel (n0 + 1) (t0 p0 x0q0 x0q1) (k0  fuel) =
  (bif (decide ((x0q1 : Int) < (((aArD (cutC p0) 0).length : Nat) : Int))) then
  (bif (decide ((x0q1 : Int) ≥ (((withD ((aArS (cutC p0) 0)) ((aArD (cutC p0) 0)) ((aPl (cutC p0) (aArP (cutC p0) 0) (aArS (cutC p0) 0))) ((anyNumV (cutC p0) (aPlP (cutC p0) (aArP (cutC p0) 0) (aArS (cutC p0) 0))))).length : Nat) : Int))) then
  L0 fuel n0 (t0 p0 ((IntKind.wrap .i64 (x0q0 + 1))) ((IntKind.wrap .i64 (x0q1 + 1)))) (k0  fuel)
  else
  (idx x0q1 (aArD (cutC p0) 0).length).bind fun j9 =>
  ((aArD (cutC p0) 0)[j9]?).bind fun v10 =>
  (idx x0q1 (withD ((aArS (cutC p0) 0)) ((aArD (cutC p0) 0)) ((aPl (cutC p0) (aArP (cutC p0) 0) (aArS (cutC p0) 0))) ((anyNumV (cutC p0) (aPlP (cutC p0) (aArP (cutC p0) 0) (aArS (cutC p0) 0))))).length).bind fun j11 =>
  ((withD ((aArS (cutC p0) 0)) ((aArD (cutC p0) 0)) ((aPl (cutC p0) (aArP (cutC p0) 0) (aArS (cutC p0) 0))) ((anyNumV (cutC p0) (aPlP (cutC p0) (aArP (cutC p0) 0) (aArS (cutC p0) 0)))))[j11]?).bind fun v12 =>
  (bif ((v10 : Int) != v12) then
  L0 fuel n0 (t0 p0 ((IntKind.wrap .i64 (x0q0 + 1))) ((IntKind.wrap .i64 (x0q1 + 1)))) (k0  fuel)
  else
  L0 fuel n0 (t0 p0 x0q0 ((IntKind.wrap .i64 (x0q1 + 1)))) (k0  fuel)))
  else
  (bif (decide ((x0q0 : Int) ≤ 1)) then
  (bif decide (((aArS (cutC p0) 0)).length < 9223372036854775808) && decide (((withS ((aArS (cutC p0) 0)) ((aArD (cutC p0) 0)) ((aPl (cutC p0) (aArP (cutC p0) 0) (aArS (cutC p0) 0))) ((anyNumV (cutC p0) (aPlP (cutC p0) (aArP (cutC p0) 0) (aArS (cutC p0) 0)))))).length < 9223372036854775808) then
  some ([.one ((.bool (decide (((aArS (cutC p0) 0)) = ((withS ((aArS (cutC p0) 0)) ((aArD (cutC p0) 0)) ((aPl (cutC p0) (aArP (cutC p0) 0) (aArS (cutC p0) 0))) ((anyNumV (cutC p0) (aPlP (cutC p0) (aArP (cutC p0) 0) (aArS (cutC p0) 0))))))))), false)], [])
  else
  none)
  else
  some ([.one ((.bool false), false)], []))) := by kernel_rfl
end laws_FnWithItemOthers
theorem laws_FnWithItemOthers.ok_of (hX : ∀ E ∈ laws_FnWithItemOthers.X, CallSpec Try.prog E) (h : ∀ (bs : List Int), (bytesB bs) = true → ∃ fuel, runF Try.prog laws_FnWithItemOthers.X laws_FnWithItemOthers.I 0 fuel 7 Try.f7 [.d (.ints .u8 bs)] = some ([.one ((.bool true), false)], [])) : CallSpec Try.prog laws_FnWithItemOthers.E :=
  callSpec_of (d := 0) hX (by kernel_rfl) laws_FnWithItemOthers.I_ok (by kernel_rfl) (by kernel_rfl) (by kernel_rfl) (fun _ _ _ _ h => by dsimp only [laws_FnWithItemOthers.E] at h; cases h) (fun xs hp => by
    dsimp only [laws_FnWithItemOthers.E] at hp ⊢
    split at hp
    · exact h _ hp
    · cases hp)
theorem laws_FnWithItemOthers.ok : CallSpec Try.prog laws_FnWithItemOthers.E := laws_FnWithItemOthers.ok_of (by simp [laws_FnWithItemOthers.X, spec_DrawWithItem.ok, impl_WithItem.ok, spec_WithItem.ok, laws_equalArray.ok, laws_equalInts.ok]) fun bs h => by
  obtain ⟨F, hF⟩ : ∃ F : Nat, 4000 < F := ⟨4001, by omega⟩
  refine ⟨F, ?_⟩
  rw [laws_FnWithItemOthers.e]
  by_cases hl : ((bs.length : Nat) : Int) > 1048576
  · rw [decide_eq_true hl]; rfl
  rw [decide_eq_false hl, cond_false, h, cond_true]
  have r0 := cut_ok h (p := 0) (by omega) (by omega)
  obtain ⟨a1, a2, _, _⟩ := aAr_bd r0 (by omega)
  have a3 := (aPl_bd (cutC bs) (aArP (cutC bs) 0) (aArS (cutC bs) 0)).1
  obtain ⟨sh, hsh⟩ : ∃ x, aArS (cutC bs) 0 = x := ⟨_, rfl⟩
  obtain ⟨da, hda⟩ : ∃ x, aArD (cutC bs) 0 = x := ⟨_, rfl⟩
  obtain ⟨pl, hpl⟩ : ∃ x, aPl (cutC bs) (aArP (cutC bs) 0) sh = x := ⟨_, rfl⟩
  rw [hsh] at a1 a3
  rw [hda] at a2
  rw [hpl] at a3
  have g1 := lt_of (xs := sh) (by omega)
  have g2 := lt_of (xs := da) (by omega)
  have g3 := lt_of (xs := pl) (by omega)
  obtain ⟨nn, hnn⟩ : ∃ x, anyNumV (cutC bs) (aPlP (cutC bs) (aArP (cutC bs) 0) sh) = x := ⟨_, rfl⟩
  simp only [hsh, hda, hpl, hnn]
  cases hw : withB sh da pl nn with
  | false =>
    simp only [withS, withD, hw, g1, g2, g3, Bool.and_self, cond_true, cond_false]
    rfl
  | true =>
    have hw' := hw
    simp only [withB, Bool.and_eq_true] at hw'
    obtain ⟨hb, hn⟩ := hw'
    obtain ⟨hv, hp, o1, o2⟩ := itemB_inv hb
    have h60 := (validA_len hv).2
    obtain ⟨A, hA⟩ : ∃ A : Nat, offW sh pl 0 = A := ⟨(offW sh pl 0).toNat, by omega⟩
    rw [hA, Int.toNat_natCast] at o2
    have hls : (da.set A nn).length = da.length := List.length_set
    have g4 := lt_of (xs := da.set A nn) (by omega)
    simp only [Bool.and_self, Bool.and_true, Bool.true_and, cond_true, cond_false, Bool.not_true, Bool.not_false, bne_self_eq_false, beq_self_eq_true, decide_true, eq_self, withS, withD, hw, hA, Int.toNat_natCast, g1, g2, g3, g4]
    refine run_loop (N := da.length) (fun n j (c : Int) => laws_FnWithItemOthers.L0 F n (laws_FnWithItemOthers.t0 bs c (j : Int)) (laws_FnWithItemOthers.k0 F)) (fun j c => 0 ≤ c ∧ c ≤ 1 ∧ (j ≤ A → c = 0)) ?_ ?_ F 0 0 (by omega) (by omega) ⟨by omega, by omega, fun _ => rfl⟩
    · intro n c hI
      rw [laws_FnWithItemOthers.s0]
      simp only [hsh, hda, hpl, hnn]
      rw [dge (by omega), cond_false, decide_eq_true (by omega), cond_true]
      simp only [Bool.and_self, Bool.and_true, Bool.true_and, cond_true, cond_false, Bool.not_true, Bool.not_false, bne_self_eq_false, beq_self_eq_true, decide_true, eq_self, withS, withD, hw, g1]
    · intro n j c hj hI
      have j2 : j < (da.set A nn).length := by omega
      rw [laws_FnWithItemOthers.s0]
      simp only [hsh, hda, hpl, hnn, withD, hw, hA, Int.toNat_natCast, cond_true]
      rw [dlt hj, cond_true, decide_eq_false (by omega), cond_false, idx_nat hj, idx_nat j2, w1 (j := j) (by omega)]
      simp only [Option.bind_some, getD_get hj, getD_get j2]
      by_cases hjA : j = A
      · subst hjA
        cases hne : (da.getD j 0 != (da.set j nn).getD j 0) with
        | true =>
          refine ⟨1, ⟨by omega, by omega, fun h => absurd h (by omega)⟩, ?_⟩
          rw [cond_true, hI.2.2 (Nat.le_refl _)]
          rfl
        | false => exact ⟨c, ⟨by omega, by omega, fun h => absurd h (by omega)⟩, rfl⟩
      · have he : (da.set A nn).getD j 0 = da.getD j 0 := by
          simp only [List.getD_eq_getElem?_getD]
          rw [List.getElem?_set_ne (fun e => hjA e.symm)]
        rw [he, bne_self_eq_false, cond_false]
        exact ⟨c, ⟨hI.1, hI.2.1, fun h => hI.2.2 (by omega)⟩, rfl⟩

namespace impl_VectorOf
noncomputable def E : Entry := ⟨44, false, false, fun | [.d (.ints .i64 xs)] => szB xs | _ => false, fun | [.d (.ints .i64 xs)] => ([.agg [((.ints .i64 (vecS xs)), true), ((.ints .i64 (vecD xs)), true)]], []) | _ => ([], []), fun _ => [], true, fun _ => none⟩
end impl_VectorOf
namespace impl_VectorOf
noncomputable def X : List Entry := [impl_ValidArray.E, impl_copyList.E]
noncomputable def I : List Inl := [⟨44, Try.f44, ⟨[15], [], [], [], [], []⟩⟩]
theorem I_ok : ∀ i ∈ I, Try.prog.funcs[i.f]? = some i.fn ∧ (i.fn.name == "runtime.NumGoroutine") = false := by
  intro i hi
  simp only [I, List.mem_cons, List.not_mem_nil, or_false] at hi
  subst hi
  exact ⟨by kernel_rfl, by kernel_rfl⟩
theorem e (fuel : Nat) (p0 : List Int) : runF Try.prog X I 0 fuel 44 Try.f44 [.d (.ints .i64 p0)] =
  (bif decide (([((p0.length : Nat) : Int)]).length < 9223372036854775808) && decide (p0.length < 9223372036854775808) then
  (bif (!(validA ([((p0.length : Nat) : Int)]) p0)) then
  some ([.agg [((.ints .i64 []), true), ((.ints .i64 []), true)]], [])
  else
  (bif szB p0 then
  some ([.agg [((.ints .i64 [((p0.length : Nat) : Int)]), true), ((.ints .i64 p0), true)]], [])
  else
  none))
  else
  none) := by kernel_rfl
end impl_VectorOf
theorem impl_VectorOf.ok_of (hX : ∀ E ∈ impl_VectorOf.X, CallSpec Try.prog E) (h : ∀ (xs : List Int), (szB xs) = true → ∃ fuel, runF Try.prog impl_VectorOf.X impl_VectorOf.I 0 fuel 44 Try.f44 [.d (.ints .i64 xs)] = some ([.agg [((.ints .i64 (vecS xs)), true), ((.ints .i64 (vecD xs)), true)]], [])) : CallSpec Try.prog impl_VectorOf.E :=
  callSpec_of (d := 0) hX (by kernel_rfl) impl_VectorOf.I_ok (by kernel_rfl) (by kernel_rfl) (by kernel_rfl) (fun _ _ _ _ h => by dsimp only [impl_VectorOf.E] at h; cases h) (fun xs hp => by
    dsimp only [impl_VectorOf.E] at hp ⊢
    split at hp
    · exact h _ hp
    · cases hp)
theorem validA_vec0 (xs : List Int) (hx : xs.length < 9223372036854775808) : validA [((xs.length : Nat) : Int)] xs = vecOk xs := by
  have e1 := @wS ((xs.length : Nat) : Int) (by omega) (by omega)
  by_cases h1 : xs.length ≤ 60
  · have h2 : ((xs.length : Nat) : Int) ≤ 60 := by omega
    simp [validA, validS, vecOk, allB_cons, allB_nil, volW, volFrom, e1, h1, h2]
  · have h2 : ¬ ((xs.length : Nat) : Int) ≤ 60 := by omega
    simp [validA, validS, vecOk, allB_cons, allB_nil, volW, volFrom, e1, h1, h2]

theorem impl_VectorOf.ok : CallSpec Try.prog impl_VectorOf.E := impl_VectorOf.ok_of (by simp [impl_VectorOf.X, impl_ValidArray.ok, impl_copyList.ok]) fun xs h => ⟨0, by
  rw [impl_VectorOf.e, lt_of (szB_lt h), h, validA_vec0 xs (szB_lt h), lt_of (by simp)]
  unfold vecS vecD
  cases vecOk xs <;> rfl⟩

namespace impl_Ravel
noncomputable def E : Entry := ⟨23, false, false, fun | [.d (.agg [(.ints .i64 sh), (.ints .i64 da)])] => decide (sh.length < 9223372036854775808) && decide (da.length < 9223372036854775808) | _ => false, fun | [.d (.agg [(.ints .i64 sh), (.ints .i64 da)])] => ([.agg [((.ints .i64 (ravS sh da)), true), ((.ints .i64 (ravD sh da)), true)]], []) | _ => ([], []), fun _ => [], true, fun _ => none⟩
end impl_Ravel
namespace impl_Ravel
noncomputable def X : List Entry := [impl_ValidArray.E, impl_VectorOf.E]
noncomputable def I : List Inl := [⟨23, Try.f23, ⟨[9], [], [], [], [], []⟩⟩]
theorem I_ok : ∀ i ∈ I, Try.prog.funcs[i.f]? = some i.fn ∧ (i.fn.name == "runtime.NumGoroutine") = false := by
  intro i hi
  simp only [I, List.mem_cons, List.not_mem_nil, or_false] at hi
  subst hi
  exact ⟨by kernel_rfl, by kernel_rfl⟩
theorem e (fuel : Nat) (p0q0 : List Int) (p0q1 : List Int) : runF Try.prog X I 0 fuel 23 Try.f23 [.d (.agg [(.ints .i64 p0q0), (.ints .i64 p0q1)])] =
  (bif decide (p0q0.length < 9223372036854775808) && decide (p0q1.length < 9223372036854775808) then
  (bif (!(validA p0q0 p0q1)) then
  some ([.agg [((.ints .i64 []), true), ((.ints .i64 []), true)]], [])
  else
  (bif szB p0q1 then
  some ([.agg [((.ints .i64 (vecS p0q1)), true), ((.ints .i64 (vecD p0q1)), true)]], [])
  else
  none))
  else
  none) := by kernel_rfl
end impl_Ravel
theorem impl_Ravel.ok_of (hX : ∀ E ∈ impl_Ravel.X, CallSpec Try.prog E) (h : ∀ (sh : List Int) (da : List Int), (decide (sh.length < 9223372036854775808) && decide (da.length < 9223372036854775808)) = true → ∃ fuel, runF Try.prog impl_Ravel.X impl_Ravel.I 0 fuel 23 Try.f23 [.d (.agg [(.ints .i64 sh), (.ints .i64 da)])] = some ([.agg [((.ints .i64 (ravS sh da)), true), ((.ints .i64 (ravD sh da)), true)]], [])) : CallSpec Try.prog impl_Ravel.E :=
  callSpec_of (d := 0) hX (by kernel_rfl) impl_Ravel.I_ok (by kernel_rfl) (by kernel_rfl) (by kernel_rfl) (fun _ _ _ _ h => by dsimp only [impl_Ravel.E] at h; cases h) (fun xs hp => by
    dsimp only [impl_Ravel.E] at hp ⊢
    split at hp
    · exact h _ _ hp
    · cases hp)
theorem impl_Ravel.ok : CallSpec Try.prog impl_Ravel.E := impl_Ravel.ok_of (by simp [impl_Ravel.X, impl_ValidArray.ok, impl_VectorOf.ok]) fun sh da h => ⟨0, by
  rw [impl_Ravel.e, h]
  unfold ravS ravD vecS vecD
  cases hv : validA sh da with
  | false => rfl
  | true => rw [szB_of (by have := validA_len hv; omega), vecOk_of hv]; rfl⟩

namespace laws_FnItemAtRavel
noncomputable def E : Entry := ⟨8, true, false, fun | [.d (.ints .u8 bs)] => bytesB bs | _ => false, fun | [.d (.ints .u8 bs)] => ([.one ((.bool true), false)], []) | _ => ([], []), fun _ => [], false, fun _ => none⟩
end laws_FnItemAtRavel
namespace laws_FnItemAtRavel
noncomputable def X : List Entry := [spec_DrawItemAt.E, impl_ItemAt.E, spec_ItemAt.E, impl_Ravel.E, impl_OffsetOf.E]
noncomputable def I : List Inl := [⟨8, Try.f8, ⟨[16, 53], [], [], [(8, [2, 4, 0, 3, 1, 5, 6, 7, 8, 9, 10, 11, 12])], [58], []⟩⟩]
theorem I_ok : ∀ i ∈ I, Try.prog.funcs[i.f]? = some i.fn ∧ (i.fn.name == "runtime.NumGoroutine") = false := by
  intro i hi
  simp only [I, List.mem_cons, List.not_mem_nil, or_false] at hi
  subst hi
  exact ⟨by kernel_rfl, by kernel_rfl⟩
theorem e (fuel : Nat) (p0 : List Int) : runF Try.prog X I 0 fuel 8 Try.f8 [.d (.ints .u8 p0)] =
  (bif (decide ((((p0.length : Nat) : Int) : Int) > 1048576)) then
  some ([.one ((.bool true), false)], [])
  else
  (bif bytesB p0 then
  (bif decide (((aArS (cutC p0) 0)).length < 9223372036854775808) && decide (((aArD (cutC p0) 0)).length < 9223372036854775808) && decide (((aPl (cutC p0) (aArP (cutC p0) 0) (aArS (cutC p0) 0))).length < 9223372036854775808) then
  (bif decide (((aArS (cutC p0) 0)).length < 9223372036854775808) && decide (((aArD (cutC p0) 0)).length < 9223372036854775808) && decide (((aPl (cutC p0) (aArP (cutC p0) 0) (aArS (cutC p0) 0))).length < 9223372036854775808) then
  (bif (((itemV ((aArS (cutC p0) 0)) ((aArD (cutC p0) 0)) ((aPl (cutC p0) (aArP (cutC p0) 0) (aArS (cutC p0) 0)))) : Int) != (itemV ((aArS (cutC p0) 0)) ((aArD (cutC p0) 0)) ((aPl (cutC p0) (aArP (cutC p0) 0) (aArS (cutC p0) 0))))) then
  (bif (((itemV ((aArS (cutC p0) 0)) ((aArD (cutC p0) 0)) ((aPl (cutC p0) (aArP (cutC p0) 0) (aArS (cutC p0) 0)))) : Int) == (itemV ((aArS (cutC p0) 0)) ((aArD (cutC p0) 0)) ((aPl (cutC p0) (aArP (cutC p0) 0) (aArS (cutC p0) 0))))) then
  some ([.one ((.bool ((itemB ((aArS (cutC p0) 0)) ((aArD (cutC p0) 0)) ((aPl (cutC p0) (aArP (cutC p0) 0) (aArS (cutC p0) 0)))) == (itemB ((aArS (cutC p0) 0)) ((aArD (cutC p0) 0)) ((aPl (cutC p0) (aArP (cutC p0) 0) (aArS (cutC p0) 0)))))), false)], [])
  else
  some ([.one ((.bool false), false)], []))
  else
  (bif (!((itemB ((aArS (cutC p0) 0)) ((aArD (cutC p0) 0)) ((aPl (cutC p0) (aArP (cutC p0) 0) (aArS (cutC p0) 0)))) == (itemB ((aArS (cutC p0) 0)) ((aArD (cutC p0) 0)) ((aPl (cutC p0) (aArP (cutC p0) 0) (aArS (cutC p0) 0)))))) then
  (bif (((itemV ((aArS (cutC p0) 0)) ((aArD (cutC p0) 0)) ((aPl (cutC p0) (aArP (cutC p0) 0) (aArS (cutC p0) 0)))) : Int) == (itemV ((aArS (cutC p0) 0)) ((aArD (cutC p0) 0)) ((aPl (cutC p0) (aArP (cutC p0) 0) (aArS (cutC p0) 0))))) then
  some ([.one ((.bool ((itemB ((aArS (cutC p0) 0)) ((aArD (cutC p0) 0)) ((aPl (cutC p0) (aArP (cutC p0) 0) (aArS (cutC p0) 0)))) == (itemB ((aArS (cutC p0) 0)) ((aArD (cutC p0) 0)) ((aPl (cutC p0) (aArP (cutC p0) 0) (aArS (cutC p0) 0)))))), false)], [])
  else
  some ([.one ((.bool false), false)], []))
  else
  (bif (!(itemB ((aArS (cutC p0) 0)) ((aArD (cutC p0) 0)) ((aPl (cutC p0) (aArP (cutC p0) 0) (aArS (cutC p0) 0))))) then
  (bif (((itemV ((aArS (cutC p0) 0)) ((aArD (cutC p0) 0)) ((aPl (cutC p0) (aArP (cutC p0) 0) (aArS (cutC p0) 0)))) : Int) == (itemV ((aArS (cutC p0) 0)) ((aArD (cutC p0) 0)) ((aPl (cutC p0) (aArP (cutC p0) 0) (aArS (cutC p0) 0))))) then
  some ([.one ((.bool ((itemB ((aArS (cutC p0) 0)) ((aArD (cutC p0) 0)) ((aPl (cutC p0) (aArP (cutC p0) 0) (aArS (cutC p0) 0)))) == (itemB ((aArS (cutC p0) 0)) ((aArD (cutC p0) 0)) ((aPl (cutC p0) (aArP (cutC p0) 0) (aArS (cutC p0) 0)))))), false)], [])
  else
  some ([.one ((.bool false), false)], []))
  else
  (bif decide (((aArS (cutC p0) 0)).length < 9223372036854775808) && decide (((aArD (cutC p0) 0)).length < 9223372036854775808) then
  (bif decide (((aArS (cutC p0) 0)).length < 9223372036854775808) && decide (((aPl (cutC p0) (aArP (cutC p0) 0) (aArS (cutC p0) 0))).length < 9223372036854775808) then
  (bif decide (((ravS ((aArS (cutC p0) 0)) ((aArD (cutC p0) 0)))).length < 9223372036854775808) && decide (((ravD ((aArS (cutC p0) 0)) ((aArD (cutC p0) 0)))).length < 9223372036854775808) && decide (([(offS ((aArS (cutC p0) 0)) ((aPl (cutC p0) (aArP (cutC p0) 0) (aArS (cutC p0) 0))))]).length < 9223372036854775808) then
  (bif (itemB ((ravS ((aArS (cutC p0) 0)) ((aArD (cutC p0) 0)))) ((ravD ((aArS (cutC p0) 0)) ((aArD (cutC p0) 0)))) ([(offS ((aArS (cutC p0) 0)) ((aPl (cutC p0) (aArP (cutC p0) 0) (aArS (cutC p0) 0))))])) then
  some ([.one ((.bool (((itemV ((ravS ((aArS (cutC p0) 0)) ((aArD (cutC p0) 0)))) ((ravD ((aArS (cutC p0) 0)) ((aArD (cutC p0) 0)))) ([(offS ((aArS (cutC p0) 0)) ((aPl (cutC p0) (aArP (cutC p0) 0) (aArS (cutC p0) 0))))])) : Int) == (itemV ((aArS (cutC p0) 0)) ((aArD (cutC p0) 0)) ((aPl (cutC p0) (aArP (cutC p0) 0) (aArS (cutC p0) 0)))))), false)], [])
  else
  some ([.one ((.bool false), false)], []))
  else
  none)
  else
  none)
  else
  none))))
  else
  none)
  else
  none)
  else
  none)) := by kernel_rfl
end laws_FnItemAtRavel
theorem laws_FnItemAtRavel.ok_of (hX : ∀ E ∈ laws_FnItemAtRavel.X, CallSpec Try.prog E) (h : ∀ (bs : List Int), (bytesB bs) = true → ∃ fuel, runF Try.prog laws_FnItemAtRavel.X laws_FnItemAtRavel.I 0 fuel 8 Try.f8 [.d (.ints .u8 bs)] = some ([.one ((.bool true), false)], [])) : CallSpec Try.prog laws_FnItemAtRavel.E :=
  callSpec_of (d := 0) hX (by kernel_rfl) laws_FnItemAtRavel.I_ok (by kernel_rfl) (by kernel_rfl) (by kernel_rfl) (fun _ _ _ _ h => by dsimp only [laws_FnItemAtRavel.E] at h; cases h) (fun xs hp => by
    dsimp only [laws_FnItemAtRavel.E] at hp ⊢
    split at hp
    · exact h _ hp
    · cases hp)
theorem laws_FnItemAtRavel.ok : CallSpec Try.prog laws_FnItemAtRavel.E := laws_FnItemAtRavel.ok_of (by simp [laws_FnItemAtRavel.X, spec_DrawItemAt.ok, impl_ItemAt.ok, spec_ItemAt.ok, impl_Ravel.ok, impl_OffsetOf.ok]) fun bs h => by
  obtain ⟨F, hF⟩ : ∃ F : Nat, 4000 < F := ⟨4001, by omega⟩
  refine ⟨F, ?_⟩
  rw [laws_FnItemAtRavel.e]
  by_cases hl : ((bs.length : Nat) : Int) > 1048576
  · rw [decide_eq_true hl]; rfl
  rw [decide_eq_false hl, cond_false, h, cond_true]
  have r0 := cut_ok h (p := 0) (by omega) (by omega)
  obtain ⟨a1, a2, _, _⟩ := aAr_bd r0 (by omega)
  have a3 := (aPl_bd (cutC bs) (aArP (cutC bs) 0) (aArS (cutC bs) 0)).1
  obtain ⟨sh, hsh⟩ : ∃ x, aArS (cutC bs) 0 = x := ⟨_, rfl⟩
  obtain ⟨da, hda⟩ : ∃ x, aArD (cutC bs) 0 = x := ⟨_, rfl⟩
  obtain ⟨pl, hpl⟩ : ∃ x, aPl (cutC bs) (aArP (cutC bs) 0) sh = x := ⟨_, rfl⟩
  rw [hsh] at a1 a3
  rw [hda] at a2
  rw [hpl] at a3
  have g1 := lt_of (xs := sh) (by omega)
  have g2 := lt_of (xs := da) (by omega)
  have g3 := lt_of (xs := pl) (by omega)
  simp only [hsh, hda, hpl]
  cases hb : itemB sh da pl with
  | false =>
    simp only [itemV, hb, g1, g2, g3, Bool.and_self, cond_true, cond_false]
    rfl
  | true =>
    obtain ⟨hv, hp, o1, o2⟩ := itemB_inv hb
    have hvs := (validA_inv hv).1
    have h60 := (validA_len hv).2
    obtain ⟨A, hA⟩ : ∃ A : Nat, offW sh pl 0 = A := ⟨(offW sh pl 0).toNat, by omega⟩
    rw [hA, Int.toNat_natCast] at o2
    have q1 := rav_valid hv
    have q2 : isPl [((da.length : Nat) : Int)] [(A : Int)] = true := by
      rw [isPl1 (by omega) (by omega)]; exact decide_eq_true (by omega)
    have q3 := off1 (A := da.length) (p := A) (by omega) o2
    have g4 := lt_of (xs := [((da.length : Nat) : Int)]) (by simp)
    have g5 := lt_of (xs := [(A : Int)]) (by simp)
    have hb1 := hb
    have e1 : itemV sh da pl = da.getD A 0 := by simp only [itemV, hb, cond_true, hA, Int.toNat_natCast]
    simp only [Bool.and_self, Bool.and_true, Bool.true_and, cond_true, cond_false, Bool.not_true, Bool.not_false, bne_self_eq_false, beq_self_eq_true, decide_true, eq_self, hb, e1, g1, g2, g3, g4, g5, ravS, ravD, hv, offS, hvs, hp, hA]
    simp only [Bool.and_self, Bool.and_true, Bool.true_and, cond_true, cond_false, Bool.not_true, Bool.not_false, bne_self_eq_false, beq_self_eq_true, decide_true, eq_self, itemB, itemV, q1, q2, q3, g5, Int.toNat_natCast]

end Go.Ab
