import Derived.Test.YtpafnakefbnofabEbp
import Derived.Test.YtpafnakefbnofabProg
import Derived.Test.YtpafnakefbnofabChecked
open Go Go.Ab Go.Proofs
set_option maxRecDepth 100000
set_option linter.unusedVariables false
set_option linter.unusedSimpArgs false
namespace Go.Ab
namespace spec_newReader
noncomputable def E : Entry := ⟨21, false, false, fun | [.d (.ints .u8 bs)] => true | _ => false, fun | [.d (.ints .u8 bs)] => ([.box [((.ints .u8 (cutC bs)), false), ((.int .i64 0), false)]], []) | _ => ([], []), fun _ => [], true, fun _ => none⟩
end spec_newReader
namespace spec_newReader
noncomputable def X : List Entry := []
noncomputable def I : List Inl := [⟨21, Try.f21, ⟨[], [], [], [], [], []⟩⟩]
theorem I_ok : ∀ i ∈ I, Try.prog.funcs[i.f]? = some i.fn ∧ (i.fn.name == "runtime.NumGoroutine") = false := by
  intro i hi
  simp only [I, List.mem_cons, List.not_mem_nil, or_false] at hi
  subst hi
  exact ⟨by kernel_rfl, by kernel_rfl⟩
theorem e (fuel : Nat) (p0 : List Int) : runF Try.prog X I 0 fuel 21 Try.f21 [.d (.ints .u8 p0)] =
  (bif (decide ((((p0.length : Nat) : Int) : Int) > 2000)) then
  (cutEnds p0.length (none) (some (.imm (.int .i64 2000)))).bind fun cq1 =>
  some ([.box [((.ints .u8 ((p0.drop cq1.1).take (cq1.2 - cq1.1))), false), ((.int .i64 0), false)]], [])
  else
  some ([.box [((.ints .u8 p0), false), ((.int .i64 0), false)]], [])) := by kernel_rfl
end spec_newReader
theorem spec_newReader.ok_of (hX : ∀ E ∈ spec_newReader.X, CallSpec Try.prog E) (h : ∀ (bs : List Int), (true) = true → ∃ fuel, runF Try.prog spec_newReader.X spec_newReader.I 0 fuel 21 Try.f21 [.d (.ints .u8 bs)] = some ([.box [((.ints .u8 (cutC bs)), false), ((.int .i64 0), false)]], [])) : CallSpec Try.prog spec_newReader.E :=
  callSpec_of (d := 0) hX (by kernel_rfl) spec_newReader.I_ok (by kernel_rfl) (by kernel_rfl) (by kernel_rfl) (fun _ _ _ _ h => by dsimp only [spec_newReader.E] at h; cases h) (fun xs hp => by
    dsimp only [spec_newReader.E] at hp ⊢
    split at hp
    · exact h _ hp
    · cases hp)
theorem spec_newReader.ok : CallSpec Try.prog spec_newReader.E := spec_newReader.ok_of (by simp [spec_newReader.X]) fun bs _ => ⟨0, by
  rw [spec_newReader.e]
  unfold cutC
  by_cases h : ((bs.length : Nat) : Int) > 2000
  · rw [decide_eq_true h]
    have : cutEnds bs.length none (some (.imm (.int .i64 2000))) = some (0, 2000) := by
      unfold cutEnds
      simp only
      rw [if_pos ⟨by omega, by omega⟩]
      rfl
    rw [this]
    rfl
  · rw [decide_eq_false h]
    rfl⟩

namespace spec_reader_pick
noncomputable def E : Entry := ⟨43, false, false, fun | [.box [(.ints .u8 bs), (.int .i64 p)], .d (.int .i64 n)] => rdOk bs p && decide ((n : Int) ≤ 1048576) | _ => false, fun | [.box [(.ints .u8 bs), (.int .i64 p)], .d (.int .i64 n)] => ([.one ((.int .i64 (pickV bs p n)), false)], [[(.ints .u8 bs), (.int .i64 (p + 1))]]) | _ => ([], []), fun _ => [], false, fun _ => none⟩
end spec_reader_pick
namespace spec_reader_pick
noncomputable def X : List Entry := []
noncomputable def I : List Inl := [⟨43, Try.f43, ⟨[], [], [], [(7, [0, 1, 2, 4, 5, 6, 7, 15, 16, 17, 19, 20, 21, 22, 23, 24, 33, 34, 36, 37, 38, 39, 3, 8, 9, 10, 11, 12, 13, 14, 18, 25, 26, 27, 28, 29, 30, 31, 32, 35, 40, 41, 42, 43, 44, 45])], [], []⟩⟩]
theorem I_ok : ∀ i ∈ I, Try.prog.funcs[i.f]? = some i.fn ∧ (i.fn.name == "runtime.NumGoroutine") = false := by
  intro i hi
  simp only [I, List.mem_cons, List.not_mem_nil, or_false] at hi
  subst hi
  exact ⟨by kernel_rfl, by kernel_rfl⟩
theorem e (fuel : Nat) (p0q0 : List Int) (p0q1 : Int) (p1 : Int) : runF Try.prog X I 0 fuel 43 Try.f43 [.box [(.ints .u8 p0q0), (.int .i64 p0q1)], .d (.int .i64 p1)] =
  (bif (decide ((p1 : Int) < 1)) then
  some ([.one ((.int .i64 0), false)], [[(.ints .u8 p0q0), (.int .i64 (IntKind.wrap .i64 (p0q1 + 1)))]])
  else
  (bif ((((p0q0.length : Nat) : Int) : Int) == 0) then
  some ([.one ((.int .i64 0), false)], [[(.ints .u8 p0q0), (.int .i64 (IntKind.wrap .i64 (p0q1 + 1)))]])
  else
  (bif (decide (((IntKind.wrap .i64 ((IntKind.wrap .i64 (p0q1 + 1)) - 1)) : Int) < ((p0q0.length : Nat) : Int))) then
  (idx (IntKind.wrap .i64 ((IntKind.wrap .i64 (p0q1 + 1)) - 1)) p0q0.length).bind fun j1 =>
  (p0q0[j1]?).bind fun v2 =>
  (bif decide ((p1 : Int) = 0) then
  none
  else
  some ([.one ((.int .i64 (Int.tmod (IntKind.wrap .i64 v2) p1)), false)], [[(.ints .u8 p0q0), (.int .i64 (IntKind.wrap .i64 (p0q1 + 1)))]]))
  else
  (bif decide ((((p0q0.length : Nat) : Int) : Int) = 0) then
  none
  else
  (idx (Int.tmod (IntKind.wrap .i64 ((IntKind.wrap .i64 (p0q1 + 1)) - 1)) ((p0q0.length : Nat) : Int)) p0q0.length).bind fun j3 =>
  (p0q0[j3]?).bind fun v4 =>
  (bif decide ((((p0q0.length : Nat) : Int) : Int) = 0) then
  none
  else
  (idx (Int.tmod (IntKind.wrap .i64 ((IntKind.wrap .i64 ((IntKind.wrap .i64 ((IntKind.wrap .i64 (p0q1 + 1)) - 1)) * 7)) + 3)) ((p0q0.length : Nat) : Int)) p0q0.length).bind fun j5 =>
  (p0q0[j5]?).bind fun v6 =>
  (bif decide ((((p0q0.length : Nat) : Int) : Int) = 0) then
  none
  else
  (bif decide ((p1 : Int) = 0) then
  none
  else
  some ([.one ((.int .i64 (Int.tmod (IntKind.wrap .i64 ((BitVec.ofInt (IntKind.bits .i64) (IntKind.wrap .i64 ((IntKind.wrap .i64 ((IntKind.wrap .i64 ((IntKind.wrap .i64 ((IntKind.wrap .i64 v4) * 131)) + (IntKind.wrap .i64 ((IntKind.wrap .i64 v6) * 1117)))) + (IntKind.wrap .i64 ((IntKind.wrap .i64 ((IntKind.wrap .i64 (p0q1 + 1)) - 1)) * 29)))) + (IntKind.wrap .i64 ((IntKind.wrap .i64 (Int.tdiv (IntKind.wrap .i64 ((IntKind.wrap .i64 (p0q1 + 1)) - 1)) ((p0q0.length : Nat) : Int))) * 53)))) ^^^ BitVec.ofInt (IntKind.bits .i64) (IntKind.wrap .i64 (Int.tdiv (IntKind.wrap .i64 ((IntKind.wrap .i64 ((IntKind.wrap .i64 ((IntKind.wrap .i64 ((IntKind.wrap .i64 v4) * 131)) + (IntKind.wrap .i64 ((IntKind.wrap .i64 v6) * 1117)))) + (IntKind.wrap .i64 ((IntKind.wrap .i64 ((IntKind.wrap .i64 (p0q1 + 1)) - 1)) * 29)))) + (IntKind.wrap .i64 ((IntKind.wrap .i64 (Int.tdiv (IntKind.wrap .i64 ((IntKind.wrap .i64 (p0q1 + 1)) - 1)) ((p0q0.length : Nat) : Int))) * 53)))) 64))).toNat : Int)) p1)), false)], [[(.ints .u8 p0q0), (.int .i64 (IntKind.wrap .i64 (p0q1 + 1)))]])))))))) := by kernel_rfl
end spec_reader_pick
theorem spec_reader_pick.ok_of (hX : ∀ E ∈ spec_reader_pick.X, CallSpec Try.prog E) (h : ∀ (bs : List Int) (p : Int) (n : Int), (rdOk bs p && decide ((n : Int) ≤ 1048576)) = true → ∃ fuel, runF Try.prog spec_reader_pick.X spec_reader_pick.I 0 fuel 43 Try.f43 [.box [(.ints .u8 bs), (.int .i64 p)], .d (.int .i64 n)] = some ([.one ((.int .i64 (pickV bs p n)), false)], [[(.ints .u8 bs), (.int .i64 (p + 1))]])) : CallSpec Try.prog spec_reader_pick.E :=
  callSpec_of (d := 0) hX (by kernel_rfl) spec_reader_pick.I_ok (by kernel_rfl) (by kernel_rfl) (by kernel_rfl) (fun _ _ _ _ h => by dsimp only [spec_reader_pick.E] at h; cases h) (fun xs hp => by
    dsimp only [spec_reader_pick.E] at hp ⊢
    split at hp
    · exact h _ _ _ hp
    · cases hp)
theorem spec_reader_pick.ok : CallSpec Try.prog spec_reader_pick.E := spec_reader_pick.ok_of (by simp [spec_reader_pick.X]) fun bs p n h => ⟨0, by
  simp only [Bool.and_eq_true, decide_eq_true_eq] at h
  obtain ⟨h0, h1, h2, h3⟩ := rdOk_inv h.1
  have hP := @wS (p + 1) (by omega) (by omega)
  have hK := @wS (p + 1 - 1) (by omega) (by omega)
  rw [show p + 1 - 1 = p by omega] at hK
  rw [spec_reader_pick.e]
  simp only [hP, show p + 1 - 1 = p by omega, hK]
  unfold pickV
  by_cases hn : n < 1
  · rw [decide_eq_true hn]; rfl
  rw [decide_eq_false hn, cond_false, cond_false]
  by_cases hL : bs.length = 0
  · rw [show (((bs.length : Nat) : Int) == 0) = true by simp [hL]]; rfl
  rw [beq0 hL, cond_false, cond_false]
  by_cases hp : p < ((bs.length : Nat) : Int)
  · have hlt : p.toNat < bs.length := by omega
    have hi : idx p bs.length = some p.toNat := by unfold idx; rw [if_pos ⟨h0, hp⟩]
    rw [decide_eq_true hp, hi, decide_eq_false (p := n = 0) (by omega)]
    simp [hlt]
  · have t1 := tmod_bd (x := p) (n := ((bs.length : Nat) : Int)) h0 (by omega)
    have e7 := @wS (p * 7) (by omega) (by omega)
    have e8 := @wS (p * 7 + 3) (by omega) (by omega)
    have t2 := tmod_bd (x := p * 7 + 3) (n := ((bs.length : Nat) : Int)) (by omega) (by omega)
    have i1 : idx (Int.tmod p ((bs.length : Nat) : Int)) bs.length = some (Int.tmod p ((bs.length : Nat) : Int)).toNat := by unfold idx; rw [if_pos t1]
    have i2 : idx (Int.tmod (p * 7 + 3) ((bs.length : Nat) : Int)) bs.length = some (Int.tmod (p * 7 + 3) ((bs.length : Nat) : Int)).toNat := by unfold idx; rw [if_pos t2]
    have g1 : (Int.tmod p ((bs.length : Nat) : Int)).toNat < bs.length := by omega
    have g2 : (Int.tmod (p * 7 + 3) ((bs.length : Nat) : Int)).toNat < bs.length := by omega
    have q1 : bs[(Int.tmod p ((bs.length : Nat) : Int)).toNat]? = some (bs.getD (Int.tmod p ((bs.length : Nat) : Int)).toNat 0) := by simp [g1]
    have q2 : bs[(Int.tmod (p * 7 + 3) ((bs.length : Nat) : Int)).toNat]? = some (bs.getD (Int.tmod (p * 7 + 3) ((bs.length : Nat) : Int)).toNat 0) := by simp [g2]
    rw [decide_eq_false hp, decide_eq_false (p := (((bs.length : Nat) : Int) = 0)) (by omega), decide_eq_false (p := n = 0) (by omega), e7, e8, i1, i2]
    simp only [cond_false, Option.bind_some, q1, q2]
    rfl⟩

namespace spec_reader_one
noncomputable def E : Entry := ⟨22, false, false, fun | [.box [(.ints .u8 bs), (.int .i64 p)], .d (.ints .i64 xs)] => rdOk bs p && decide (0 < (xs : List Int).length) && decide ((xs : List Int).length ≤ 1048576) | _ => false, fun | [.box [(.ints .u8 bs), (.int .i64 p)], .d (.ints .i64 xs)] => ([.one ((.int .i64 (oneV bs p xs)), false)], [[(.ints .u8 bs), (.int .i64 (p + 1))]]) | _ => ([], []), fun _ => [], false, fun _ => none⟩
end spec_reader_one
namespace spec_reader_one
noncomputable def X : List Entry := [spec_reader_pick.E]
noncomputable def I : List Inl := [⟨22, Try.f22, ⟨[], [], [], [], [], []⟩⟩]
theorem I_ok : ∀ i ∈ I, Try.prog.funcs[i.f]? = some i.fn ∧ (i.fn.name == "runtime.NumGoroutine") = false := by
  intro i hi
  simp only [I, List.mem_cons, List.not_mem_nil, or_false] at hi
  subst hi
  exact ⟨by kernel_rfl, by kernel_rfl⟩
theorem e (fuel : Nat) (p0q0 : List Int) (p0q1 : Int) (p1 : List Int) : runF Try.prog X I 0 fuel 22 Try.f22 [.box [(.ints .u8 p0q0), (.int .i64 p0q1)], .d (.ints .i64 p1)] =
  (bif rdOk p0q0 p0q1 && decide (((((p1.length : Nat) : Int)) : Int) ≤ 1048576) then
  (idx (pickV p0q0 p0q1 (((p1.length : Nat) : Int))) p1.length).bind fun j1 =>
  (p1[j1]?).bind fun v2 =>
  some ([.one ((.int .i64 v2), false)], [[(.ints .u8 p0q0), (.int .i64 (p0q1 + 1))]])
  else
  none) := by kernel_rfl
end spec_reader_one
theorem spec_reader_one.ok_of (hX : ∀ E ∈ spec_reader_one.X, CallSpec Try.prog E) (h : ∀ (bs : List Int) (p : Int) (xs : List Int), (rdOk bs p && decide (0 < (xs : List Int).length) && decide ((xs : List Int).length ≤ 1048576)) = true → ∃ fuel, runF Try.prog spec_reader_one.X spec_reader_one.I 0 fuel 22 Try.f22 [.box [(.ints .u8 bs), (.int .i64 p)], .d (.ints .i64 xs)] = some ([.one ((.int .i64 (oneV bs p xs)), false)], [[(.ints .u8 bs), (.int .i64 (p + 1))]])) : CallSpec Try.prog spec_reader_one.E :=
  callSpec_of (d := 0) hX (by kernel_rfl) spec_reader_one.I_ok (by kernel_rfl) (by kernel_rfl) (by kernel_rfl) (fun _ _ _ _ h => by dsimp only [spec_reader_one.E] at h; cases h) (fun xs hp => by
    dsimp only [spec_reader_one.E] at hp ⊢
    split at hp
    · exact h _ _ _ hp
    · cases hp)
theorem spec_reader_one.ok : CallSpec Try.prog spec_reader_one.E := spec_reader_one.ok_of (by simp [spec_reader_one.X, spec_reader_pick.ok]) fun bs p xs h => ⟨0, by
  simp only [Bool.and_eq_true, decide_eq_true_eq] at h
  have hb := pick_bd (n := ((xs.length : Nat) : Int)) h.1.1 (by omega)
  have hi : idx (pickV bs p ((xs.length : Nat) : Int)) xs.length = some (pickV bs p ((xs.length : Nat) : Int)).toNat := by unfold idx; rw [if_pos hb]
  have g : (pickV bs p ((xs.length : Nat) : Int)).toNat < xs.length := by omega
  rw [spec_reader_one.e, h.1.1, decide_eq_true (p := (((xs.length : Nat) : Int) ≤ 1048576)) (by omega), hi]
  unfold oneV
  simp [g]⟩

namespace spec_someShape
noncomputable def E : Entry := ⟨76, false, false, fun | [.box [(.ints .u8 bs), (.int .i64 p)]] => rdOk bs p && decide ((p : Int) ≤ 2000000) | _ => false, fun | [.box [(.ints .u8 bs), (.int .i64 p)]] => ([.one ((.ints .i64 (sShV bs p)), true)], [[(.ints .u8 bs), (.int .i64 (sShP bs p))]]) | _ => ([], []), fun _ => [], false, fun _ => none⟩
end spec_someShape
namespace spec_someShape
noncomputable def X : List Entry := [spec_reader_pick.E]
noncomputable def I : List Inl := [⟨76, Try.f76, ⟨[], [], [], [], [], []⟩⟩]
theorem I_ok : ∀ i ∈ I, Try.prog.funcs[i.f]? = some i.fn ∧ (i.fn.name == "runtime.NumGoroutine") = false := by
  intro i hi
  simp only [I, List.mem_cons, List.not_mem_nil, or_false] at hi
  subst hi
  exact ⟨by kernel_rfl, by kernel_rfl⟩
theorem e (fuel : Nat) (p0q0 : List Int) (p0q1 : Int) : runF Try.prog X I 0 fuel 76 Try.f76 [.box [(.ints .u8 p0q0), (.int .i64 p0q1)]] =
  (bif rdOk p0q0 p0q1 && decide ((8 : Int) ≤ 1048576) then
  (bif (((pickV p0q0 p0q1 8) : Int) == 0) then
  some ([.one ((.ints .i64 []), true)], [[(.ints .u8 p0q0), (.int .i64 (p0q1 + 1))]])
  else
  (bif (((pickV p0q0 p0q1 8) : Int) == 1) then
  (bif rdOk p0q0 ((p0q1 + 1)) && decide ((7 : Int) ≤ 1048576) then
  some ([.one ((.ints .i64 [(pickV p0q0 ((p0q1 + 1)) 7)]), true)], [[(.ints .u8 p0q0), (.int .i64 (((p0q1 + 1)) + 1))]])
  else
  none)
  else
  (bif (((pickV p0q0 p0q1 8) : Int) == 2) then
  (bif rdOk p0q0 ((p0q1 + 1)) && decide ((7 : Int) ≤ 1048576) then
  some ([.one ((.ints .i64 [(pickV p0q0 ((p0q1 + 1)) 7)]), true)], [[(.ints .u8 p0q0), (.int .i64 (((p0q1 + 1)) + 1))]])
  else
  none)
  else
  (bif (((pickV p0q0 p0q1 8) : Int) == 3) then
  (bif rdOk p0q0 ((p0q1 + 1)) && decide ((7 : Int) ≤ 1048576) then
  some ([.one ((.ints .i64 [(pickV p0q0 ((p0q1 + 1)) 7)]), true)], [[(.ints .u8 p0q0), (.int .i64 (((p0q1 + 1)) + 1))]])
  else
  none)
  else
  (bif (((pickV p0q0 p0q1 8) : Int) == 4) then
  (bif rdOk p0q0 ((p0q1 + 1)) && decide ((5 : Int) ≤ 1048576) then
  (bif rdOk p0q0 ((((p0q1 + 1)) + 1)) && decide ((5 : Int) ≤ 1048576) then
  some ([.one ((.ints .i64 [(pickV p0q0 ((p0q1 + 1)) 5), (pickV p0q0 ((((p0q1 + 1)) + 1)) 5)]), true)], [[(.ints .u8 p0q0), (.int .i64 (((((p0q1 + 1)) + 1)) + 1))]])
  else
  none)
  else
  none)
  else
  (bif (((pickV p0q0 p0q1 8) : Int) == 5) then
  (bif rdOk p0q0 ((p0q1 + 1)) && decide ((5 : Int) ≤ 1048576) then
  (bif rdOk p0q0 ((((p0q1 + 1)) + 1)) && decide ((5 : Int) ≤ 1048576) then
  some ([.one ((.ints .i64 [(pickV p0q0 ((p0q1 + 1)) 5), (pickV p0q0 ((((p0q1 + 1)) + 1)) 5)]), true)], [[(.ints .u8 p0q0), (.int .i64 (((((p0q1 + 1)) + 1)) + 1))]])
  else
  none)
  else
  none)
  else
  (bif (((pickV p0q0 p0q1 8) : Int) == 6) then
  (bif rdOk p0q0 ((p0q1 + 1)) && decide ((5 : Int) ≤ 1048576) then
  (bif rdOk p0q0 ((((p0q1 + 1)) + 1)) && decide ((5 : Int) ≤ 1048576) then
  some ([.one ((.ints .i64 [(pickV p0q0 ((p0q1 + 1)) 5), (pickV p0q0 ((((p0q1 + 1)) + 1)) 5)]), true)], [[(.ints .u8 p0q0), (.int .i64 (((((p0q1 + 1)) + 1)) + 1))]])
  else
  none)
  else
  none)
  else
  (bif rdOk p0q0 ((p0q1 + 1)) && decide ((4 : Int) ≤ 1048576) then
  (bif rdOk p0q0 ((((p0q1 + 1)) + 1)) && decide ((4 : Int) ≤ 1048576) then
  (bif rdOk p0q0 ((((((p0q1 + 1)) + 1)) + 1)) && decide ((4 : Int) ≤ 1048576) then
  some ([.one ((.ints .i64 [(pickV p0q0 ((p0q1 + 1)) 4), (pickV p0q0 ((((p0q1 + 1)) + 1)) 4), (pickV p0q0 ((((((p0q1 + 1)) + 1)) + 1)) 4)]), true)], [[(.ints .u8 p0q0), (.int .i64 (((((((p0q1 + 1)) + 1)) + 1)) + 1))]])
  else
  none)
  else
  none)
  else
  none))))))))
  else
  none) := by kernel_rfl
end spec_someShape
theorem spec_someShape.ok_of (hX : ∀ E ∈ spec_someShape.X, CallSpec Try.prog E) (h : ∀ (bs : List Int) (p : Int), (rdOk bs p && decide ((p : Int) ≤ 2000000)) = true → ∃ fuel, runF Try.prog spec_someShape.X spec_someShape.I 0 fuel 76 Try.f76 [.box [(.ints .u8 bs), (.int .i64 p)]] = some ([.one ((.ints .i64 (sShV bs p)), true)], [[(.ints .u8 bs), (.int .i64 (sShP bs p))]])) : CallSpec Try.prog spec_someShape.E :=
  callSpec_of (d := 0) hX (by kernel_rfl) spec_someShape.I_ok (by kernel_rfl) (by kernel_rfl) (by kernel_rfl) (fun _ _ _ _ h => by dsimp only [spec_someShape.E] at h; cases h) (fun xs hp => by
    dsimp only [spec_someShape.E] at hp ⊢
    split at hp
    · exact h _ _ hp
    · cases hp)
theorem spec_someShape.ok : CallSpec Try.prog spec_someShape.E := spec_someShape.ok_of (by simp [spec_someShape.X, spec_reader_pick.ok]) fun bs p h => ⟨0, by
  simp only [Bool.and_eq_true, decide_eq_true_eq] at h
  have r0 := h.1
  have r1 := rd_le (q := p + 1) h.1 (by omega) (by omega)
  have r2 := rd_le (q := p + 1 + 1) h.1 (by omega) (by omega)
  have r3 := rd_le (q := p + 1 + 1 + 1) h.1 (by omega) (by omega)
  rw [spec_someShape.e, r0, r1, r2, r3]
  unfold sShV sShP
  cases pickV bs p 8 == 0 <;> cases pickV bs p 8 == 1 <;> cases pickV bs p 8 == 2 <;> cases pickV bs p 8 == 3 <;> cases pickV bs p 8 == 4 <;> cases pickV bs p 8 == 5 <;> cases pickV bs p 8 == 6 <;> rfl⟩

namespace spec_volume
noncomputable def E : Entry := ⟨55, true, false, fun | [.d (.ints .i64 xs)] => decide (xs.length < 9223372036854775808) | _ => false, fun | [.d (.ints .i64 xs)] => ([.one ((.int .i64 (volW xs)), false)], []) | _ => ([], []), fun _ => [], false, fun _ => none⟩
end spec_volume
namespace spec_volume
noncomputable def X : List Entry := []
noncomputable def I : List Inl := [⟨55, Try.f55, ⟨[], [(1000003, [1, 2, 5, 6, 7, 8, 9, 10, 11, 12, 13, 14, 15, 16, 17])], [], [], [], []⟩⟩]
theorem I_ok : ∀ i ∈ I, Try.prog.funcs[i.f]? = some i.fn ∧ (i.fn.name == "runtime.NumGoroutine") = false := by
  intro i hi
  simp only [I, List.mem_cons, List.not_mem_nil, or_false] at hi
  subst hi
  exact ⟨by kernel_rfl, by kernel_rfl⟩
noncomputable abbrev L0 (fuel n : Nat) (s : St) (k : Kont) := lAt Try.prog X I fuel true 0 false 55 (bodyOf Try.f55) [1, 1, 0, 1, 0] n s k
noncomputable abbrev k0  (fuel : Nat) : Kont := (kAt Try.prog X I fuel true 0 false 55 (bodyOf Try.f55) [1, 1, 0, 1, 0] [] (endK Try.prog Try.f55))
noncomputable def t0 (p0 : List Int) (x0q1 : Int) (x0q2 : Int) : St := ⟨[(.imm (.ints .i64 p0)), .dead, .dead, (.imm (.int .i64 x0q1)), (.imm (.int .i64 x0q2)), .dead, .dead, .dead, .dead, .dead, .dead, .dead, .dead, .dead, .dead, .dead, .dead, .dead], hOf [], [], []⟩
theorem e (fuel : Nat) (p0 : List Int) : runF Try.prog X I 0 fuel 55 Try.f55 [.d (.ints .i64 p0)] =
  L0 fuel fuel (t0 p0 1 0) (k0  fuel) := by kernel_rfl
theorem s0 (fuel n0 : Nat) (p0 : List Int) (x0q1 : Int) (x0q2 : Int) : L0 fuel (n0 + 1) (t0 p0 x0q1 x0q2) (k0  fuel) =
  (bif (decide ((x0q2 : Int) < ((p0.length : Nat) : Int))) then
  (idx x0q2 p0.length).bind fun j5 =>
  (p0[j5]?).bind fun v6 =>
  L0 fuel n0 (t0 p0 ((IntKind.wrap .i64 (x0q1 * v6))) ((IntKind.wrap .i64 (x0q2 + 1)))) (k0  fuel)
  else
  some ([.one ((.int .i64 x0q1), false)], [])) := by kernel_rfl
end spec_volume
theorem spec_volume.ok_of (hX : ∀ E ∈ spec_volume.X, CallSpec Try.prog E) (h : ∀ (xs : List Int), (decide (xs.length < 9223372036854775808)) = true → ∃ fuel, runF Try.prog spec_volume.X spec_volume.I 0 fuel 55 Try.f55 [.d (.ints .i64 xs)] = some ([.one ((.int .i64 (volW xs)), false)], [])) : CallSpec Try.prog spec_volume.E :=
  callSpec_of (d := 0) hX (by kernel_rfl) spec_volume.I_ok (by kernel_rfl) (by kernel_rfl) (by kernel_rfl) (fun _ _ _ _ h => by dsimp only [spec_volume.E] at h; cases h) (fun xs hp => by
    dsimp only [spec_volume.E] at hp ⊢
    split at hp
    · exact h _ hp
    · cases hp)
theorem spec_volume.loop (fuel : Nat) (xs : List Int) (hx : xs.length < 9223372036854775808) : ∀ (m n j : Nat) (a : Int), xs.length - j = m → m < n → j ≤ xs.length →
    spec_volume.L0 fuel n (spec_volume.t0 xs a (j : Int)) (spec_volume.k0 fuel) = some ([.one (.int .i64 (volFrom (xs.drop j) a), false)], []) := by
  intro m
  induction m with
  | zero =>
    intro n j a h1 h2 h3
    obtain ⟨n, rfl⟩ : ∃ n', n = n' + 1 := ⟨n - 1, by omega⟩
    have hj : ¬ j < xs.length := by omega
    rw [spec_volume.s0, dge hj, dropE hj]
    rfl
  | succ m ih =>
    intro n j a h1 h2 h3
    obtain ⟨n, rfl⟩ : ∃ n', n = n' + 1 := ⟨n - 1, by omega⟩
    have hj : j < xs.length := by omega
    rw [spec_volume.s0, dlt hj, idx_nat hj, w1 (by omega), dropS hj]
    simp only [cond_true, Option.bind_some, getS hj, volFrom]
    exact ih n (j + 1) _ (by omega) (by omega) (by omega)

theorem spec_volume.ok : CallSpec Try.prog spec_volume.E := spec_volume.ok_of (by simp [spec_volume.X]) fun xs h => by
  simp only [decide_eq_true_eq] at h
  refine ⟨xs.length + 1, ?_⟩
  rw [spec_volume.e]
  exact spec_volume.loop (xs.length + 1) xs h xs.length (xs.length + 1) 0 1 (by omega) (by omega) (by omega)

namespace spec_someNum
noncomputable def E : Entry := ⟨60, false, false, fun | [.box [(.ints .u8 bs), (.int .i64 p)]] => rdOk bs p | _ => false, fun | [.box [(.ints .u8 bs), (.int .i64 p)]] => ([.one ((.int .i64 (oneV bs p someL)), false)], [[(.ints .u8 bs), (.int .i64 (p + 1))]]) | _ => ([], []), fun _ => [], false, fun _ => none⟩
end spec_someNum
namespace spec_someNum
noncomputable def X : List Entry := [spec_reader_one.E]
noncomputable def I : List Inl := [⟨60, Try.f60, ⟨[], [], [], [], [4], []⟩⟩]
theorem I_ok : ∀ i ∈ I, Try.prog.funcs[i.f]? = some i.fn ∧ (i.fn.name == "runtime.NumGoroutine") = false := by
  intro i hi
  simp only [I, List.mem_cons, List.not_mem_nil, or_false] at hi
  subst hi
  exact ⟨by kernel_rfl, by kernel_rfl⟩
theorem e (fuel : Nat) (p0q0 : List Int) (p0q1 : Int) : runF Try.prog X I 0 fuel 60 Try.f60 [.box [(.ints .u8 p0q0), (.int .i64 p0q1)]] =
  (bif rdOk p0q0 p0q1 && decide (0 < (([0, 1, 2, 3, (-1), 5, 7, (-4), 1000000, (-1000000), 10, 1]) : List Int).length) && decide ((([0, 1, 2, 3, (-1), 5, 7, (-4), 1000000, (-1000000), 10, 1]) : List Int).length ≤ 1048576) then
  some ([.one ((.int .i64 (oneV p0q0 p0q1 ([0, 1, 2, 3, (-1), 5, 7, (-4), 1000000, (-1000000), 10, 1]))), false)], [[(.ints .u8 p0q0), (.int .i64 (p0q1 + 1))]])
  else
  none) := by kernel_rfl
end spec_someNum
theorem spec_someNum.ok_of (hX : ∀ E ∈ spec_someNum.X, CallSpec Try.prog E) (h : ∀ (bs : List Int) (p : Int), (rdOk bs p) = true → ∃ fuel, runF Try.prog spec_someNum.X spec_someNum.I 0 fuel 60 Try.f60 [.box [(.ints .u8 bs), (.int .i64 p)]] = some ([.one ((.int .i64 (oneV bs p someL)), false)], [[(.ints .u8 bs), (.int .i64 (p + 1))]])) : CallSpec Try.prog spec_someNum.E :=
  callSpec_of (d := 0) hX (by kernel_rfl) spec_someNum.I_ok (by kernel_rfl) (by kernel_rfl) (by kernel_rfl) (fun _ _ _ _ h => by dsimp only [spec_someNum.E] at h; cases h) (fun xs hp => by
    dsimp only [spec_someNum.E] at hp ⊢
    split at hp
    · exact h _ _ hp
    · cases hp)
theorem spec_someNum.ok : CallSpec Try.prog spec_someNum.E := spec_someNum.ok_of (by simp [spec_someNum.X, spec_reader_one.ok]) fun bs p h => ⟨0, by
  rw [spec_someNum.e, h]
  rfl⟩

namespace spec_copyInts
noncomputable def E : Entry := ⟨58, false, false, fun | [.d (.ints .i64 xs)] => szB xs | _ => false, fun | [.d (.ints .i64 xs)] => ([.one ((.ints .i64 xs), true)], []) | _ => ([], []), fun _ => [], true, fun _ => none⟩
end spec_copyInts
namespace spec_copyInts
noncomputable def X : List Entry := []
noncomputable def I : List Inl := [⟨58, Try.f58, ⟨[], [], [], [], [], []⟩⟩]
theorem I_ok : ∀ i ∈ I, Try.prog.funcs[i.f]? = some i.fn ∧ (i.fn.name == "runtime.NumGoroutine") = false := by
  intro i hi
  simp only [I, List.mem_cons, List.not_mem_nil, or_false] at hi
  subst hi
  exact ⟨by kernel_rfl, by kernel_rfl⟩
theorem e (fuel : Nat) (p0 : List Int) : runF Try.prog X I 0 fuel 58 Try.f58 [.d (.ints .i64 p0)] =
  (bif fits (([] : List Int).length + p0.length) 8 then
  some ([.one ((.ints .i64 (([] : List Int) ++ p0)), true)], [])
  else
  none) := by kernel_rfl
end spec_copyInts
theorem spec_copyInts.ok_of (hX : ∀ E ∈ spec_copyInts.X, CallSpec Try.prog E) (h : ∀ (xs : List Int), (szB xs) = true → ∃ fuel, runF Try.prog spec_copyInts.X spec_copyInts.I 0 fuel 58 Try.f58 [.d (.ints .i64 xs)] = some ([.one ((.ints .i64 xs), true)], [])) : CallSpec Try.prog spec_copyInts.E :=
  callSpec_of (d := 0) hX (by kernel_rfl) spec_copyInts.I_ok (by kernel_rfl) (by kernel_rfl) (by kernel_rfl) (fun _ _ _ _ h => by dsimp only [spec_copyInts.E] at h; cases h) (fun xs hp => by
    dsimp only [spec_copyInts.E] at hp ⊢
    split at hp
    · exact h _ hp
    · cases hp)
theorem spec_copyInts.ok : CallSpec Try.prog spec_copyInts.E := spec_copyInts.ok_of (by simp [spec_copyInts.X]) fun xs h => ⟨0, by
  have hx := szB_le h
  rw [spec_copyInts.e, fitsOk (by simp; omega)]
  rfl⟩

namespace spec_make1
noncomputable def E : Entry := ⟨30, false, false, fun | [.d (.ints .i64 sh), .d (.ints .i64 da)] => szB sh && szB da | _ => false, fun | [.d (.ints .i64 sh), .d (.ints .i64 da)] => ([.agg [((.ints .i64 sh), true), ((.ints .i64 da), true)]], []) | _ => ([], []), fun _ => [], true, fun _ => none⟩
end spec_make1
namespace spec_make1
noncomputable def X : List Entry := [spec_copyInts.E]
noncomputable def I : List Inl := [⟨30, Try.f30, ⟨[6, 8], [], [], [], [], []⟩⟩]
theorem I_ok : ∀ i ∈ I, Try.prog.funcs[i.f]? = some i.fn ∧ (i.fn.name == "runtime.NumGoroutine") = false := by
  intro i hi
  simp only [I, List.mem_cons, List.not_mem_nil, or_false] at hi
  subst hi
  exact ⟨by kernel_rfl, by kernel_rfl⟩
theorem e (fuel : Nat) (p0 : List Int) (p1 : List Int) : runF Try.prog X I 0 fuel 30 Try.f30 [.d (.ints .i64 p0), .d (.ints .i64 p1)] =
  (bif szB p0 then
  (bif szB p1 then
  some ([.agg [((.ints .i64 p0), true), ((.ints .i64 p1), true)]], [])
  else
  none)
  else
  none) := by kernel_rfl
end spec_make1
theorem spec_make1.ok_of (hX : ∀ E ∈ spec_make1.X, CallSpec Try.prog E) (h : ∀ (sh : List Int) (da : List Int), (szB sh && szB da) = true → ∃ fuel, runF Try.prog spec_make1.X spec_make1.I 0 fuel 30 Try.f30 [.d (.ints .i64 sh), .d (.ints .i64 da)] = some ([.agg [((.ints .i64 sh), true), ((.ints .i64 da), true)]], [])) : CallSpec Try.prog spec_make1.E :=
  callSpec_of (d := 0) hX (by kernel_rfl) spec_make1.I_ok (by kernel_rfl) (by kernel_rfl) (by kernel_rfl) (fun _ _ _ _ h => by dsimp only [spec_make1.E] at h; cases h) (fun xs hp => by
    dsimp only [spec_make1.E] at hp ⊢
    split at hp
    · exact h _ _ hp
    · cases hp)
theorem spec_make1.ok : CallSpec Try.prog spec_make1.E := spec_make1.ok_of (by simp [spec_make1.X, spec_copyInts.ok]) fun sh da h => ⟨0, by
  simp only [Bool.and_eq_true] at h
  rw [spec_make1.e, h.1, h.2]
  rfl⟩

namespace spec_fill
noncomputable def E : Entry := ⟨61, false, false, fun | [.box [(.ints .u8 bs), (.int .i64 p)], .d (.ints .i64 sh)] => rdOk bs p && decide ((p : Int) ≤ 2000000) && validS sh | _ => false, fun | [.box [(.ints .u8 bs), (.int .i64 p)], .d (.ints .i64 sh)] => ([.agg [((.ints .i64 sh), true), ((.ints .i64 (fillV bs p sh)), true)]], [[(.ints .u8 bs), (.int .i64 (p + volW sh))]]) | _ => ([], []), fun _ => [], false, fun _ => none⟩
end spec_fill
namespace spec_fill
noncomputable def X : List Entry := [spec_volume.E, spec_someNum.E, spec_make1.E]
noncomputable def I : List Inl := [⟨61, Try.f61, ⟨[21], [(1000003, [2, 3, 7, 8, 9, 10, 11, 12, 13, 14, 15, 16, 17, 18, 19, 20, 21])], [], [], [], []⟩⟩]
theorem I_ok : ∀ i ∈ I, Try.prog.funcs[i.f]? = some i.fn ∧ (i.fn.name == "runtime.NumGoroutine") = false := by
  intro i hi
  simp only [I, List.mem_cons, List.not_mem_nil, or_false] at hi
  subst hi
  exact ⟨by kernel_rfl, by kernel_rfl⟩
noncomputable abbrev L0 (fuel n : Nat) (s : St) (k : Kont) := lAt Try.prog X I fuel false 0 false 61 (bodyOf Try.f61) [1, 1, 0, 1, 0] n s k
noncomputable abbrev k0  (fuel : Nat) : Kont := (kAt Try.prog X I fuel false 0 false 61 (bodyOf Try.f61) [1, 1, 0, 1, 0] [] (endK Try.prog Try.f61))
noncomputable def t0 (p1 : List Int) (p0q0 : List Int) (x0q1 : Int) (x0q3 : Int) (x0q4 : List Int) : St := ⟨[(.ptr 1000000000 0 0), (.imm (.ints .i64 p1)), .dead, .dead, (.ptr 1000000001 0 0), (.all 1000000002 1), (.imm (.int .i64 x0q1)), .dead, .dead, .dead, .dead, .dead, .dead, .dead, .dead, .dead, .dead, .dead, .dead, .dead, .dead, .dead], hOf [(1000000000, (.box [(.imm (.ints .u8 p0q0)), (.imm (.int .i64 x0q3))])), (1000000001, (.box [(.imm .nils), (.imm .nils)])), (1000000002, (.ints .i64 x0q4))], [(.ptr 1000000000 0 0)], []⟩
theorem e (fuel : Nat) (p0q0 : List Int) (p0q1 : Int) (p1 : List Int) : runF Try.prog X I 0 fuel 61 Try.f61 [.box [(.ints .u8 p0q0), (.int .i64 p0q1)], .d (.ints .i64 p1)] =
  L0 fuel fuel (t0 p1 p0q0 0 p0q1 ([])) (k0  fuel) := by kernel_rfl
theorem s0 (fuel n0 : Nat) (p1 : List Int) (p0q0 : List Int) (x0q1 : Int) (x0q3 : Int) (x0q4 : List Int) : L0 fuel (n0 + 1) (t0 p1 p0q0 x0q1 x0q3 x0q4) (k0  fuel) =
  (bif decide (p1.length < 9223372036854775808) then
  (bif (decide ((x0q1 : Int) < (volW p1))) then
  (bif rdOk p0q0 x0q3 then
  (bif fits (x0q4.length + ([(oneV p0q0 x0q3 someL)] : List Int).length) 8 then
  L0 fuel n0 (t0 p1 p0q0 ((IntKind.wrap .i64 (x0q1 + 1))) ((x0q3 + 1)) ((x0q4 ++ [(oneV p0q0 x0q3 someL)]))) (k0  fuel)
  else
  none)
  else
  none)
  else
  (bif szB p1 && szB x0q4 then
  some ([.agg [((.ints .i64 p1), true), ((.ints .i64 x0q4), true)]], [[(.ints .u8 p0q0), (.int .i64 x0q3)]])
  else
  none))
  else
  none) := by kernel_rfl
end spec_fill
theorem spec_fill.ok_of (hX : ∀ E ∈ spec_fill.X, CallSpec Try.prog E) (h : ∀ (bs : List Int) (p : Int) (sh : List Int), (rdOk bs p && decide ((p : Int) ≤ 2000000) && validS sh) = true → ∃ fuel, runF Try.prog spec_fill.X spec_fill.I 0 fuel 61 Try.f61 [.box [(.ints .u8 bs), (.int .i64 p)], .d (.ints .i64 sh)] = some ([.agg [((.ints .i64 sh), true), ((.ints .i64 (fillV bs p sh)), true)]], [[(.ints .u8 bs), (.int .i64 (p + volW sh))]])) : CallSpec Try.prog spec_fill.E :=
  callSpec_of (d := 0) hX (by kernel_rfl) spec_fill.I_ok (by kernel_rfl) (by kernel_rfl) (by kernel_rfl) (fun _ _ _ _ h => by dsimp only [spec_fill.E] at h; cases h) (fun xs hp => by
    dsimp only [spec_fill.E] at hp ⊢
    split at hp
    · exact h _ _ _ hp
    · cases hp)
theorem spec_fill.loop (fuel : Nat) (bs : List Int) (p : Int) (sh : List Int) (h : rdOk bs p = true) (hp : p ≤ 2000000) (hv : validS sh = true) : ∀ (m n j : Nat) (out : List Int), (volW sh).toNat - j = m → m < n → j ≤ (volW sh).toNat → out = tab j (fun i => oneV bs (p + ((i : Nat) : Int)) someL) →
    spec_fill.L0 fuel n (spec_fill.t0 sh bs (j : Int) (p + (j : Int)) out) (spec_fill.k0 fuel) = some ([.agg [(.ints .i64 sh, true), (.ints .i64 (fillV bs p sh), true)]], [[(.ints .u8 bs), (.int .i64 (p + volW sh))]]) := by
  have hl := (validS_inv hv).1
  have hb := vol_bd hv
  intro m
  induction m with
  | zero =>
    intro n j out h1 h2 h3 h4
    obtain ⟨n, rfl⟩ : ∃ n', n = n' + 1 := ⟨n - 1, by omega⟩
    have ho : out.length = j := by rw [h4, tab_length]
    rw [spec_fill.s0, decide_eq_true (p := sh.length < 9223372036854775808) (by omega), decide_eq_false (p := (j : Int) < volW sh) (by omega), szB_of (xs := sh) (by omega), szB_of (xs := out) (by omega), h4, show p + (j : Int) = p + volW sh by omega, show j = (volW sh).toNat by omega]
    rfl
  | succ m ih =>
    intro n j out h1 h2 h3 h4
    obtain ⟨n, rfl⟩ : ∃ n', n = n' + 1 := ⟨n - 1, by omega⟩
    have ho : out.length = j := by rw [h4, tab_length]
    rw [spec_fill.s0, decide_eq_true (p := sh.length < 9223372036854775808) (by omega), decide_eq_true (p := (j : Int) < volW sh) (by omega), rd_le (q := p + (j : Int)) h (by omega) (by omega), fitsOk (by simp; omega), w1 (by omega), show p + (j : Int) + 1 = p + ((j + 1 : Nat) : Int) by omega]
    exact ih n (j + 1) _ (by omega) (by omega) (by omega) (by rw [tab_succ, h4])
theorem spec_fill.ok : CallSpec Try.prog spec_fill.E := spec_fill.ok_of (by simp [spec_fill.X, spec_volume.ok, spec_someNum.ok, spec_make1.ok]) fun bs p sh h => by
  simp only [Bool.and_eq_true, decide_eq_true_eq] at h
  have hb := vol_bd h.2
  obtain ⟨F, hF⟩ : ∃ F : Nat, 60 < F := ⟨61, by omega⟩
  refine ⟨F, ?_⟩
  have := spec_fill.loop F bs p sh h.1.1 h.1.2 h.2 _ F 0 [] rfl (by omega) (by omega) rfl
  rw [spec_fill.e]
  rw [show p + ((0 : Nat) : Int) = p by omega] at this
  exact this

namespace spec_someArray
noncomputable def E : Entry := ⟨44, false, false, fun | [.box [(.ints .u8 bs), (.int .i64 p)]] => rdOk bs p && decide ((p : Int) ≤ 1000000) | _ => false, fun | [.box [(.ints .u8 bs), (.int .i64 p)]] => ([.agg [((.ints .i64 (sShV bs p)), true), ((.ints .i64 (sDaV bs p)), true)]], [[(.ints .u8 bs), (.int .i64 (sDaP bs p))]]) | _ => ([], []), fun _ => [], false, fun _ => none⟩
end spec_someArray
namespace spec_someArray
noncomputable def X : List Entry := [spec_someShape.E, spec_fill.E]
noncomputable def I : List Inl := [⟨44, Try.f44, ⟨[6], [], [], [], [], []⟩⟩]
theorem I_ok : ∀ i ∈ I, Try.prog.funcs[i.f]? = some i.fn ∧ (i.fn.name == "runtime.NumGoroutine") = false := by
  intro i hi
  simp only [I, List.mem_cons, List.not_mem_nil, or_false] at hi
  subst hi
  exact ⟨by kernel_rfl, by kernel_rfl⟩
theorem e (fuel : Nat) (p0q0 : List Int) (p0q1 : Int) : runF Try.prog X I 0 fuel 44 Try.f44 [.box [(.ints .u8 p0q0), (.int .i64 p0q1)]] =
  (bif rdOk p0q0 p0q1 && decide ((p0q1 : Int) ≤ 2000000) then
  (bif rdOk p0q0 ((sShP p0q0 p0q1)) && decide ((((sShP p0q0 p0q1)) : Int) ≤ 2000000) && validS ((sShV p0q0 p0q1)) then
  some ([.agg [((.ints .i64 ((sShV p0q0 p0q1))), true), ((.ints .i64 (fillV p0q0 ((sShP p0q0 p0q1)) ((sShV p0q0 p0q1)))), true)]], [[(.ints .u8 p0q0), (.int .i64 (((sShP p0q0 p0q1)) + volW ((sShV p0q0 p0q1))))]])
  else
  none)
  else
  none) := by kernel_rfl
end spec_someArray
theorem spec_someArray.ok_of (hX : ∀ E ∈ spec_someArray.X, CallSpec Try.prog E) (h : ∀ (bs : List Int) (p : Int), (rdOk bs p && decide ((p : Int) ≤ 1000000)) = true → ∃ fuel, runF Try.prog spec_someArray.X spec_someArray.I 0 fuel 44 Try.f44 [.box [(.ints .u8 bs), (.int .i64 p)]] = some ([.agg [((.ints .i64 (sShV bs p)), true), ((.ints .i64 (sDaV bs p)), true)]], [[(.ints .u8 bs), (.int .i64 (sDaP bs p))]])) : CallSpec Try.prog spec_someArray.E :=
  callSpec_of (d := 0) hX (by kernel_rfl) spec_someArray.I_ok (by kernel_rfl) (by kernel_rfl) (by kernel_rfl) (fun _ _ _ _ h => by dsimp only [spec_someArray.E] at h; cases h) (fun xs hp => by
    dsimp only [spec_someArray.E] at hp ⊢
    split at hp
    · exact h _ _ hp
    · cases hp)
theorem spec_someArray.ok : CallSpec Try.prog spec_someArray.E := spec_someArray.ok_of (by simp [spec_someArray.X, spec_someShape.ok, spec_fill.ok]) fun bs p h => ⟨0, by
  simp only [Bool.and_eq_true, decide_eq_true_eq] at h
  have b := sShP_bd bs p
  have hs := sShV_ok h.1 (by omega)
  rw [spec_someArray.e, h.1, rd_le (q := sShP bs p) h.1 (by omega) (by omega), decide_eq_true (p := p ≤ 2000000) (by omega), decide_eq_true (p := sShP bs p ≤ 2000000) (by omega), hs]
  rfl⟩

namespace spec_anyShape
noncomputable def E : Entry := ⟨45, false, false, fun | [.box [(.ints .u8 bs), (.int .i64 p)]] => rdOk bs p && decide ((p : Int) ≤ 2000000) | _ => false, fun | [.box [(.ints .u8 bs), (.int .i64 p)]] => ([.one ((.ints .i64 (aShV bs p)), true)], [[(.ints .u8 bs), (.int .i64 (sShP bs p + 1))]]) | _ => ([], []), fun _ => [], false, fun _ => none⟩
end spec_anyShape
namespace spec_anyShape
noncomputable def X : List Entry := [spec_someShape.E, spec_reader_pick.E]
noncomputable def I : List Inl := [⟨45, Try.f45, ⟨[5], [], [], [], [], []⟩⟩]
theorem I_ok : ∀ i ∈ I, Try.prog.funcs[i.f]? = some i.fn ∧ (i.fn.name == "runtime.NumGoroutine") = false := by
  intro i hi
  simp only [I, List.mem_cons, List.not_mem_nil, or_false] at hi
  subst hi
  exact ⟨by kernel_rfl, by kernel_rfl⟩
theorem e (fuel : Nat) (p0q0 : List Int) (p0q1 : Int) : runF Try.prog X I 0 fuel 45 Try.f45 [.box [(.ints .u8 p0q0), (.int .i64 p0q1)]] =
  (bif rdOk p0q0 p0q1 && decide ((p0q1 : Int) ≤ 2000000) then
  (bif rdOk p0q0 ((sShP p0q0 p0q1)) && decide ((24 : Int) ≤ 1048576) then
  (bif (((pickV p0q0 ((sShP p0q0 p0q1)) 24) : Int) == 0) then
  (bif fits ((sShV p0q0 p0q1).length + ([61] : List Int).length) 8 then
  some ([.one ((.ints .i64 ((sShV p0q0 p0q1) ++ [61])), true)], [[(.ints .u8 p0q0), (.int .i64 (((sShP p0q0 p0q1)) + 1))]])
  else
  none)
  else
  (bif (((pickV p0q0 ((sShP p0q0 p0q1)) 24) : Int) == 1) then
  some ([.one ((.ints .i64 [4, 4, 4]), true)], [[(.ints .u8 p0q0), (.int .i64 (((sShP p0q0 p0q1)) + 1))]])
  else
  (bif (((pickV p0q0 ((sShP p0q0 p0q1)) 24) : Int) == 2) then
  some ([.one ((.ints .i64 [1, 1, 1, 1]), true)], [[(.ints .u8 p0q0), (.int .i64 (((sShP p0q0 p0q1)) + 1))]])
  else
  (bif (((pickV p0q0 ((sShP p0q0 p0q1)) 24) : Int) == 3) then
  (bif fits ((sShV p0q0 p0q1).length + ([(-1)] : List Int).length) 8 then
  some ([.one ((.ints .i64 ((sShV p0q0 p0q1) ++ [(-1)])), true)], [[(.ints .u8 p0q0), (.int .i64 (((sShP p0q0 p0q1)) + 1))]])
  else
  none)
  else
  some ([.one ((.ints .i64 (sShV p0q0 p0q1)), true)], [[(.ints .u8 p0q0), (.int .i64 (((sShP p0q0 p0q1)) + 1))]])))))
  else
  none)
  else
  none) := by kernel_rfl
end spec_anyShape
theorem spec_anyShape.ok_of (hX : ∀ E ∈ spec_anyShape.X, CallSpec Try.prog E) (h : ∀ (bs : List Int) (p : Int), (rdOk bs p && decide ((p : Int) ≤ 2000000)) = true → ∃ fuel, runF Try.prog spec_anyShape.X spec_anyShape.I 0 fuel 45 Try.f45 [.box [(.ints .u8 bs), (.int .i64 p)]] = some ([.one ((.ints .i64 (aShV bs p)), true)], [[(.ints .u8 bs), (.int .i64 (sShP bs p + 1))]])) : CallSpec Try.prog spec_anyShape.E :=
  callSpec_of (d := 0) hX (by kernel_rfl) spec_anyShape.I_ok (by kernel_rfl) (by kernel_rfl) (by kernel_rfl) (fun _ _ _ _ h => by dsimp only [spec_anyShape.E] at h; cases h) (fun xs hp => by
    dsimp only [spec_anyShape.E] at hp ⊢
    split at hp
    · exact h _ _ hp
    · cases hp)
theorem spec_anyShape.ok : CallSpec Try.prog spec_anyShape.E := spec_anyShape.ok_of (by simp [spec_anyShape.X, spec_someShape.ok, spec_reader_pick.ok]) fun bs p h => ⟨0, by
  have h' := h
  simp only [Bool.and_eq_true, decide_eq_true_eq] at h'
  have b := sShP_bd bs p
  have r1 := rd_le (q := sShP bs p) h'.1 (by omega) (by omega)
  have l := (validS_inv (sShV_ok h'.1 h'.2)).1
  rw [spec_anyShape.e, h, r1, fitsOk (by simp; omega), fitsOk (by simp; omega)]
  unfold aShV
  cases pickV bs (sShP bs p) 24 == 0 <;> cases pickV bs (sShP bs p) 24 == 1 <;> cases pickV bs (sShP bs p) 24 == 2 <;> cases pickV bs (sShP bs p) 24 == 3 <;> rfl⟩

namespace spec_reader_spoil
noncomputable def E : Entry := ⟨46, false, false, fun | [.box [(.ints .u8 bs), (.int .i64 p)], .d (.ints .i64 xs), .d (.int .i64 n)] => rdOk bs p && decide ((p : Int) ≤ 2000000) && decide ((xs : List Int).length ≤ 1000000) | _ => false, fun | [.box [(.ints .u8 bs), (.int .i64 p)], .d (.ints .i64 xs), .d (.int .i64 n)] => ([.one ((.ints .i64 (spV bs p xs n)), false)], [[(.ints .u8 bs), (.int .i64 (spP bs p xs))]]) | _ => ([], []), fun _ => [], false, fun _ => none⟩
end spec_reader_spoil
namespace spec_reader_spoil
noncomputable def X : List Entry := [spec_copyInts.E, spec_reader_pick.E, spec_reader_one.E]
noncomputable def I : List Inl := [⟨46, Try.f46, ⟨[9], [], [(7, [7]), (11, [7])], [], [37], []⟩⟩]
theorem I_ok : ∀ i ∈ I, Try.prog.funcs[i.f]? = some i.fn ∧ (i.fn.name == "runtime.NumGoroutine") = false := by
  intro i hi
  simp only [I, List.mem_cons, List.not_mem_nil, or_false] at hi
  subst hi
  exact ⟨by kernel_rfl, by kernel_rfl⟩
theorem e (fuel : Nat) (p0q0 : List Int) (p0q1 : Int) (p1 : List Int) (p2 : Int) : runF Try.prog X I 0 fuel 46 Try.f46 [.box [(.ints .u8 p0q0), (.int .i64 p0q1)], .d (.ints .i64 p1), .d (.int .i64 p2)] =
  (bif szB p1 then
  (bif rdOk p0q0 p0q1 && decide ((20 : Int) ≤ 1048576) then
  (bif (((pickV p0q0 p0q1 20) : Int) == 0) then
  (bif fits (p1.length + ([p2] : List Int).length) 8 then
  some ([.one ((.ints .i64 (p1 ++ [p2])), false)], [[(.ints .u8 p0q0), (.int .i64 (p0q1 + 1))]])
  else
  none)
  else
  (bif (((pickV p0q0 p0q1 20) : Int) == 1) then
  (bif (decide ((((p1.length : Nat) : Int) : Int) > 0)) then
  (cutEnds p1.length (some (.imm (.int .i64 1))) (none)).bind fun cq1 =>
  some ([.one ((.ints .i64 ((p1.drop cq1.1).take (cq1.2 - cq1.1))), false)], [[(.ints .u8 p0q0), (.int .i64 (p0q1 + 1))]])
  else
  some ([.one ((.ints .i64 p1), false)], [[(.ints .u8 p0q0), (.int .i64 (p0q1 + 1))]]))
  else
  (bif (((pickV p0q0 p0q1 20) : Int) == 2) then
  (bif (decide ((((p1.length : Nat) : Int) : Int) > 0)) then
  (bif rdOk p0q0 ((p0q1 + 1)) && decide (((((p1.length : Nat) : Int)) : Int) ≤ 1048576) then
  (bif rdOk p0q0 ((((p0q1 + 1)) + 1)) && decide (0 < (([(-1), p2, 0, 1]) : List Int).length) && decide ((([(-1), p2, 0, 1]) : List Int).length ≤ 1048576) then
  (idx (pickV p0q0 ((p0q1 + 1)) (((p1.length : Nat) : Int))) p1.length).bind fun j2 =>
  (bif decide (j2 < p1.length) then
  some ([.one ((.ints .i64 (p1.set j2 (oneV p0q0 ((((p0q1 + 1)) + 1)) ([(-1), p2, 0, 1])))), false)], [[(.ints .u8 p0q0), (.int .i64 (((((p0q1 + 1)) + 1)) + 1))]])
  else
  none)
  else
  none)
  else
  none)
  else
  some ([.one ((.ints .i64 p1), false)], [[(.ints .u8 p0q0), (.int .i64 (p0q1 + 1))]]))
  else
  some ([.one ((.ints .i64 p1), false)], [[(.ints .u8 p0q0), (.int .i64 (p0q1 + 1))]]))))
  else
  none)
  else
  none) := by kernel_rfl
end spec_reader_spoil
theorem spec_reader_spoil.ok_of (hX : ∀ E ∈ spec_reader_spoil.X, CallSpec Try.prog E) (h : ∀ (bs : List Int) (p : Int) (xs : List Int) (n : Int), (rdOk bs p && decide ((p : Int) ≤ 2000000) && decide ((xs : List Int).length ≤ 1000000)) = true → ∃ fuel, runF Try.prog spec_reader_spoil.X spec_reader_spoil.I 0 fuel 46 Try.f46 [.box [(.ints .u8 bs), (.int .i64 p)], .d (.ints .i64 xs), .d (.int .i64 n)] = some ([.one ((.ints .i64 (spV bs p xs n)), false)], [[(.ints .u8 bs), (.int .i64 (spP bs p xs))]])) : CallSpec Try.prog spec_reader_spoil.E :=
  callSpec_of (d := 0) hX (by kernel_rfl) spec_reader_spoil.I_ok (by kernel_rfl) (by kernel_rfl) (by kernel_rfl) (fun _ _ _ _ h => by dsimp only [spec_reader_spoil.E] at h; cases h) (fun xs hp => by
    dsimp only [spec_reader_spoil.E] at hp ⊢
    split at hp
    · exact h _ _ _ _ hp
    · cases hp)
theorem spec_reader_spoil.ok : CallSpec Try.prog spec_reader_spoil.E := spec_reader_spoil.ok_of (by simp [spec_reader_spoil.X, spec_copyInts.ok, spec_reader_pick.ok, spec_reader_one.ok]) fun bs p xs n h => ⟨0, by
  simp only [Bool.and_eq_true, decide_eq_true_eq] at h
  obtain ⟨⟨h1, h2⟩, h3⟩ := h
  have r1 := rd_le (q := p + 1) h1 (by omega) (by omega)
  have r2 := rd_le (q := p + 1 + 1) h1 (by omega) (by omega)
  rw [spec_reader_spoil.e, szB_of (by omega), h1]
  unfold spV spP
  simp only [Bool.true_and, cond_true]
  rw [decide_eq_true (p := (20 : Int) ≤ 1048576) (by omega), cond_true]
  cases pickV bs p 20 == 0 with
  | true => rw [fitsOk (by simp only [List.length_cons, List.length_nil]; omega)]; rfl
  | false =>
    cases pickV bs p 20 == 1 with
    | true =>
      simp only [cond_true, cond_false]
      by_cases h0 : xs.length = 0
      · have e := List.length_eq_zero_iff.mp h0
        subst e
        rfl
      · rw [decide_eq_true (p := ((xs.length : Nat) : Int) > 0) (by omega), cond_true, cut_one (by omega)]
        simp only [Option.bind_some]
        rw [drop_take]
    | false =>
      cases pickV bs p 20 == 2 with
      | false => rfl
      | true =>
        simp only [cond_true, cond_false]
        by_cases h0 : xs.length = 0
        · have e := List.length_eq_zero_iff.mp h0
          subst e
          rfl
        · have pb := pick_bd (n := ((xs.length : Nat) : Int)) r1 (by omega)
          have hi : idx (pickV bs (p + 1) ((xs.length : Nat) : Int)) xs.length = some (pickV bs (p + 1) ((xs.length : Nat) : Int)).toNat := by
            simp only [idx]
            rw [if_pos (by omega)]
          rw [decide_eq_true (p := ((xs.length : Nat) : Int) > 0) (by omega), cond_true, r1, r2, decide_eq_true (p := ((xs.length : Nat) : Int) ≤ 1048576) (by omega), hi, decide_eq_true (p := 0 < xs.length) (by omega)]
          simp only [Bool.true_and, cond_true, Option.bind_some]
          rw [decide_eq_true (p := (pickV bs (p + 1) ((xs.length : Nat) : Int)).toNat < xs.length) (by omega)]
          rfl⟩

namespace spec_anyArray
noncomputable def E : Entry := ⟨23, false, false, fun | [.box [(.ints .u8 bs), (.int .i64 p)]] => rdOk bs p && decide ((p : Int) ≤ 1000000) | _ => false, fun | [.box [(.ints .u8 bs), (.int .i64 p)]] => ([.agg [((.ints .i64 (aArS bs p)), false), ((.ints .i64 (aArD bs p)), false)]], [[(.ints .u8 bs), (.int .i64 (aArP bs p))]]) | _ => ([], []), fun _ => [], false, fun _ => none⟩
end spec_anyArray
namespace spec_anyArray
noncomputable def X : List Entry := [spec_someArray.E, spec_reader_pick.E, spec_anyShape.E, spec_reader_spoil.E]
noncomputable def I : List Inl := [⟨23, Try.f23, ⟨[5, 11, 20], [], [(7, [3, 3]), (3000020, [19])], [], [], [20]⟩⟩]
theorem I_ok : ∀ i ∈ I, Try.prog.funcs[i.f]? = some i.fn ∧ (i.fn.name == "runtime.NumGoroutine") = false := by
  intro i hi
  simp only [I, List.mem_cons, List.not_mem_nil, or_false] at hi
  subst hi
  exact ⟨by kernel_rfl, by kernel_rfl⟩
theorem e (fuel : Nat) (p0q0 : List Int) (p0q1 : Int) : runF Try.prog X I 0 fuel 23 Try.f23 [.box [(.ints .u8 p0q0), (.int .i64 p0q1)]] =
  (bif rdOk p0q0 p0q1 && decide ((p0q1 : Int) ≤ 1000000) then
  (bif rdOk p0q0 ((sDaP p0q0 p0q1)) && decide ((30 : Int) ≤ 1048576) then
  (bif (((pickV p0q0 ((sDaP p0q0 p0q1)) 30) : Int) == 0) then
  (bif rdOk p0q0 ((((sDaP p0q0 p0q1)) + 1)) && decide ((((((sDaP p0q0 p0q1)) + 1)) : Int) ≤ 2000000) then
  some ([.agg [((.ints .i64 (aShV p0q0 ((((sDaP p0q0 p0q1)) + 1)))), false), ((.ints .i64 (sDaV p0q0 p0q1)), false)]], [[(.ints .u8 p0q0), (.int .i64 (sShP p0q0 ((((sDaP p0q0 p0q1)) + 1)) + 1))]])
  else
  none)
  else
  (bif (((pickV p0q0 ((sDaP p0q0 p0q1)) 30) : Int) == 1) then
  (bif fits ((sDaV p0q0 p0q1).length + ([5] : List Int).length) 8 then
  (bif rdOk p0q0 ((((sDaP p0q0 p0q1)) + 1)) && decide ((((((sDaP p0q0 p0q1)) + 1)) : Int) ≤ 2000000) && decide (((((sDaV p0q0 p0q1) ++ [5])) : List Int).length ≤ 1000000) then
  some ([.agg [((.ints .i64 (sShV p0q0 p0q1)), false), ((.ints .i64 (spV p0q0 ((((sDaP p0q0 p0q1)) + 1)) (((sDaV p0q0 p0q1) ++ [5])) 1000001)), false)]], [[(.ints .u8 p0q0), (.int .i64 (spP p0q0 ((((sDaP p0q0 p0q1)) + 1)) (((sDaV p0q0 p0q1) ++ [5]))))]])
  else
  none)
  else
  none)
  else
  some ([.agg [((.ints .i64 (sShV p0q0 p0q1)), false), ((.ints .i64 (sDaV p0q0 p0q1)), false)]], [[(.ints .u8 p0q0), (.int .i64 (((sDaP p0q0 p0q1)) + 1))]])))
  else
  none)
  else
  none) := by kernel_rfl
end spec_anyArray
theorem spec_anyArray.ok_of (hX : ∀ E ∈ spec_anyArray.X, CallSpec Try.prog E) (h : ∀ (bs : List Int) (p : Int), (rdOk bs p && decide ((p : Int) ≤ 1000000)) = true → ∃ fuel, runF Try.prog spec_anyArray.X spec_anyArray.I 0 fuel 23 Try.f23 [.box [(.ints .u8 bs), (.int .i64 p)]] = some ([.agg [((.ints .i64 (aArS bs p)), false), ((.ints .i64 (aArD bs p)), false)]], [[(.ints .u8 bs), (.int .i64 (aArP bs p))]])) : CallSpec Try.prog spec_anyArray.E :=
  callSpec_of (d := 0) hX (by kernel_rfl) spec_anyArray.I_ok (by kernel_rfl) (by kernel_rfl) (by kernel_rfl) (fun _ _ _ _ h => by dsimp only [spec_anyArray.E] at h; cases h) (fun xs hp => by
    dsimp only [spec_anyArray.E] at hp ⊢
    split at hp
    · exact h _ _ hp
    · cases hp)
theorem spec_anyArray.ok : CallSpec Try.prog spec_anyArray.E := spec_anyArray.ok_of (by simp [spec_anyArray.X, spec_someArray.ok, spec_reader_pick.ok, spec_anyShape.ok, spec_reader_spoil.ok]) fun bs p h => ⟨0, by
  simp only [Bool.and_eq_true, decide_eq_true_eq] at h
  obtain ⟨h1, h2, h3⟩ := sDa_bd h.1 (by omega)
  have r1 := rd_le (q := sDaP bs p) h.1 (by omega) (by omega)
  have r2 := rd_le (q := sDaP bs p + 1) h.1 (by omega) (by omega)
  have hz : (sDaV bs p ++ [5]).length ≤ 1000000 := by rw [List.length_append]; simp; omega
  rw [spec_anyArray.e, h.1, r1, r2, decide_eq_true (p := p ≤ 1000000) h.2, decide_eq_true (p := (30 : Int) ≤ 1048576) (by omega), decide_eq_true (p := sDaP bs p + 1 ≤ 2000000) (by omega), fitsOk (by simp only [List.length_cons, List.length_nil]; omega), decide_eq_true hz]
  unfold aArS aArD aArP
  cases pickV bs (sDaP bs p) 30 == 0 with
  | true => rfl
  | false =>
    cases pickV bs (sDaP bs p) 30 == 1 with
    | true => rfl
    | false => rfl⟩

namespace spec_DrawMapArray
noncomputable def E : Entry := ⟨9, false, false, fun | [.d (.ints .u8 bs)] => bytesB bs | _ => false, fun | [.d (.ints .u8 bs)] => ([.one ((.int .i64 (oneV (cutC bs) 0 mapL)), false), .agg [((.ints .i64 (aArS (cutC bs) 1)), false), ((.ints .i64 (aArD (cutC bs) 1)), false)]], []) | _ => ([], []), fun _ => [], true, fun _ => none⟩
end spec_DrawMapArray
namespace spec_DrawMapArray
noncomputable def X : List Entry := [spec_newReader.E, spec_reader_one.E, spec_anyArray.E]
noncomputable def I : List Inl := [⟨9, Try.f9, ⟨[13], [], [], [], [9], []⟩⟩]
theorem I_ok : ∀ i ∈ I, Try.prog.funcs[i.f]? = some i.fn ∧ (i.fn.name == "runtime.NumGoroutine") = false := by
  intro i hi
  simp only [I, List.mem_cons, List.not_mem_nil, or_false] at hi
  subst hi
  exact ⟨by kernel_rfl, by kernel_rfl⟩
theorem e (fuel : Nat) (p0 : List Int) : runF Try.prog X I 0 fuel 9 Try.f9 [.d (.ints .u8 p0)] =
  (bif rdOk ((cutC p0)) 0 && decide (0 < (([1, 2, 3, 4, 0, 5, 1]) : List Int).length) && decide ((([1, 2, 3, 4, 0, 5, 1]) : List Int).length ≤ 1048576) then
  (bif rdOk (((cutC p0))) ((0 + 1)) && decide ((((0 + 1)) : Int) ≤ 1000000) then
  some ([.one ((.int .i64 (oneV ((cutC p0)) 0 ([1, 2, 3, 4, 0, 5, 1]))), false), .agg [((.ints .i64 (aArS (((cutC p0))) ((0 + 1)))), false), ((.ints .i64 (aArD (((cutC p0))) ((0 + 1)))), false)]], [])
  else
  none)
  else
  none) := by kernel_rfl
end spec_DrawMapArray
theorem spec_DrawMapArray.ok_of (hX : ∀ E ∈ spec_DrawMapArray.X, CallSpec Try.prog E) (h : ∀ (bs : List Int), (bytesB bs) = true → ∃ fuel, runF Try.prog spec_DrawMapArray.X spec_DrawMapArray.I 0 fuel 9 Try.f9 [.d (.ints .u8 bs)] = some ([.one ((.int .i64 (oneV (cutC bs) 0 mapL)), false), .agg [((.ints .i64 (aArS (cutC bs) 1)), false), ((.ints .i64 (aArD (cutC bs) 1)), false)]], [])) : CallSpec Try.prog spec_DrawMapArray.E :=
  callSpec_of (d := 0) hX (by kernel_rfl) spec_DrawMapArray.I_ok (by kernel_rfl) (by kernel_rfl) (by kernel_rfl) (fun _ _ _ _ h => by dsimp only [spec_DrawMapArray.E] at h; cases h) (fun xs hp => by
    dsimp only [spec_DrawMapArray.E] at hp ⊢
    split at hp
    · exact h _ hp
    · cases hp)
theorem spec_DrawMapArray.ok : CallSpec Try.prog spec_DrawMapArray.E := spec_DrawMapArray.ok_of (by simp [spec_DrawMapArray.X, spec_newReader.ok, spec_reader_one.ok, spec_anyArray.ok]) fun bs h => ⟨0, by
  have r0 := cut_ok h (p := 0) (by omega) (by omega)
  rw [spec_DrawMapArray.e, r0, rd_le (q := 0 + 1) r0 (by omega) (by omega)]
  rfl⟩

namespace impl_functionOfOne_1
noncomputable def E : Entry := ⟨47, true, false, fun | [.d (.int .i64 n)] => true | _ => false, fun | [.d (.int .i64 n)] => ([.one ((.int .i64 (IntKind.wrap .i64 (0 - n))), false)], []) | _ => ([], []), fun _ => [], false, fun _ => none⟩
end impl_functionOfOne_1
namespace impl_functionOfOne_1
noncomputable def X : List Entry := []
noncomputable def I : List Inl := [⟨47, Try.f47, ⟨[], [], [], [], [], []⟩⟩]
theorem I_ok : ∀ i ∈ I, Try.prog.funcs[i.f]? = some i.fn ∧ (i.fn.name == "runtime.NumGoroutine") = false := by
  intro i hi
  simp only [I, List.mem_cons, List.not_mem_nil, or_false] at hi
  subst hi
  exact ⟨by kernel_rfl, by kernel_rfl⟩
theorem e (fuel : Nat) (p0 : Int) : runF Try.prog X I 0 fuel 47 Try.f47 [.d (.int .i64 p0)] =
  some ([.one ((.int .i64 (IntKind.wrap .i64 (0 - p0))), false)], []) := by kernel_rfl
end impl_functionOfOne_1
theorem impl_functionOfOne_1.ok_of (hX : ∀ E ∈ impl_functionOfOne_1.X, CallSpec Try.prog E) (h : ∀ (n : Int), (true) = true → ∃ fuel, runF Try.prog impl_functionOfOne_1.X impl_functionOfOne_1.I 0 fuel 47 Try.f47 [.d (.int .i64 n)] = some ([.one ((.int .i64 (IntKind.wrap .i64 (0 - n))), false)], [])) : CallSpec Try.prog impl_functionOfOne_1.E :=
  callSpec_of (d := 0) hX (by kernel_rfl) impl_functionOfOne_1.I_ok (by kernel_rfl) (by kernel_rfl) (by kernel_rfl) (fun _ _ _ _ h => by dsimp only [impl_functionOfOne_1.E] at h; cases h) (fun xs hp => by
    dsimp only [impl_functionOfOne_1.E] at hp ⊢
    split at hp
    · exact h _ hp
    · cases hp)
theorem impl_functionOfOne_1.ok : CallSpec Try.prog impl_functionOfOne_1.E := impl_functionOfOne_1.ok_of (by simp [impl_functionOfOne_1.X]) fun n _ => ⟨0, by rw [impl_functionOfOne_1.e]⟩

namespace impl_absolute
noncomputable def E : Entry := ⟨48, true, false, fun | [.d (.int .i64 n)] => true | _ => false, fun | [.d (.int .i64 n)] => ([.one ((.int .i64 (absV n)), false)], []) | _ => ([], []), fun _ => [], false, fun _ => none⟩
end impl_absolute
namespace impl_absolute
noncomputable def X : List Entry := []
noncomputable def I : List Inl := [⟨48, Try.f48, ⟨[], [], [], [], [], []⟩⟩]
theorem I_ok : ∀ i ∈ I, Try.prog.funcs[i.f]? = some i.fn ∧ (i.fn.name == "runtime.NumGoroutine") = false := by
  intro i hi
  simp only [I, List.mem_cons, List.not_mem_nil, or_false] at hi
  subst hi
  exact ⟨by kernel_rfl, by kernel_rfl⟩
theorem e (fuel : Nat) (p0 : Int) : runF Try.prog X I 0 fuel 48 Try.f48 [.d (.int .i64 p0)] =
  some ([.one ((.int .i64 (maxI p0 (IntKind.wrap .i64 (0 - p0)))), false)], []) := by kernel_rfl
end impl_absolute
theorem impl_absolute.ok_of (hX : ∀ E ∈ impl_absolute.X, CallSpec Try.prog E) (h : ∀ (n : Int), (true) = true → ∃ fuel, runF Try.prog impl_absolute.X impl_absolute.I 0 fuel 48 Try.f48 [.d (.int .i64 n)] = some ([.one ((.int .i64 (absV n)), false)], [])) : CallSpec Try.prog impl_absolute.E :=
  callSpec_of (d := 0) hX (by kernel_rfl) impl_absolute.I_ok (by kernel_rfl) (by kernel_rfl) (by kernel_rfl) (fun _ _ _ _ h => by dsimp only [impl_absolute.E] at h; cases h) (fun xs hp => by
    dsimp only [impl_absolute.E] at hp ⊢
    split at hp
    · exact h _ hp
    · cases hp)
theorem impl_absolute.ok : CallSpec Try.prog impl_absolute.E := impl_absolute.ok_of (by simp [impl_absolute.X]) fun n _ => ⟨0, by rw [impl_absolute.e]; rfl⟩

namespace cmp_isNaN_int
noncomputable def E : Entry := ⟨77, true, false, fun | [.d (.int .i64 x)] => true | _ => false, fun | [.d (.int .i64 x)] => ([.one ((.bool false), false)], []) | _ => ([], []), fun _ => [], false, fun _ => none⟩
end cmp_isNaN_int
namespace cmp_isNaN_int
noncomputable def X : List Entry := []
noncomputable def I : List Inl := [⟨77, Try.f77, ⟨[], [], [], [], [], []⟩⟩]
theorem I_ok : ∀ i ∈ I, Try.prog.funcs[i.f]? = some i.fn ∧ (i.fn.name == "runtime.NumGoroutine") = false := by
  intro i hi
  simp only [I, List.mem_cons, List.not_mem_nil, or_false] at hi
  subst hi
  exact ⟨by kernel_rfl, by kernel_rfl⟩
theorem e (fuel : Nat) (p0 : Int) : runF Try.prog X I 0 fuel 77 Try.f77 [.d (.int .i64 p0)] =
  some ([.one ((.bool ((p0 : Int) != p0)), false)], []) := by kernel_rfl
end cmp_isNaN_int
theorem cmp_isNaN_int.ok_of (hX : ∀ E ∈ cmp_isNaN_int.X, CallSpec Try.prog E) (h : ∀ (x : Int), (true) = true → ∃ fuel, runF Try.prog cmp_isNaN_int.X cmp_isNaN_int.I 0 fuel 77 Try.f77 [.d (.int .i64 x)] = some ([.one ((.bool false), false)], [])) : CallSpec Try.prog cmp_isNaN_int.E :=
  callSpec_of (d := 0) hX (by kernel_rfl) cmp_isNaN_int.I_ok (by kernel_rfl) (by kernel_rfl) (by kernel_rfl) (fun _ _ _ _ h => by dsimp only [cmp_isNaN_int.E] at h; cases h) (fun xs hp => by
    dsimp only [cmp_isNaN_int.E] at hp ⊢
    split at hp
    · exact h _ hp
    · cases hp)
theorem cmp_isNaN_int.ok : CallSpec Try.prog cmp_isNaN_int.E := cmp_isNaN_int.ok_of (by simp [cmp_isNaN_int.X]) fun x _ => ⟨0, by rw [cmp_isNaN_int.e, bne_self_eq_false]⟩

namespace cmp_Compare_int
noncomputable def E : Entry := ⟨50, true, false, fun | [.d (.int .i64 x), .d (.int .i64 y)] => true | _ => false, fun | [.d (.int .i64 x), .d (.int .i64 y)] => ([.one ((.int .i64 (cmpV x y)), false)], []) | _ => ([], []), fun _ => [], false, fun _ => none⟩
end cmp_Compare_int
namespace cmp_Compare_int
noncomputable def X : List Entry := [cmp_isNaN_int.E]
noncomputable def I : List Inl := [⟨50, Try.f50, ⟨[], [], [], [], [], []⟩⟩]
theorem I_ok : ∀ i ∈ I, Try.prog.funcs[i.f]? = some i.fn ∧ (i.fn.name == "runtime.NumGoroutine") = false := by
  intro i hi
  simp only [I, List.mem_cons, List.not_mem_nil, or_false] at hi
  subst hi
  exact ⟨by kernel_rfl, by kernel_rfl⟩
theorem e (fuel : Nat) (p0 : Int) (p1 : Int) : runF Try.prog X I 0 fuel 50 Try.f50 [.d (.int .i64 p0), .d (.int .i64 p1)] =
  (bif (decide ((p0 : Int) < p1)) then
  some ([.one ((.int .i64 (-1)), false)], [])
  else
  (bif (decide ((p0 : Int) > p1)) then
  some ([.one ((.int .i64 1), false)], [])
  else
  some ([.one ((.int .i64 0), false)], []))) := by kernel_rfl
end cmp_Compare_int
theorem cmp_Compare_int.ok_of (hX : ∀ E ∈ cmp_Compare_int.X, CallSpec Try.prog E) (h : ∀ (x : Int) (y : Int), (true) = true → ∃ fuel, runF Try.prog cmp_Compare_int.X cmp_Compare_int.I 0 fuel 50 Try.f50 [.d (.int .i64 x), .d (.int .i64 y)] = some ([.one ((.int .i64 (cmpV x y)), false)], [])) : CallSpec Try.prog cmp_Compare_int.E :=
  callSpec_of (d := 0) hX (by kernel_rfl) cmp_Compare_int.I_ok (by kernel_rfl) (by kernel_rfl) (by kernel_rfl) (fun _ _ _ _ h => by dsimp only [cmp_Compare_int.E] at h; cases h) (fun xs hp => by
    dsimp only [cmp_Compare_int.E] at hp ⊢
    split at hp
    · exact h _ _ hp
    · cases hp)
theorem cmp_Compare_int.ok : CallSpec Try.prog cmp_Compare_int.E := cmp_Compare_int.ok_of (by simp [cmp_Compare_int.X, cmp_isNaN_int.ok]) fun x y _ => ⟨0, by
  rw [cmp_Compare_int.e]
  unfold cmpV
  cases decide (x < y) <;> cases decide (x > y) <;> rfl⟩

namespace impl_functionOfOne_2
noncomputable def E : Entry := ⟨49, true, false, fun | [.d (.int .i64 n)] => true | _ => false, fun | [.d (.int .i64 n)] => ([.one ((.int .i64 (sgnV n)), false)], []) | _ => ([], []), fun _ => [], false, fun _ => none⟩
end impl_functionOfOne_2
namespace impl_functionOfOne_2
noncomputable def X : List Entry := [cmp_Compare_int.E]
noncomputable def I : List Inl := [⟨49, Try.f49, ⟨[], [], [], [], [], []⟩⟩]
theorem I_ok : ∀ i ∈ I, Try.prog.funcs[i.f]? = some i.fn ∧ (i.fn.name == "runtime.NumGoroutine") = false := by
  intro i hi
  simp only [I, List.mem_cons, List.not_mem_nil, or_false] at hi
  subst hi
  exact ⟨by kernel_rfl, by kernel_rfl⟩
theorem e (fuel : Nat) (p0 : Int) : runF Try.prog X I 0 fuel 49 Try.f49 [.d (.int .i64 p0)] =
  some ([.one ((.int .i64 (cmpV p0 0)), false)], []) := by kernel_rfl
end impl_functionOfOne_2
theorem impl_functionOfOne_2.ok_of (hX : ∀ E ∈ impl_functionOfOne_2.X, CallSpec Try.prog E) (h : ∀ (n : Int), (true) = true → ∃ fuel, runF Try.prog impl_functionOfOne_2.X impl_functionOfOne_2.I 0 fuel 49 Try.f49 [.d (.int .i64 n)] = some ([.one ((.int .i64 (sgnV n)), false)], [])) : CallSpec Try.prog impl_functionOfOne_2.E :=
  callSpec_of (d := 0) hX (by kernel_rfl) impl_functionOfOne_2.I_ok (by kernel_rfl) (by kernel_rfl) (by kernel_rfl) (fun _ _ _ _ h => by dsimp only [impl_functionOfOne_2.E] at h; cases h) (fun xs hp => by
    dsimp only [impl_functionOfOne_2.E] at hp ⊢
    split at hp
    · exact h _ hp
    · cases hp)
theorem impl_functionOfOne_2.ok : CallSpec Try.prog impl_functionOfOne_2.E := impl_functionOfOne_2.ok_of (by simp [impl_functionOfOne_2.X, cmp_Compare_int.ok]) fun n _ => ⟨0, by rw [impl_functionOfOne_2.e, sgn_cmp]⟩

namespace impl_truth
noncomputable def E : Entry := ⟨52, true, false, fun | [.d (.bool b)] => true | _ => false, fun | [.d (.bool b)] => ([.one ((.int .i64 (tInt b)), false)], []) | _ => ([], []), fun _ => [], false, fun _ => none⟩
end impl_truth
namespace impl_truth
noncomputable def X : List Entry := []
noncomputable def I : List Inl := [⟨52, Try.f52, ⟨[], [], [], [], [], []⟩⟩]
theorem I_ok : ∀ i ∈ I, Try.prog.funcs[i.f]? = some i.fn ∧ (i.fn.name == "runtime.NumGoroutine") = false := by
  intro i hi
  simp only [I, List.mem_cons, List.not_mem_nil, or_false] at hi
  subst hi
  exact ⟨by kernel_rfl, by kernel_rfl⟩
theorem e (fuel : Nat) (p0 : Bool) : runF Try.prog X I 0 fuel 52 Try.f52 [.d (.bool p0)] =
  (bif p0 then
  some ([.one ((.int .i64 1), false)], [])
  else
  some ([.one ((.int .i64 0), false)], [])) := by kernel_rfl
end impl_truth
theorem impl_truth.ok_of (hX : ∀ E ∈ impl_truth.X, CallSpec Try.prog E) (h : ∀ (b : Bool), (true) = true → ∃ fuel, runF Try.prog impl_truth.X impl_truth.I 0 fuel 52 Try.f52 [.d (.bool b)] = some ([.one ((.int .i64 (tInt b)), false)], [])) : CallSpec Try.prog impl_truth.E :=
  callSpec_of (d := 0) hX (by kernel_rfl) impl_truth.I_ok (by kernel_rfl) (by kernel_rfl) (by kernel_rfl) (fun _ _ _ _ h => by dsimp only [impl_truth.E] at h; cases h) (fun xs hp => by
    dsimp only [impl_truth.E] at hp ⊢
    split at hp
    · exact h _ hp
    · cases hp)
theorem impl_truth.ok : CallSpec Try.prog impl_truth.E := impl_truth.ok_of (by simp [impl_truth.X]) fun b _ => ⟨0, by rw [impl_truth.e]; cases b <;> rfl⟩

namespace impl_functionOfOne_3
noncomputable def E : Entry := ⟨51, true, false, fun | [.d (.int .i64 n)] => true | _ => false, fun | [.d (.int .i64 n)] => ([.one ((.int .i64 (tInt (n == 0))), false)], []) | _ => ([], []), fun _ => [], false, fun _ => none⟩
end impl_functionOfOne_3
namespace impl_functionOfOne_3
noncomputable def X : List Entry := [impl_truth.E]
noncomputable def I : List Inl := [⟨51, Try.f51, ⟨[], [], [], [], [], []⟩⟩]
theorem I_ok : ∀ i ∈ I, Try.prog.funcs[i.f]? = some i.fn ∧ (i.fn.name == "runtime.NumGoroutine") = false := by
  intro i hi
  simp only [I, List.mem_cons, List.not_mem_nil, or_false] at hi
  subst hi
  exact ⟨by kernel_rfl, by kernel_rfl⟩
theorem e (fuel : Nat) (p0 : Int) : runF Try.prog X I 0 fuel 51 Try.f51 [.d (.int .i64 p0)] =
  some ([.one ((.int .i64 (tInt (((p0 : Int) == 0)))), false)], []) := by kernel_rfl
end impl_functionOfOne_3
theorem impl_functionOfOne_3.ok_of (hX : ∀ E ∈ impl_functionOfOne_3.X, CallSpec Try.prog E) (h : ∀ (n : Int), (true) = true → ∃ fuel, runF Try.prog impl_functionOfOne_3.X impl_functionOfOne_3.I 0 fuel 51 Try.f51 [.d (.int .i64 n)] = some ([.one ((.int .i64 (tInt (n == 0))), false)], [])) : CallSpec Try.prog impl_functionOfOne_3.E :=
  callSpec_of (d := 0) hX (by kernel_rfl) impl_functionOfOne_3.I_ok (by kernel_rfl) (by kernel_rfl) (by kernel_rfl) (fun _ _ _ _ h => by dsimp only [impl_functionOfOne_3.E] at h; cases h) (fun xs hp => by
    dsimp only [impl_functionOfOne_3.E] at hp ⊢
    split at hp
    · exact h _ hp
    · cases hp)
theorem impl_functionOfOne_3.ok : CallSpec Try.prog impl_functionOfOne_3.E := impl_functionOfOne_3.ok_of (by simp [impl_functionOfOne_3.X, impl_truth.ok]) fun n _ => ⟨0, by rw [impl_functionOfOne_3.e]⟩

namespace impl_functionOfOne
noncomputable def E : Entry := ⟨24, true, false, fun | [.d (.int .i64 fn)] => true | _ => false, fun | [.d (.int .i64 fn)] => ([.one (.nilf, false)], []) | _ => ([], []), fun | [.d (.int .i64 fn)] => [(decide (fn = 1), ([.one ((.clo 47 []), false)], [])), (decide (fn = 2), ([.one ((.clo 48 []), false)], [])), (decide (fn = 3), ([.one ((.clo 49 []), false)], [])), (decide (fn = 4), ([.one ((.clo 51 []), false)], []))] | _ => [], false, fun _ => none⟩
end impl_functionOfOne
namespace impl_functionOfOne
noncomputable def X : List Entry := []
noncomputable def I : List Inl := [⟨24, Try.f24, ⟨[], [], [], [], [], []⟩⟩]
theorem I_ok : ∀ i ∈ I, Try.prog.funcs[i.f]? = some i.fn ∧ (i.fn.name == "runtime.NumGoroutine") = false := by
  intro i hi
  simp only [I, List.mem_cons, List.not_mem_nil, or_false] at hi
  subst hi
  exact ⟨by kernel_rfl, by kernel_rfl⟩
theorem e (fuel : Nat) (p0 : Int) : runF Try.prog X I 0 fuel 24 Try.f24 [.d (.int .i64 p0)] =
  (bif (decide ((p0 : Int) < 0)) then
  some ([.one (.nilf, false)], [])
  else
  (bif (decide ((p0 : Int) ≥ 5)) then
  some ([.one (.nilf, false)], [])
  else
  (bif decide (p0 = ((0 : Nat) : Int)) then
  some ([.one (.nilf, false)], [])
  else
  (bif decide (p0 = ((1 : Nat) : Int)) then
  some ([.one ((.clo 47 []), false)], [])
  else
  (bif decide (p0 = ((2 : Nat) : Int)) then
  some ([.one ((.clo 48 []), false)], [])
  else
  (bif decide (p0 = ((3 : Nat) : Int)) then
  some ([.one ((.clo 49 []), false)], [])
  else
  (bif decide (p0 = ((4 : Nat) : Int)) then
  some ([.one ((.clo 51 []), false)], [])
  else
  none))))))) := by kernel_rfl
end impl_functionOfOne
theorem impl_functionOfOne.ok_of (hX : ∀ E ∈ impl_functionOfOne.X, CallSpec Try.prog E) (h : ∀ (fn : Int), (true) = true → ∃ fuel, runF Try.prog impl_functionOfOne.X impl_functionOfOne.I 0 fuel 24 Try.f24 [.d (.int .i64 fn)] = some (bif decide (fn = 1) then ([.one ((.clo 47 []), false)], []) else (bif decide (fn = 2) then ([.one ((.clo 48 []), false)], []) else (bif decide (fn = 3) then ([.one ((.clo 49 []), false)], []) else (bif decide (fn = 4) then ([.one ((.clo 51 []), false)], []) else ([.one (.nilf, false)], [])))))) : CallSpec Try.prog impl_functionOfOne.E :=
  callSpec_of (d := 0) hX (by kernel_rfl) impl_functionOfOne.I_ok (by kernel_rfl) (by kernel_rfl) (by kernel_rfl) (fun _ _ _ _ h => by dsimp only [impl_functionOfOne.E] at h; cases h) (fun xs hp => by
    dsimp only [impl_functionOfOne.E] at hp ⊢
    split at hp
    · exact h _ hp
    · cases hp)
theorem impl_functionOfOne.ok : CallSpec Try.prog impl_functionOfOne.E := impl_functionOfOne.ok_of (by simp [impl_functionOfOne.X]) fun fn _ => ⟨0, by
  rw [impl_functionOfOne.e]
  cases ho : fnOk fn with
  | true => rcases fnOk_cases ho with rfl | rfl | rfl | rfl <;> rfl
  | false =>
    have h := fnOk_no ho
    rw [decide_eq_false (p := fn = 1) (by omega), decide_eq_false (p := fn = 2) (by omega), decide_eq_false (p := fn = 3) (by omega), decide_eq_false (p := fn = 4) (by omega)]
    by_cases h1 : fn < 0
    · rw [decide_eq_true h1]; rfl
    · by_cases h2 : fn ≥ 5
      · rw [decide_eq_false h1, decide_eq_true h2]; rfl
      · have : fn = 0 := by omega
        subst this
        rfl⟩

namespace impl_layoutOf
noncomputable def E : Entry := ⟨31, false, false, fun | [.d (.ints .i64 sh)] => decide (sh.length < 9223372036854775808) | _ => false, fun | [.d (.ints .i64 sh)] => ([.agg [((.ints .i64 nilI), true), ((.int .i64 0), false), ((.int .i64 0), false), ((.int .i64 0), false), ((.int .i64 0), false)], .one ((.bool false), false)], []) | _ => ([], []), fun | [.d (.ints .i64 sh)] => [(validS sh, ([.agg [((.ints .i64 sh), false), ((.int .i64 (strd sh 0)), false), ((.int .i64 (strd sh 1)), false), ((.int .i64 (strd sh 2)), false), ((.int .i64 (volW sh)), false)], .one ((.bool true), false)], []))] | _ => [], true, fun _ => none⟩
end impl_layoutOf
namespace impl_layoutOf
noncomputable def X : List Entry := []
noncomputable def I : List Inl := [⟨31, Try.f31, ⟨[], [(1000005, [1, 3, 6, 7, 8, 9, 10, 11, 12, 13, 14, 15, 16, 17, 18, 19, 20, 21, 22, 23, 24, 25, 26, 27, 28, 29, 30, 31, 32, 33, 34, 35, 36, 37, 38, 39, 40, 41, 42, 43, 44, 45, 46, 47, 48, 49])], [], [(10, [0, 2, 3, 1, 4, 5, 6, 7, 8])], [], []⟩⟩]
theorem I_ok : ∀ i ∈ I, Try.prog.funcs[i.f]? = some i.fn ∧ (i.fn.name == "runtime.NumGoroutine") = false := by
  intro i hi
  simp only [I, List.mem_cons, List.not_mem_nil, or_false] at hi
  subst hi
  exact ⟨by kernel_rfl, by kernel_rfl⟩
noncomputable abbrev L0 (fuel n : Nat) (s : St) (k : Kont) := lAt Try.prog X I fuel true 0 false 31 (bodyOf Try.f31) [1, 1, 1, 0, 1, 0] n s k
noncomputable abbrev k0  (fuel : Nat) : Kont := (kAt Try.prog X I fuel true 0 false 31 (bodyOf Try.f31) [1, 1, 1, 0, 1, 0] [] (endK Try.prog Try.f31))
noncomputable def t0 (p0 : List Int) (x0q1 : Int) (x0q7 : Int) (x0q8 : Int) (x0q9 : Int) (x0q10 : Int) : St := ⟨[(.imm (.ints .i64 p0)), .dead, (.ptr 1000000000 0 0), .dead, (.ptr 1000000001 0 0), (.imm (.int .i64 x0q1)), .dead, .dead, .dead, .dead, .dead, .dead, .dead, .dead, .dead, .dead, .dead, .dead, .dead, .dead, .dead, .dead, .dead, .dead, .dead, .dead, .dead, .dead, .dead, .dead, .dead, .dead, .dead, .dead, .dead, .dead, .dead, .dead, .dead, .dead, .dead, .dead, .dead, .dead, .dead, .dead, .dead, .dead, .dead, .dead], hOf [(1000000000, (.box [(.imm .nils), (.imm (.int .i64 0)), (.imm (.int .i64 0)), (.imm (.int .i64 0)), (.imm (.int .i64 0))])), (1000000001, (.box [(.imm (.ints .i64 p0)), (.imm (.int .i64 x0q7)), (.imm (.int .i64 x0q8)), (.imm (.int .i64 x0q9)), (.imm (.int .i64 x0q10))]))], [], []⟩
theorem e (fuel : Nat) (p0 : List Int) : runF Try.prog X I 0 fuel 31 Try.f31 [.d (.ints .i64 p0)] =
  (bif (decide ((((p0.length : Nat) : Int) : Int) > 3)) then
  some ([.agg [((.ints .i64 []), true), ((.int .i64 0), false), ((.int .i64 0), false), ((.int .i64 0), false), ((.int .i64 0), false)], .one ((.bool false), false)], [])
  else
  L0 fuel fuel (t0 p0 ((IntKind.wrap .i64 (((p0.length : Nat) : Int) - 1))) 0 0 0 1) (k0  fuel)) := by kernel_rfl
theorem s0 (fuel n0 : Nat) (p0 : List Int) (x0q1 : Int) (x0q7 : Int) (x0q8 : Int) (x0q9 : Int) (x0q10 : Int) : L0 fuel (n0 + 1) (t0 p0 x0q1 x0q7 x0q8 x0q9 x0q10) (k0  fuel) =
  (bif (decide ((x0q1 : Int) ≥ 0)) then
  (idx x0q1 p0.length).bind fun j21 =>
  (p0[j21]?).bind fun v22 =>
  (bif (decide ((v22 : Int) < 0)) then
  some ([.agg [((.ints .i64 []), true), ((.int .i64 0), false), ((.int .i64 0), false), ((.int .i64 0), false), ((.int .i64 0), false)], .one ((.bool false), false)], [])
  else
  (idx x0q1 p0.length).bind fun j23 =>
  (p0[j23]?).bind fun v24 =>
  (bif (decide ((v24 : Int) > 60)) then
  some ([.agg [((.ints .i64 []), true), ((.int .i64 0), false), ((.int .i64 0), false), ((.int .i64 0), false), ((.int .i64 0), false)], .one ((.bool false), false)], [])
  else
  (bif decide (x0q1 = ((0 : Nat) : Int)) then
  (idx x0q1 p0.length).bind fun j29 =>
  (p0[j29]?).bind fun v30 =>
  L0 fuel n0 (t0 p0 ((IntKind.wrap .i64 (x0q1 - 1))) x0q10 x0q8 x0q9 ((IntKind.wrap .i64 (x0q10 * v30)))) (k0  fuel)
  else
  (bif decide (x0q1 = ((1 : Nat) : Int)) then
  (idx x0q1 p0.length).bind fun j27 =>
  (p0[j27]?).bind fun v28 =>
  L0 fuel n0 (t0 p0 ((IntKind.wrap .i64 (x0q1 - 1))) x0q7 x0q10 x0q9 ((IntKind.wrap .i64 (x0q10 * v28)))) (k0  fuel)
  else
  (bif decide (x0q1 = ((2 : Nat) : Int)) then
  (idx x0q1 p0.length).bind fun j25 =>
  (p0[j25]?).bind fun v26 =>
  L0 fuel n0 (t0 p0 ((IntKind.wrap .i64 (x0q1 - 1))) x0q7 x0q8 x0q10 ((IntKind.wrap .i64 (x0q10 * v26)))) (k0  fuel)
  else
  none)))))
  else
  (bif (decide ((x0q10 : Int) > 60)) then
  some ([.agg [((.ints .i64 []), true), ((.int .i64 0), false), ((.int .i64 0), false), ((.int .i64 0), false), ((.int .i64 0), false)], .one ((.bool false), false)], [])
  else
  some ([.agg [((.ints .i64 p0), false), ((.int .i64 x0q7), false), ((.int .i64 x0q8), false), ((.int .i64 x0q9), false), ((.int .i64 x0q10), false)], .one ((.bool true), false)], []))) := by kernel_rfl
end impl_layoutOf
theorem impl_layoutOf.ok_of (hX : ∀ E ∈ impl_layoutOf.X, CallSpec Try.prog E) (h : ∀ (sh : List Int), (decide (sh.length < 9223372036854775808)) = true → ∃ fuel, runF Try.prog impl_layoutOf.X impl_layoutOf.I 0 fuel 31 Try.f31 [.d (.ints .i64 sh)] = some (bif validS sh then ([.agg [((.ints .i64 sh), false), ((.int .i64 (strd sh 0)), false), ((.int .i64 (strd sh 1)), false), ((.int .i64 (strd sh 2)), false), ((.int .i64 (volW sh)), false)], .one ((.bool true), false)], []) else ([.agg [((.ints .i64 nilI), true), ((.int .i64 0), false), ((.int .i64 0), false), ((.int .i64 0), false), ((.int .i64 0), false)], .one ((.bool false), false)], []))) : CallSpec Try.prog impl_layoutOf.E :=
  callSpec_of (d := 0) hX (by kernel_rfl) impl_layoutOf.I_ok (by kernel_rfl) (by kernel_rfl) (by kernel_rfl) (fun _ _ _ _ h => by dsimp only [impl_layoutOf.E] at h; cases h) (fun xs hp => by
    dsimp only [impl_layoutOf.E] at hp ⊢
    split at hp
    · exact h _ hp
    · cases hp)
theorem impl_layoutOf.bad (fuel n : Nat) (sh : List Int) (k : Nat) (v : Int) (s0 s1 s2 z : Int) (hk : k < sh.length) (hv : sh[k]? = some v) (h : ¬ (0 ≤ v ∧ v ≤ 60)) :
    impl_layoutOf.L0 fuel (n + 1) (impl_layoutOf.t0 sh (k : Int) s0 s1 s2 z) (impl_layoutOf.k0 fuel) = some ([.agg [(.ints .i64 [], true), (.int .i64 0, false), (.int .i64 0, false), (.int .i64 0, false), (.int .i64 0, false)], .one (.bool false, false)], []) := by
  rw [impl_layoutOf.s0, decide_eq_true (by omega), idx_nat hk]
  simp only [cond_true, Option.bind_some, hv]
  by_cases h0 : v < 0
  · rw [decide_eq_true h0]; rfl
  · rw [decide_eq_false h0, decide_eq_true (by omega)]; rfl
theorem impl_layoutOf.good (fuel n : Nat) (sh : List Int) (k : Nat) (v : Int) (s0 s1 s2 z : Int) (hk : k < sh.length) (hv : sh[k]? = some v) (h : 0 ≤ v ∧ v ≤ 60) (hk3 : k < 3) :
    impl_layoutOf.L0 fuel (n + 1) (impl_layoutOf.t0 sh (k : Int) s0 s1 s2 z) (impl_layoutOf.k0 fuel) =
      impl_layoutOf.L0 fuel n (impl_layoutOf.t0 sh ((k : Int) - 1) (bif k == 0 then z else s0) (bif k == 1 then z else s1) (bif k == 2 then z else s2) (IntKind.wrap .i64 (z * v))) (impl_layoutOf.k0 fuel) := by
  rw [impl_layoutOf.s0, decide_eq_true (by omega), idx_nat hk]
  simp only [cond_true, Option.bind_some, hv]
  rw [decide_eq_false (p := v < 0) (by omega), decide_eq_false (p := v > 60) (by omega), wS (x := (k : Int) - 1) (by omega) (by omega)]
  simp only [cond_false]
  match k, hk3 with
  | 0, _ => rfl
  | 1, _ => rfl
  | 2, _ => rfl
theorem impl_layoutOf.last (fuel n : Nat) (sh : List Int) (i : Int) (s0 s1 s2 z : Int) (hi : i < 0) :
    impl_layoutOf.L0 fuel (n + 1) (impl_layoutOf.t0 sh i s0 s1 s2 z) (impl_layoutOf.k0 fuel) = 
      bif decide (z ≤ 60) then some ([.agg [(.ints .i64 sh, false), (.int .i64 s0, false), (.int .i64 s1, false), (.int .i64 s2, false), (.int .i64 z, false)], .one (.bool true, false)], [])
      else some ([.agg [(.ints .i64 [], true), (.int .i64 0, false), (.int .i64 0, false), (.int .i64 0, false), (.int .i64 0, false)], .one (.bool false, false)], []) := by
  rw [impl_layoutOf.s0, decide_eq_false (by omega)]
  simp only [cond_false]
  by_cases hz : z ≤ 60
  · rw [decide_eq_true hz, decide_eq_false (by omega)]; rfl
  · rw [decide_eq_false hz, decide_eq_true (by omega)]; rfl
theorem rng_dec {v : Int} (h : 0 ≤ v ∧ v ≤ 60) : (decide (0 ≤ v) && decide (v ≤ 60)) = true := by simp [h.1, h.2]
theorem rng_bad {v : Int} (h : ¬ (0 ≤ v ∧ v ≤ 60)) : (decide (0 ≤ v) && decide (v ≤ 60)) = false := by
  cases hb : (decide (0 ≤ v) && decide (v ≤ 60)) with
  | false => rfl
  | true => simp at hb; exact absurd hb h
theorem validS1 (a : Int) : validS [a] = ((decide (0 ≤ a) && decide (a ≤ 60)) && decide (IntKind.wrap .i64 (1 * a) ≤ 60)) := by
  simp only [validS, allB_cons, allB_nil, Bool.and_true, volW, volFrom]; rfl
theorem validS2 (a b : Int) : validS [a, b] = ((decide (0 ≤ a) && decide (a ≤ 60)) && (decide (0 ≤ b) && decide (b ≤ 60)) && decide (IntKind.wrap .i64 (IntKind.wrap .i64 (1 * a) * b) ≤ 60)) := by
  simp only [validS, allB_cons, allB_nil, Bool.and_true, volW, volFrom]; rfl
theorem validS3 (a b c : Int) : validS [a, b, c] = ((decide (0 ≤ a) && decide (a ≤ 60)) && ((decide (0 ≤ b) && decide (b ≤ 60)) && (decide (0 ≤ c) && decide (c ≤ 60))) && decide (IntKind.wrap .i64 (IntKind.wrap .i64 (IntKind.wrap .i64 (1 * a) * b) * c) ≤ 60)) := by
  simp only [validS, allB_cons, allB_nil, Bool.and_true, volW, volFrom]; rfl
theorem impl_layoutOf.ok : CallSpec Try.prog impl_layoutOf.E := impl_layoutOf.ok_of (by simp [impl_layoutOf.X]) fun sh h => by
  refine ⟨5, ?_⟩
  rw [impl_layoutOf.e]
  match sh with
  | [] => rw [show decide (((([] : List Int).length : Nat) : Int) > 3) = false from rfl, cond_false, impl_layoutOf.last _ _ _ _ _ _ _ _ (by decide)]; rfl
  | [a] =>
    rw [show decide (((([a] : List Int).length : Nat) : Int) > 3) = false from rfl, cond_false, show IntKind.wrap .i64 ((([a] : List Int).length : Nat) - 1) = ((0 : Nat) : Int) from rfl, validS1]
    by_cases h1 : 0 ≤ a ∧ a ≤ 60
    · rw [impl_layoutOf.good _ _ _ _ a _ _ _ _ (by simp) rfl h1 (by omega), impl_layoutOf.last _ _ _ _ _ _ _ _ (by decide), rng_dec h1, Int.one_mul, wS (x := a) (by omega) (by omega)]
      simp only [strd, volW, volFrom, Int.one_mul, wS (x := a) (by omega) (by omega)]
      cases decide (a ≤ 60) <;> rfl
    · rw [impl_layoutOf.bad _ _ _ _ a _ _ _ _ (by simp) rfl h1, rng_bad h1]; rfl
  | [a, b] =>
    rw [show decide (((([a, b] : List Int).length : Nat) : Int) > 3) = false from rfl, cond_false, show IntKind.wrap .i64 ((([a, b] : List Int).length : Nat) - 1) = ((1 : Nat) : Int) from rfl, validS2]
    by_cases h1 : 0 ≤ b ∧ b ≤ 60
    case neg => rw [impl_layoutOf.bad _ _ _ _ b _ _ _ _ (by simp) rfl h1, rng_bad h1, Bool.and_false]; rfl
    rw [impl_layoutOf.good _ _ _ _ b _ _ _ _ (by simp) rfl h1 (by omega), show (((1 : Nat) : Int) - 1) = ((0 : Nat) : Int) from rfl]
    by_cases h2 : 0 ≤ a ∧ a ≤ 60
    case neg => rw [impl_layoutOf.bad _ _ _ _ a _ _ _ _ (by simp) rfl h2, rng_bad h2]; rfl
    have hm := mul60 h2.1 h2.2 h1.1 h1.2
    rw [impl_layoutOf.good _ _ _ _ a _ _ _ _ (by simp) rfl h2 (by omega), impl_layoutOf.last _ _ _ _ _ _ _ _ (by decide), rng_dec h1, rng_dec h2, Int.one_mul, Int.one_mul, wS (x := a) (by omega) (by omega), wS (x := b) (by omega) (by omega), Int.mul_comm b a, wS (x := a * b) (by omega) (by omega)]
    simp only [strd, volW, volFrom, Int.one_mul, wS (x := a) (by omega) (by omega), wS (x := b) (by omega) (by omega), wS (x := a * b) (by omega) (by omega), List.drop_succ_cons, List.drop_zero]
    cases decide (a * b ≤ 60) <;> rfl
  | [a, b, c] =>
    rw [show decide (((([a, b, c] : List Int).length : Nat) : Int) > 3) = false from rfl, cond_false, show IntKind.wrap .i64 ((([a, b, c] : List Int).length : Nat) - 1) = ((2 : Nat) : Int) from rfl, validS3]
    by_cases h0 : 0 ≤ c ∧ c ≤ 60
    case neg => rw [impl_layoutOf.bad _ _ _ _ c _ _ _ _ (by simp) rfl h0, rng_bad h0, Bool.and_false, Bool.and_false]; rfl
    rw [impl_layoutOf.good _ _ _ _ c _ _ _ _ (by simp) rfl h0 (by omega), show (((2 : Nat) : Int) - 1) = ((1 : Nat) : Int) from rfl]
    by_cases h1 : 0 ≤ b ∧ b ≤ 60
    case neg => rw [impl_layoutOf.bad _ _ _ _ b _ _ _ _ (by simp) rfl h1, rng_bad h1, Bool.false_and, Bool.and_false]; rfl
    rw [impl_layoutOf.good _ _ _ _ b _ _ _ _ (by simp) rfl h1 (by omega), show (((1 : Nat) : Int) - 1) = ((0 : Nat) : Int) from rfl]
    by_cases h2 : 0 ≤ a ∧ a ≤ 60
    case neg => rw [impl_layoutOf.bad _ _ _ _ a _ _ _ _ (by simp) rfl h2, rng_bad h2]; rfl
    have hm := mul60 h2.1 h2.2 h1.1 h1.2
    have hm1 := mul60 h1.1 h1.2 h0.1 h0.2
    have hm3 := mul3600 hm.1 hm.2 h0.1 h0.2
    have hc : b * c * a = a * b * c := by rw [Int.mul_comm (b * c) a, Int.mul_assoc]
    rw [impl_layoutOf.good _ _ _ _ a _ _ _ _ (by simp) rfl h2 (by omega), impl_layoutOf.last _ _ _ _ _ _ _ _ (by decide), rng_dec h0, rng_dec h1, rng_dec h2, Int.one_mul, Int.one_mul, wS (x := a) (by omega) (by omega), wS (x := c) (by omega) (by omega), Int.mul_comm c b, wS (x := a * b) (by omega) (by omega), wS (x := b * c) (by omega) (by omega), hc, wS (x := a * b * c) (by omega) (by omega)]
    simp only [strd, volW, volFrom, Int.one_mul, wS (x := a) (by omega) (by omega), wS (x := b) (by omega) (by omega), wS (x := c) (by omega) (by omega), wS (x := a * b) (by omega) (by omega), wS (x := b * c) (by omega) (by omega), wS (x := a * b * c) (by omega) (by omega), List.drop_succ_cons, List.drop_zero]
    cases decide (a * b * c ≤ 60) <;> rfl
  | a :: b :: c :: d :: t =>
    have h1 : ((((a :: b :: c :: d :: t).length : Nat) : Int) > 3) := by simp; omega
    have h2 : ¬ ((((a :: b :: c :: d :: t).length : Nat) : Int) ≤ 3) := by omega
    have h3 : validS (a :: b :: c :: d :: t) = false := by unfold validS; rw [decide_eq_false h2]; rfl
    rw [decide_eq_true h1, h3]
    rfl

namespace impl_isNumber
noncomputable def E : Entry := ⟨32, true, false, fun | [.d (.int .i64 v)] => true | _ => false, fun | [.d (.int .i64 v)] => ([.one ((.bool (numB v)), false)], []) | _ => ([], []), fun _ => [], false, fun _ => none⟩
end impl_isNumber
namespace impl_isNumber
noncomputable def X : List Entry := []
noncomputable def I : List Inl := [⟨32, Try.f32, ⟨[], [], [], [], [], []⟩⟩]
theorem I_ok : ∀ i ∈ I, Try.prog.funcs[i.f]? = some i.fn ∧ (i.fn.name == "runtime.NumGoroutine") = false := by
  intro i hi
  simp only [I, List.mem_cons, List.not_mem_nil, or_false] at hi
  subst hi
  exact ⟨by kernel_rfl, by kernel_rfl⟩
theorem e (fuel : Nat) (p0 : Int) : runF Try.prog X I 0 fuel 32 Try.f32 [.d (.int .i64 p0)] =
  (bif (decide (((-1000000) : Int) ≤ p0)) then
  some ([.one ((.bool (decide ((p0 : Int) ≤ 1000000))), false)], [])
  else
  some ([.one ((.bool false), false)], [])) := by kernel_rfl
end impl_isNumber
theorem impl_isNumber.ok_of (hX : ∀ E ∈ impl_isNumber.X, CallSpec Try.prog E) (h : ∀ (v : Int), (true) = true → ∃ fuel, runF Try.prog impl_isNumber.X impl_isNumber.I 0 fuel 32 Try.f32 [.d (.int .i64 v)] = some ([.one ((.bool (numB v)), false)], [])) : CallSpec Try.prog impl_isNumber.E :=
  callSpec_of (d := 0) hX (by kernel_rfl) impl_isNumber.I_ok (by kernel_rfl) (by kernel_rfl) (by kernel_rfl) (fun _ _ _ _ h => by dsimp only [impl_isNumber.E] at h; cases h) (fun xs hp => by
    dsimp only [impl_isNumber.E] at hp ⊢
    split at hp
    · exact h _ hp
    · cases hp)
theorem impl_isNumber.ok : CallSpec Try.prog impl_isNumber.E := impl_isNumber.ok_of (by simp [impl_isNumber.X]) fun v _ => ⟨0, by
  rw [impl_isNumber.e]
  unfold numB
  cases decide (-1000000 ≤ v) <;> rfl⟩

namespace impl_ValidArray
noncomputable def E : Entry := ⟨13, true, false, fun | [.d (.agg [(.ints .i64 sh), (.ints .i64 da)])] => decide (sh.length < 9223372036854775808) && decide (da.length < 9223372036854775808) | _ => false, fun | [.d (.agg [(.ints .i64 sh), (.ints .i64 da)])] => ([.one ((.bool (validA sh da)), false)], []) | _ => ([], []), fun _ => [], false, fun _ => none⟩
end impl_ValidArray
namespace impl_ValidArray
noncomputable def X : List Entry := [impl_layoutOf.E, impl_isNumber.E]
noncomputable def I : List Inl := [⟨13, Try.f13, ⟨[10], [(1000005, [0, 1, 2, 3, 4, 5, 6, 7, 8, 9, 10, 11, 12, 13, 14, 15, 16, 17, 18, 19, 20, 21, 22, 23, 27, 28, 29, 30, 31, 32, 33])], [], [], [], []⟩⟩]
theorem I_ok : ∀ i ∈ I, Try.prog.funcs[i.f]? = some i.fn ∧ (i.fn.name == "runtime.NumGoroutine") = false := by
  intro i hi
  simp only [I, List.mem_cons, List.not_mem_nil, or_false] at hi
  subst hi
  exact ⟨by kernel_rfl, by kernel_rfl⟩
noncomputable abbrev L0 (fuel n : Nat) (s : St) (k : Kont) := lAt Try.prog X I fuel true 0 false 13 (bodyOf Try.f13) [1, 1, 1, 0, 1, 0] n s k
noncomputable abbrev k0  (fuel : Nat) : Kont := (kAt Try.prog X I fuel true 0 false 13 (bodyOf Try.f13) [1, 1, 1, 0, 1, 0] [] (endK Try.prog Try.f13))
noncomputable def t0 (p0q1 : List Int) (x0q2 : Int) : St := ⟨[.dead, .dead, .dead, .dead, .dead, .dead, .dead, .dead, .dead, .dead, .dead, .dead, .dead, .dead, .dead, .dead, .dead, .dead, .dead, .dead, .dead, .dead, .dead, .dead, (.imm (.ints .i64 p0q1)), (.imm (.int .i64 ((p0q1.length : Nat) : Int))), (.imm (.int .i64 x0q2)), .dead, .dead, .dead, .dead, .dead, .dead, .dead], hOf [], [], []⟩
theorem e (fuel : Nat) (p0q0 : List Int) (p0q1 : List Int) : runF Try.prog X I 0 fuel 13 Try.f13 [.d (.agg [(.ints .i64 p0q0), (.ints .i64 p0q1)])] =
  (bif decide (p0q0.length < 9223372036854775808) then
  (bif validS p0q0 then
  (bif ((((p0q1.length : Nat) : Int) : Int) != (volW p0q0)) then
  some ([.one ((.bool false), false)], [])
  else
  L0 fuel fuel (t0 p0q1 0) (k0  fuel))
  else
  some ([.one ((.bool false), false)], []))
  else
  none) := by kernel_rfl
theorem s0 (fuel n0 : Nat) (p0q1 : List Int) (x0q2 : Int) : L0 fuel (n0 + 1) (t0 p0q1 x0q2) (k0  fuel) =
  (bif (decide ((x0q2 : Int) < ((p0q1.length : Nat) : Int))) then
  (idx x0q2 p0q1.length).bind fun j5 =>
  (p0q1[j5]?).bind fun v6 =>
  (bif (!(numB v6)) then
  some ([.one ((.bool false), false)], [])
  else
  L0 fuel n0 (t0 p0q1 ((IntKind.wrap .i64 (x0q2 + 1)))) (k0  fuel))
  else
  some ([.one ((.bool true), false)], [])) := by kernel_rfl
end impl_ValidArray
theorem impl_ValidArray.ok_of (hX : ∀ E ∈ impl_ValidArray.X, CallSpec Try.prog E) (h : ∀ (sh : List Int) (da : List Int), (decide (sh.length < 9223372036854775808) && decide (da.length < 9223372036854775808)) = true → ∃ fuel, runF Try.prog impl_ValidArray.X impl_ValidArray.I 0 fuel 13 Try.f13 [.d (.agg [(.ints .i64 sh), (.ints .i64 da)])] = some ([.one ((.bool (validA sh da)), false)], [])) : CallSpec Try.prog impl_ValidArray.E :=
  callSpec_of (d := 0) hX (by kernel_rfl) impl_ValidArray.I_ok (by kernel_rfl) (by kernel_rfl) (by kernel_rfl) (fun _ _ _ _ h => by dsimp only [impl_ValidArray.E] at h; cases h) (fun xs hp => by
    dsimp only [impl_ValidArray.E] at hp ⊢
    split at hp
    · exact h _ _ hp
    · cases hp)
theorem impl_ValidArray.loop (fuel : Nat) (xs : List Int) (hx : xs.length < 9223372036854775808) : ∀ (m n j : Nat), xs.length - j = m → m < n → j ≤ xs.length →
    impl_ValidArray.L0 fuel n (impl_ValidArray.t0 xs (j : Int)) (impl_ValidArray.k0 fuel) = some ([.one (.bool (allB (xs.drop j) (-1000000) 1000000), false)], []) := by
  intro m
  induction m with
  | zero =>
    intro n j h1 h2 h3
    obtain ⟨n, rfl⟩ : ∃ n', n = n' + 1 := ⟨n - 1, by omega⟩
    have hj : ¬ j < xs.length := by omega
    rw [impl_ValidArray.s0, dge hj, dropE hj]
    rfl
  | succ m ih =>
    intro n j h1 h2 h3
    obtain ⟨n, rfl⟩ : ∃ n', n = n' + 1 := ⟨n - 1, by omega⟩
    have hj : j < xs.length := by omega
    rw [impl_ValidArray.s0, dlt hj, idx_nat hj, w1 (by omega), dropS hj]
    simp only [cond_true, Option.bind_some, getS hj, allB_cons, numB_eq]
    rw [ih n (j + 1) (by omega) (by omega) (by omega)]
    cases decide (-1000000 ≤ xs[j]) && decide (xs[j] ≤ 1000000) <;> rfl

theorem impl_ValidArray.ok : CallSpec Try.prog impl_ValidArray.E := impl_ValidArray.ok_of (by simp [impl_ValidArray.X, impl_layoutOf.ok, impl_isNumber.ok]) fun sh da h => by
  simp only [Bool.and_eq_true, decide_eq_true_eq] at h
  refine ⟨da.length + 1, ?_⟩
  rw [impl_ValidArray.e, lt_of h.1]
  have := impl_ValidArray.loop (da.length + 1) da h.2 da.length (da.length + 1) 0 (by omega) (by omega) (by omega)
  simp only [cond_true, List.drop_zero] at this ⊢
  rw [show ((0 : Nat) : Int) = 0 from rfl] at this
  rw [this]
  unfold validA
  cases validS sh
  · rfl
  · cases hb : (((da.length : Nat) : Int) == volW sh) with
    | true => simp [bne, hb]
    | false => simp [bne, hb]

namespace impl_copyList
noncomputable def E : Entry := ⟨25, false, false, fun | [.d (.ints .i64 xs)] => szB xs | _ => false, fun | [.d (.ints .i64 xs)] => ([.one ((.ints .i64 xs), true)], []) | _ => ([], []), fun _ => [], true, fun _ => none⟩
end impl_copyList
namespace impl_copyList
noncomputable def X : List Entry := []
noncomputable def I : List Inl := [⟨25, Try.f25, ⟨[], [], [], [], [], []⟩⟩]
theorem I_ok : ∀ i ∈ I, Try.prog.funcs[i.f]? = some i.fn ∧ (i.fn.name == "runtime.NumGoroutine") = false := by
  intro i hi
  simp only [I, List.mem_cons, List.not_mem_nil, or_false] at hi
  subst hi
  exact ⟨by kernel_rfl, by kernel_rfl⟩
theorem e (fuel : Nat) (p0 : List Int) : runF Try.prog X I 0 fuel 25 Try.f25 [.d (.ints .i64 p0)] =
  (bif decide (0 ≤ (((p0.length : Nat) : Int) : Int)) && decide ((((p0.length : Nat) : Int) : Int) ≤ ((p0.length : Nat) : Int)) && decide ((((p0.length : Nat) : Int) : Int) ≤ 1152921504606846976) && decide (((8 : Nat) : Int) * ((p0.length : Nat) : Int) ≤ 281474976710656) then
  some ([.one ((.ints .i64 (copyL (List.replicate (((p0.length : Nat) : Int)).toNat (0 : Int)) 0 (List.replicate (((p0.length : Nat) : Int)).toNat (0 : Int)).length p0)), true)], [])
  else
  none) := by kernel_rfl
end impl_copyList
theorem impl_copyList.ok_of (hX : ∀ E ∈ impl_copyList.X, CallSpec Try.prog E) (h : ∀ (xs : List Int), (szB xs) = true → ∃ fuel, runF Try.prog impl_copyList.X impl_copyList.I 0 fuel 25 Try.f25 [.d (.ints .i64 xs)] = some ([.one ((.ints .i64 xs), true)], [])) : CallSpec Try.prog impl_copyList.E :=
  callSpec_of (d := 0) hX (by kernel_rfl) impl_copyList.I_ok (by kernel_rfl) (by kernel_rfl) (by kernel_rfl) (fun _ _ _ _ h => by dsimp only [impl_copyList.E] at h; cases h) (fun xs hp => by
    dsimp only [impl_copyList.E] at hp ⊢
    split at hp
    · exact h _ hp
    · cases hp)
theorem impl_copyList.ok : CallSpec Try.prog impl_copyList.E := impl_copyList.ok_of (by simp [impl_copyList.X]) fun xs h => ⟨0, by
  have hx := szB_le h
  rw [impl_copyList.e, mkOk (by omega) (by omega)]
  simp only [cond_true, Int.toNat_natCast, copyL_all]⟩

namespace impl_MapArray
noncomputable def E : Entry := ⟨10, false, false, fun | [.d (.int .i64 fn), .d (.agg [(.ints .i64 sh), (.ints .i64 da)])] => decide (sh.length < 9223372036854775808) && decide (da.length < 9223372036854775808) | _ => false, fun | [.d (.int .i64 fn), .d (.agg [(.ints .i64 sh), (.ints .i64 da)])] => ([.agg [((.ints .i64 (mapS fn sh da)), true), ((.ints .i64 (mapD fn sh da)), true)]], []) | _ => ([], []), fun _ => [], true, fun _ => none⟩
end impl_MapArray
namespace impl_MapArray
noncomputable def X : List Entry := [impl_functionOfOne.E, impl_ValidArray.E, impl_functionOfOne_3.E, impl_copyList.E, impl_functionOfOne_2.E, impl_absolute.E, impl_functionOfOne_1.E]
noncomputable def I : List Inl := [⟨10, Try.f10, ⟨[40], [(1000006, [0, 1, 2, 7, 8, 9, 10, 11, 12, 13, 14, 15, 16, 17, 18, 19, 20, 21, 22, 23, 27, 28, 29, 30, 31, 32, 33, 34, 35, 36, 37, 38, 39, 40, 41, 42])], [], [], [], []⟩⟩]
theorem I_ok : ∀ i ∈ I, Try.prog.funcs[i.f]? = some i.fn ∧ (i.fn.name == "runtime.NumGoroutine") = false := by
  intro i hi
  simp only [I, List.mem_cons, List.not_mem_nil, or_false] at hi
  subst hi
  exact ⟨by kernel_rfl, by kernel_rfl⟩
noncomputable abbrev L0 (fuel n : Nat) (s : St) (k : Kont) := lAt Try.prog X I fuel true 0 false 10 (bodyOf Try.f10) [1, 1, 1, 1, 0, 1, 0] n s k
noncomputable abbrev k0  (fuel : Nat) : Kont := (kAt Try.prog X I fuel true 0 false 10 (bodyOf Try.f10) [1, 1, 1, 1, 0, 1, 0] [] (endK Try.prog Try.f10))
noncomputable def t0 (p1q1 : List Int) (p1q0 : List Int) (x0q2 : Int) (x0q5 : List Int) : St := ⟨[.dead, .dead, .dead, (.ptr 1000000000 0 0), (.ptr 1000000001 0 0), (.imm (.clo 51 [])), (.all 1000000002 1), .dead, .dead, .dead, .dead, .dead, .dead, .dead, .dead, .dead, .dead, .dead, .dead, .dead, .dead, .dead, .dead, .dead, (.imm (.ints .i64 p1q1)), (.imm (.int .i64 ((p1q1.length : Nat) : Int))), (.imm (.int .i64 x0q2)), .dead, .dead, .dead, .dead, .dead, .dead, .dead, .dead, .dead, .dead, .dead, .dead, .dead, .dead, .dead, .dead], hOf [(1000000000, (.box [(.imm (.ints .i64 p1q0)), (.imm (.ints .i64 p1q1))])), (1000000001, (.box [(.imm .nils), (.imm .nils)])), (1000000002, (.ints .i64 x0q5))], [], []⟩
noncomputable abbrev L1 (fuel n : Nat) (s : St) (k : Kont) := lAt Try.prog X I fuel true 0 false 10 (bodyOf Try.f10) [1, 1, 1, 1, 0, 1, 0] n s k
noncomputable abbrev k1  (fuel : Nat) : Kont := (kAt Try.prog X I fuel true 0 false 10 (bodyOf Try.f10) [1, 1, 1, 1, 0, 1, 0] [] (endK Try.prog Try.f10))
noncomputable def t1 (p1q1 : List Int) (p1q0 : List Int) (x1q2 : Int) (x1q5 : List Int) : St := ⟨[.dead, .dead, .dead, (.ptr 1000000000 0 0), (.ptr 1000000001 0 0), (.imm (.clo 49 [])), (.all 1000000002 1), .dead, .dead, .dead, .dead, .dead, .dead, .dead, .dead, .dead, .dead, .dead, .dead, .dead, .dead, .dead, .dead, .dead, (.imm (.ints .i64 p1q1)), (.imm (.int .i64 ((p1q1.length : Nat) : Int))), (.imm (.int .i64 x1q2)), .dead, .dead, .dead, .dead, .dead, .dead, .dead, .dead, .dead, .dead, .dead, .dead, .dead, .dead, .dead, .dead], hOf [(1000000000, (.box [(.imm (.ints .i64 p1q0)), (.imm (.ints .i64 p1q1))])), (1000000001, (.box [(.imm .nils), (.imm .nils)])), (1000000002, (.ints .i64 x1q5))], [], []⟩
noncomputable abbrev L2 (fuel n : Nat) (s : St) (k : Kont) := lAt Try.prog X I fuel true 0 false 10 (bodyOf Try.f10) [1, 1, 1, 1, 0, 1, 0] n s k
noncomputable abbrev k2  (fuel : Nat) : Kont := (kAt Try.prog X I fuel true 0 false 10 (bodyOf Try.f10) [1, 1, 1, 1, 0, 1, 0] [] (endK Try.prog Try.f10))
noncomputable def t2 (p1q1 : List Int) (p1q0 : List Int) (x2q2 : Int) (x2q5 : List Int) : St := ⟨[.dead, .dead, .dead, (.ptr 1000000000 0 0), (.ptr 1000000001 0 0), (.imm (.clo 48 [])), (.all 1000000002 1), .dead, .dead, .dead, .dead, .dead, .dead, .dead, .dead, .dead, .dead, .dead, .dead, .dead, .dead, .dead, .dead, .dead, (.imm (.ints .i64 p1q1)), (.imm (.int .i64 ((p1q1.length : Nat) : Int))), (.imm (.int .i64 x2q2)), .dead, .dead, .dead, .dead, .dead, .dead, .dead, .dead, .dead, .dead, .dead, .dead, .dead, .dead, .dead, .dead], hOf [(1000000000, (.box [(.imm (.ints .i64 p1q0)), (.imm (.ints .i64 p1q1))])), (1000000001, (.box [(.imm .nils), (.imm .nils)])), (1000000002, (.ints .i64 x2q5))], [], []⟩
noncomputable abbrev L3 (fuel n : Nat) (s : St) (k : Kont) := lAt Try.prog X I fuel true 0 false 10 (bodyOf Try.f10) [1, 1, 1, 1, 0, 1, 0] n s k
noncomputable abbrev k3  (fuel : Nat) : Kont := (kAt Try.prog X I fuel true 0 false 10 (bodyOf Try.f10) [1, 1, 1, 1, 0, 1, 0] [] (endK Try.prog Try.f10))
noncomputable def t3 (p1q1 : List Int) (p1q0 : List Int) (x3q2 : Int) (x3q5 : List Int) : St := ⟨[.dead, .dead, .dead, (.ptr 1000000000 0 0), (.ptr 1000000001 0 0), (.imm (.clo 47 [])), (.all 1000000002 1), .dead, .dead, .dead, .dead, .dead, .dead, .dead, .dead, .dead, .dead, .dead, .dead, .dead, .dead, .dead, .dead, .dead, (.imm (.ints .i64 p1q1)), (.imm (.int .i64 ((p1q1.length : Nat) : Int))), (.imm (.int .i64 x3q2)), .dead, .dead, .dead, .dead, .dead, .dead, .dead, .dead, .dead, .dead, .dead, .dead, .dead, .dead, .dead, .dead], hOf [(1000000000, (.box [(.imm (.ints .i64 p1q0)), (.imm (.ints .i64 p1q1))])), (1000000001, (.box [(.imm .nils), (.imm .nils)])), (1000000002, (.ints .i64 x3q5))], [], []⟩
theorem e (fuel : Nat) (p0 : Int) (p1q0 : List Int) (p1q1 : List Int) : runF Try.prog X I 0 fuel 10 Try.f10 [.d (.int .i64 p0), .d (.agg [(.ints .i64 p1q0), (.ints .i64 p1q1)])] =
  (bif decide (p0 = 1) then
  (bif decide (p1q0.length < 9223372036854775808) && decide (p1q1.length < 9223372036854775808) then
  (bif (!(validA p1q0 p1q1)) then
  some ([.agg [((.ints .i64 []), true), ((.ints .i64 []), true)]], [])
  else
  (bif decide (0 ≤ (((p1q1.length : Nat) : Int) : Int)) && decide ((((p1q1.length : Nat) : Int) : Int) ≤ ((p1q1.length : Nat) : Int)) && decide ((((p1q1.length : Nat) : Int) : Int) ≤ 1152921504606846976) && decide (((8 : Nat) : Int) * ((p1q1.length : Nat) : Int) ≤ 281474976710656) then
  L3 fuel fuel (t3 p1q1 p1q0 0 ((List.replicate (((p1q1.length : Nat) : Int)).toNat (0 : Int)))) (k3  fuel)
  else
  none))
  else
  none)
  else
  (bif decide (p0 = 2) then
  (bif decide (p1q0.length < 9223372036854775808) && decide (p1q1.length < 9223372036854775808) then
  (bif (!(validA p1q0 p1q1)) then
  some ([.agg [((.ints .i64 []), true), ((.ints .i64 []), true)]], [])
  else
  (bif decide (0 ≤ (((p1q1.length : Nat) : Int) : Int)) && decide ((((p1q1.length : Nat) : Int) : Int) ≤ ((p1q1.length : Nat) : Int)) && decide ((((p1q1.length : Nat) : Int) : Int) ≤ 1152921504606846976) && decide (((8 : Nat) : Int) * ((p1q1.length : Nat) : Int) ≤ 281474976710656) then
  L2 fuel fuel (t2 p1q1 p1q0 0 ((List.replicate (((p1q1.length : Nat) : Int)).toNat (0 : Int)))) (k2  fuel)
  else
  none))
  else
  none)
  else
  (bif decide (p0 = 3) then
  (bif decide (p1q0.length < 9223372036854775808) && decide (p1q1.length < 9223372036854775808) then
  (bif (!(validA p1q0 p1q1)) then
  some ([.agg [((.ints .i64 []), true), ((.ints .i64 []), true)]], [])
  else
  (bif decide (0 ≤ (((p1q1.length : Nat) : Int) : Int)) && decide ((((p1q1.length : Nat) : Int) : Int) ≤ ((p1q1.length : Nat) : Int)) && decide ((((p1q1.length : Nat) : Int) : Int) ≤ 1152921504606846976) && decide (((8 : Nat) : Int) * ((p1q1.length : Nat) : Int) ≤ 281474976710656) then
  L1 fuel fuel (t1 p1q1 p1q0 0 ((List.replicate (((p1q1.length : Nat) : Int)).toNat (0 : Int)))) (k1  fuel)
  else
  none))
  else
  none)
  else
  (bif decide (p0 = 4) then
  (bif decide (p1q0.length < 9223372036854775808) && decide (p1q1.length < 9223372036854775808) then
  (bif (!(validA p1q0 p1q1)) then
  some ([.agg [((.ints .i64 []), true), ((.ints .i64 []), true)]], [])
  else
  (bif decide (0 ≤ (((p1q1.length : Nat) : Int) : Int)) && decide ((((p1q1.length : Nat) : Int) : Int) ≤ ((p1q1.length : Nat) : Int)) && decide ((((p1q1.length : Nat) : Int) : Int) ≤ 1152921504606846976) && decide (((8 : Nat) : Int) * ((p1q1.length : Nat) : Int) ≤ 281474976710656) then
  L0 fuel fuel (t0 p1q1 p1q0 0 ((List.replicate (((p1q1.length : Nat) : Int)).toNat (0 : Int)))) (k0  fuel)
  else
  none))
  else
  none)
  else
  some ([.agg [((.ints .i64 []), true), ((.ints .i64 []), true)]], []))))) := by kernel_rfl
theorem s0 (fuel n0 : Nat) (p1q1 : List Int) (p1q0 : List Int) (x0q2 : Int) (x0q5 : List Int) : L0 fuel (n0 + 1) (t0 p1q1 p1q0 x0q2 x0q5) (k0  fuel) =
  (bif (decide ((x0q2 : Int) < ((p1q1.length : Nat) : Int))) then
  (idx x0q2 p1q1.length).bind fun j7 =>
  (p1q1[j7]?).bind fun v8 =>
  (idx x0q2 x0q5.length).bind fun j9 =>
  (bif decide (j9 < x0q5.length) then
  L0 fuel n0 (t0 p1q1 p1q0 ((IntKind.wrap .i64 (x0q2 + 1))) ((x0q5.set j9 (tInt (v8 == 0))))) (k0  fuel)
  else
  none)
  else
  (bif szB p1q0 then
  some ([.agg [((.ints .i64 p1q0), true), ((.ints .i64 x0q5), true)]], [])
  else
  none)) := by kernel_rfl
theorem s1 (fuel n1 : Nat) (p1q1 : List Int) (p1q0 : List Int) (x1q2 : Int) (x1q5 : List Int) : L1 fuel (n1 + 1) (t1 p1q1 p1q0 x1q2 x1q5) (k1  fuel) =
  (bif (decide ((x1q2 : Int) < ((p1q1.length : Nat) : Int))) then
  (idx x1q2 p1q1.length).bind fun j16 =>
  (p1q1[j16]?).bind fun v17 =>
  (idx x1q2 x1q5.length).bind fun j18 =>
  (bif decide (j18 < x1q5.length) then
  L1 fuel n1 (t1 p1q1 p1q0 ((IntKind.wrap .i64 (x1q2 + 1))) ((x1q5.set j18 (sgnV v17)))) (k1  fuel)
  else
  none)
  else
  (bif szB p1q0 then
  some ([.agg [((.ints .i64 p1q0), true), ((.ints .i64 x1q5), true)]], [])
  else
  none)) := by kernel_rfl
theorem s2 (fuel n2 : Nat) (p1q1 : List Int) (p1q0 : List Int) (x2q2 : Int) (x2q5 : List Int) : L2 fuel (n2 + 1) (t2 p1q1 p1q0 x2q2 x2q5) (k2  fuel) =
  (bif (decide ((x2q2 : Int) < ((p1q1.length : Nat) : Int))) then
  (idx x2q2 p1q1.length).bind fun j25 =>
  (p1q1[j25]?).bind fun v26 =>
  (idx x2q2 x2q5.length).bind fun j27 =>
  (bif decide (j27 < x2q5.length) then
  L2 fuel n2 (t2 p1q1 p1q0 ((IntKind.wrap .i64 (x2q2 + 1))) ((x2q5.set j27 (absV v26)))) (k2  fuel)
  else
  none)
  else
  (bif szB p1q0 then
  some ([.agg [((.ints .i64 p1q0), true), ((.ints .i64 x2q5), true)]], [])
  else
  none)) := by kernel_rfl
theorem s3 (fuel n3 : Nat) (p1q1 : List Int) (p1q0 : List Int) (x3q2 : Int) (x3q5 : List Int) : L3 fuel (n3 + 1) (t3 p1q1 p1q0 x3q2 x3q5) (k3  fuel) =
  (bif (decide ((x3q2 : Int) < ((p1q1.length : Nat) : Int))) then
  (idx x3q2 p1q1.length).bind fun j34 =>
  (p1q1[j34]?).bind fun v35 =>
  (idx x3q2 x3q5.length).bind fun j36 =>
  (bif decide (j36 < x3q5.length) then
  L3 fuel n3 (t3 p1q1 p1q0 ((IntKind.wrap .i64 (x3q2 + 1))) ((x3q5.set j36 (IntKind.wrap .i64 (0 - v35))))) (k3  fuel)
  else
  none)
  else
  (bif szB p1q0 then
  some ([.agg [((.ints .i64 p1q0), true), ((.ints .i64 x3q5), true)]], [])
  else
  none)) := by kernel_rfl
end impl_MapArray
theorem impl_MapArray.ok_of (hX : ∀ E ∈ impl_MapArray.X, CallSpec Try.prog E) (h : ∀ (fn : Int) (sh : List Int) (da : List Int), (decide (sh.length < 9223372036854775808) && decide (da.length < 9223372036854775808)) = true → ∃ fuel, runF Try.prog impl_MapArray.X impl_MapArray.I 0 fuel 10 Try.f10 [.d (.int .i64 fn), .d (.agg [(.ints .i64 sh), (.ints .i64 da)])] = some ([.agg [((.ints .i64 (mapS fn sh da)), true), ((.ints .i64 (mapD fn sh da)), true)]], [])) : CallSpec Try.prog impl_MapArray.E :=
  callSpec_of (d := 0) hX (by kernel_rfl) impl_MapArray.I_ok (by kernel_rfl) (by kernel_rfl) (by kernel_rfl) (fun _ _ _ _ h => by dsimp only [impl_MapArray.E] at h; cases h) (fun xs hp => by
    dsimp only [impl_MapArray.E] at hp ⊢
    split at hp
    · exact h _ _ _ hp
    · cases hp)
theorem impl_MapArray.loop3 (fuel : Nat) (sh da : List Int) (hv : validA sh da = true) : ∀ (m n j : Nat) (out : List Int), da.length - j = m → m < n → j ≤ da.length → out.length = da.length → out.take j = tab j (fun i => mapF 1 (da.getD i 0)) →
    impl_MapArray.L3 fuel n (impl_MapArray.t3 da sh (j : Int) out) (impl_MapArray.k3 fuel) = some ([.agg [(.ints .i64 (mapS 1 sh da), true), (.ints .i64 (mapD 1 sh da), true)]], []) := by
  have hl := validA_len hv
  intro m
  induction m with
  | zero =>
    intro n j out h1 h2 h3 h4 h5
    obtain ⟨n, rfl⟩ : ∃ n', n = n' + 1 := ⟨n - 1, by omega⟩
    have e1 := fill_end (n := da.length) h4 (by rw [show j = da.length by omega] at h5; exact h5)
    rw [impl_MapArray.s3, dge (by omega), szB_of (xs := sh) (by omega), e1]
    simp [mapS, mapD, mapB, fnOk, hv]
  | succ m ih =>
    intro n j out h1 h2 h3 h4 h5
    obtain ⟨n, rfl⟩ : ∃ n', n = n' + 1 := ⟨n - 1, by omega⟩
    have hj : j < da.length := by omega
    have hj2 : j < out.length := by omega
    rw [impl_MapArray.s3, dlt hj, idx_nat hj, idx_nat hj2, w1 (by omega)]
    simp only [cond_true, Option.bind_some, getS hj, hj2, decide_true]
    have e2 := fill_step (f := fun i => mapF 1 (da.getD i 0)) hj h4 h5
    have e3 : mapF 1 (da.getD j 0) = (fun n => IntKind.wrap .i64 (0 - n)) da[j] := by
      have : da.getD j 0 = da[j] := by simp [hj]
      rw [this]
      rfl
    rw [e3] at e2
    exact ih n (j + 1) _ (by omega) (by omega) (by omega) (by simpa using h4) e2
theorem impl_MapArray.loop2 (fuel : Nat) (sh da : List Int) (hv : validA sh da = true) : ∀ (m n j : Nat) (out : List Int), da.length - j = m → m < n → j ≤ da.length → out.length = da.length → out.take j = tab j (fun i => mapF 2 (da.getD i 0)) →
    impl_MapArray.L2 fuel n (impl_MapArray.t2 da sh (j : Int) out) (impl_MapArray.k2 fuel) = some ([.agg [(.ints .i64 (mapS 2 sh da), true), (.ints .i64 (mapD 2 sh da), true)]], []) := by
  have hl := validA_len hv
  intro m
  induction m with
  | zero =>
    intro n j out h1 h2 h3 h4 h5
    obtain ⟨n, rfl⟩ : ∃ n', n = n' + 1 := ⟨n - 1, by omega⟩
    have e1 := fill_end (n := da.length) h4 (by rw [show j = da.length by omega] at h5; exact h5)
    rw [impl_MapArray.s2, dge (by omega), szB_of (xs := sh) (by omega), e1]
    simp [mapS, mapD, mapB, fnOk, hv]
  | succ m ih =>
    intro n j out h1 h2 h3 h4 h5
    obtain ⟨n, rfl⟩ : ∃ n', n = n' + 1 := ⟨n - 1, by omega⟩
    have hj : j < da.length := by omega
    have hj2 : j < out.length := by omega
    rw [impl_MapArray.s2, dlt hj, idx_nat hj, idx_nat hj2, w1 (by omega)]
    simp only [cond_true, Option.bind_some, getS hj, hj2, decide_true]
    have e2 := fill_step (f := fun i => mapF 2 (da.getD i 0)) hj h4 h5
    have e3 : mapF 2 (da.getD j 0) = (absV) da[j] := by
      have : da.getD j 0 = da[j] := by simp [hj]
      rw [this]
      rfl
    rw [e3] at e2
    exact ih n (j + 1) _ (by omega) (by omega) (by omega) (by simpa using h4) e2
theorem impl_MapArray.loop1 (fuel : Nat) (sh da : List Int) (hv : validA sh da = true) : ∀ (m n j : Nat) (out : List Int), da.length - j = m → m < n → j ≤ da.length → out.length = da.length → out.take j = tab j (fun i => mapF 3 (da.getD i 0)) →
    impl_MapArray.L1 fuel n (impl_MapArray.t1 da sh (j : Int) out) (impl_MapArray.k1 fuel) = some ([.agg [(.ints .i64 (mapS 3 sh da), true), (.ints .i64 (mapD 3 sh da), true)]], []) := by
  have hl := validA_len hv
  intro m
  induction m with
  | zero =>
    intro n j out h1 h2 h3 h4 h5
    obtain ⟨n, rfl⟩ : ∃ n', n = n' + 1 := ⟨n - 1, by omega⟩
    have e1 := fill_end (n := da.length) h4 (by rw [show j = da.length by omega] at h5; exact h5)
    rw [impl_MapArray.s1, dge (by omega), szB_of (xs := sh) (by omega), e1]
    simp [mapS, mapD, mapB, fnOk, hv]
  | succ m ih =>
    intro n j out h1 h2 h3 h4 h5
    obtain ⟨n, rfl⟩ : ∃ n', n = n' + 1 := ⟨n - 1, by omega⟩
    have hj : j < da.length := by omega
    have hj2 : j < out.length := by omega
    rw [impl_MapArray.s1, dlt hj, idx_nat hj, idx_nat hj2, w1 (by omega)]
    simp only [cond_true, Option.bind_some, getS hj, hj2, decide_true]
    have e2 := fill_step (f := fun i => mapF 3 (da.getD i 0)) hj h4 h5
    have e3 : mapF 3 (da.getD j 0) = (sgnV) da[j] := by
      have : da.getD j 0 = da[j] := by simp [hj]
      rw [this]
      rfl
    rw [e3] at e2
    exact ih n (j + 1) _ (by omega) (by omega) (by omega) (by simpa using h4) e2
theorem impl_MapArray.loop0 (fuel : Nat) (sh da : List Int) (hv : validA sh da = true) : ∀ (m n j : Nat) (out : List Int), da.length - j = m → m < n → j ≤ da.length → out.length = da.length → out.take j = tab j (fun i => mapF 4 (da.getD i 0)) →
    impl_MapArray.L0 fuel n (impl_MapArray.t0 da sh (j : Int) out) (impl_MapArray.k0 fuel) = some ([.agg [(.ints .i64 (mapS 4 sh da), true), (.ints .i64 (mapD 4 sh da), true)]], []) := by
  have hl := validA_len hv
  intro m
  induction m with
  | zero =>
    intro n j out h1 h2 h3 h4 h5
    obtain ⟨n, rfl⟩ : ∃ n', n = n' + 1 := ⟨n - 1, by omega⟩
    have e1 := fill_end (n := da.length) h4 (by rw [show j = da.length by omega] at h5; exact h5)
    rw [impl_MapArray.s0, dge (by omega), szB_of (xs := sh) (by omega), e1]
    simp [mapS, mapD, mapB, fnOk, hv]
  | succ m ih =>
    intro n j out h1 h2 h3 h4 h5
    obtain ⟨n, rfl⟩ : ∃ n', n = n' + 1 := ⟨n - 1, by omega⟩
    have hj : j < da.length := by omega
    have hj2 : j < out.length := by omega
    rw [impl_MapArray.s0, dlt hj, idx_nat hj, idx_nat hj2, w1 (by omega)]
    simp only [cond_true, Option.bind_some, getS hj, hj2, decide_true]
    have e2 := fill_step (f := fun i => mapF 4 (da.getD i 0)) hj h4 h5
    have e3 : mapF 4 (da.getD j 0) = (fun n => tInt (n == 0)) da[j] := by
      have : da.getD j 0 = da[j] := by simp [hj]
      rw [this]
      rfl
    rw [e3] at e2
    exact ih n (j + 1) _ (by omega) (by omega) (by omega) (by simpa using h4) e2
theorem impl_MapArray.ok : CallSpec Try.prog impl_MapArray.E := impl_MapArray.ok_of (by simp [impl_MapArray.X, impl_functionOfOne.ok, impl_ValidArray.ok, impl_functionOfOne_1.ok, impl_functionOfOne_2.ok, impl_functionOfOne_3.ok, impl_absolute.ok, impl_copyList.ok]) fun fn sh da h => by
  refine ⟨da.length + 1, ?_⟩
  rw [impl_MapArray.e, h]
  cases hf : fnOk fn with
  | false =>
    have hn := fnOk_no hf
    rw [decide_eq_false (p := fn = 1) (by omega), decide_eq_false (p := fn = 2) (by omega), decide_eq_false (p := fn = 3) (by omega), decide_eq_false (p := fn = 4) (by omega)]
    simp [mapS, mapD, mapB, hf]
  | true =>
    cases hv : validA sh da with
    | false => rcases fnOk_cases hf with rfl | rfl | rfl | rfl <;> simp [mapS, mapD, mapB, hv]
    | true =>
      have hl := validA_len hv
      have hm := mkOk (n := ((da.length : Nat) : Int)) (by omega) (by omega)
      rcases fnOk_cases hf with rfl | rfl | rfl | rfl
      · rw [hm]
        exact impl_MapArray.loop3 (da.length + 1) sh da hv da.length (da.length + 1) 0 _ (by omega) (by omega) (by omega) (by simp) (by simp [tab])
      · rw [hm]
        exact impl_MapArray.loop2 (da.length + 1) sh da hv da.length (da.length + 1) 0 _ (by omega) (by omega) (by omega) (by simp) (by simp [tab])
      · rw [hm]
        exact impl_MapArray.loop1 (da.length + 1) sh da hv da.length (da.length + 1) 0 _ (by omega) (by omega) (by omega) (by simp) (by simp [tab])
      · rw [hm]
        exact impl_MapArray.loop0 (da.length + 1) sh da hv da.length (da.length + 1) 0 _ (by omega) (by omega) (by omega) (by simp) (by simp [tab])

namespace spec_inRange
noncomputable def E : Entry := ⟨53, true, false, fun | [.d (.int .i64 v), .d (.int .i64 lo), .d (.int .i64 hi)] => true | _ => false, fun | [.d (.int .i64 v), .d (.int .i64 lo), .d (.int .i64 hi)] => ([.one ((.bool (decide (lo ≤ v) && decide (v ≤ hi))), false)], []) | _ => ([], []), fun _ => [], false, fun _ => none⟩
end spec_inRange
namespace spec_inRange
noncomputable def X : List Entry := []
noncomputable def I : List Inl := [⟨53, Try.f53, ⟨[], [], [], [], [], []⟩⟩]
theorem I_ok : ∀ i ∈ I, Try.prog.funcs[i.f]? = some i.fn ∧ (i.fn.name == "runtime.NumGoroutine") = false := by
  intro i hi
  simp only [I, List.mem_cons, List.not_mem_nil, or_false] at hi
  subst hi
  exact ⟨by kernel_rfl, by kernel_rfl⟩
theorem e (fuel : Nat) (p0 : Int) (p1 : Int) (p2 : Int) : runF Try.prog X I 0 fuel 53 Try.f53 [.d (.int .i64 p0), .d (.int .i64 p1), .d (.int .i64 p2)] =
  (bif (decide ((p1 : Int) ≤ p0)) then
  some ([.one ((.bool (decide ((p0 : Int) ≤ p2))), false)], [])
  else
  some ([.one ((.bool false), false)], [])) := by kernel_rfl
end spec_inRange
theorem spec_inRange.ok_of (hX : ∀ E ∈ spec_inRange.X, CallSpec Try.prog E) (h : ∀ (v : Int) (lo : Int) (hi : Int), (true) = true → ∃ fuel, runF Try.prog spec_inRange.X spec_inRange.I 0 fuel 53 Try.f53 [.d (.int .i64 v), .d (.int .i64 lo), .d (.int .i64 hi)] = some ([.one ((.bool (decide (lo ≤ v) && decide (v ≤ hi))), false)], [])) : CallSpec Try.prog spec_inRange.E :=
  callSpec_of (d := 0) hX (by kernel_rfl) spec_inRange.I_ok (by kernel_rfl) (by kernel_rfl) (by kernel_rfl) (fun _ _ _ _ h => by dsimp only [spec_inRange.E] at h; cases h) (fun xs hp => by
    dsimp only [spec_inRange.E] at hp ⊢
    split at hp
    · exact h _ _ _ hp
    · cases hp)
theorem spec_inRange.ok : CallSpec Try.prog spec_inRange.E := spec_inRange.ok_of (by simp [spec_inRange.X]) fun v lo hi _ => ⟨0, by
  rw [spec_inRange.e]
  cases decide (lo ≤ v) <;> rfl⟩

namespace spec_validFn
noncomputable def E : Entry := ⟨27, true, false, fun | [.d (.int .i64 fn)] => true | _ => false, fun | [.d (.int .i64 fn)] => ([.one ((.bool (fnOk fn)), false)], []) | _ => ([], []), fun _ => [], false, fun _ => none⟩
end spec_validFn
namespace spec_validFn
noncomputable def X : List Entry := [spec_inRange.E]
noncomputable def I : List Inl := [⟨27, Try.f27, ⟨[], [], [], [], [], []⟩⟩]
theorem I_ok : ∀ i ∈ I, Try.prog.funcs[i.f]? = some i.fn ∧ (i.fn.name == "runtime.NumGoroutine") = false := by
  intro i hi
  simp only [I, List.mem_cons, List.not_mem_nil, or_false] at hi
  subst hi
  exact ⟨by kernel_rfl, by kernel_rfl⟩
theorem e (fuel : Nat) (p0 : Int) : runF Try.prog X I 0 fuel 27 Try.f27 [.d (.int .i64 p0)] =
  some ([.one ((.bool (decide (1 ≤ p0) && decide (p0 ≤ 4))), false)], []) := by kernel_rfl
end spec_validFn
theorem spec_validFn.ok_of (hX : ∀ E ∈ spec_validFn.X, CallSpec Try.prog E) (h : ∀ (fn : Int), (true) = true → ∃ fuel, runF Try.prog spec_validFn.X spec_validFn.I 0 fuel 27 Try.f27 [.d (.int .i64 fn)] = some ([.one ((.bool (fnOk fn)), false)], [])) : CallSpec Try.prog spec_validFn.E :=
  callSpec_of (d := 0) hX (by kernel_rfl) spec_validFn.I_ok (by kernel_rfl) (by kernel_rfl) (by kernel_rfl) (fun _ _ _ _ h => by dsimp only [spec_validFn.E] at h; cases h) (fun xs hp => by
    dsimp only [spec_validFn.E] at hp ⊢
    split at hp
    · exact h _ hp
    · cases hp)
theorem spec_validFn.ok : CallSpec Try.prog spec_validFn.E := spec_validFn.ok_of (by simp [spec_validFn.X, spec_inRange.ok]) fun fn _ => ⟨0, by rw [spec_validFn.e]; rfl⟩

namespace spec_allIn
noncomputable def E : Entry := ⟨56, true, false, fun | [.d (.ints .i64 xs), .d (.int .i64 lo), .d (.int .i64 hi)] => decide (xs.length < 9223372036854775808) | _ => false, fun | [.d (.ints .i64 xs), .d (.int .i64 lo), .d (.int .i64 hi)] => ([.one ((.bool (allB xs lo hi)), false)], []) | _ => ([], []), fun _ => [], false, fun _ => none⟩
end spec_allIn
namespace spec_allIn
noncomputable def X : List Entry := [spec_inRange.E]
noncomputable def I : List Inl := [⟨56, Try.f56, ⟨[], [(1000002, [3, 4, 5, 6, 8, 9, 10, 11, 12, 13, 14, 15, 16, 17, 18, 19, 20, 21])], [], [], [], []⟩⟩]
theorem I_ok : ∀ i ∈ I, Try.prog.funcs[i.f]? = some i.fn ∧ (i.fn.name == "runtime.NumGoroutine") = false := by
  intro i hi
  simp only [I, List.mem_cons, List.not_mem_nil, or_false] at hi
  subst hi
  exact ⟨by kernel_rfl, by kernel_rfl⟩
noncomputable abbrev L0 (fuel n : Nat) (s : St) (k : Kont) := lAt Try.prog X I fuel true 0 false 56 (bodyOf Try.f56) [1, 0, 1, 0] n s k
noncomputable abbrev k0  (fuel : Nat) : Kont := (kAt Try.prog X I fuel true 0 false 56 (bodyOf Try.f56) [1, 0, 1, 0] [] (endK Try.prog Try.f56))
noncomputable def t0 (p0 : List Int) (p1 : Int) (p2 : Int) (x0q3 : Int) : St := ⟨[(.imm (.ints .i64 p0)), (.imm (.int .i64 p1)), (.imm (.int .i64 p2)), .dead, .dead, .dead, .dead, (.imm (.int .i64 x0q3)), .dead, .dead, .dead, .dead, .dead, .dead, .dead, .dead, .dead, .dead, .dead, .dead, .dead, .dead], hOf [], [], []⟩
theorem e (fuel : Nat) (p0 : List Int) (p1 : Int) (p2 : Int) : runF Try.prog X I 0 fuel 56 Try.f56 [.d (.ints .i64 p0), .d (.int .i64 p1), .d (.int .i64 p2)] =
  L0 fuel fuel (t0 p0 p1 p2 0) (k0  fuel) := by kernel_rfl
theorem s0 (fuel n0 : Nat) (p0 : List Int) (p1 : Int) (p2 : Int) (x0q3 : Int) : L0 fuel (n0 + 1) (t0 p0 p1 p2 x0q3) (k0  fuel) =
  (bif (decide ((x0q3 : Int) < ((p0.length : Nat) : Int))) then
  (idx x0q3 p0.length).bind fun j5 =>
  (p0[j5]?).bind fun v6 =>
  (bif (!(decide (p1 ≤ v6) && decide (v6 ≤ p2))) then
  some ([.one ((.bool false), false)], [])
  else
  L0 fuel n0 (t0 p0 p1 p2 ((IntKind.wrap .i64 (x0q3 + 1)))) (k0  fuel))
  else
  some ([.one ((.bool true), false)], [])) := by kernel_rfl
end spec_allIn
theorem spec_allIn.ok_of (hX : ∀ E ∈ spec_allIn.X, CallSpec Try.prog E) (h : ∀ (xs : List Int) (lo : Int) (hi : Int), (decide (xs.length < 9223372036854775808)) = true → ∃ fuel, runF Try.prog spec_allIn.X spec_allIn.I 0 fuel 56 Try.f56 [.d (.ints .i64 xs), .d (.int .i64 lo), .d (.int .i64 hi)] = some ([.one ((.bool (allB xs lo hi)), false)], [])) : CallSpec Try.prog spec_allIn.E :=
  callSpec_of (d := 0) hX (by kernel_rfl) spec_allIn.I_ok (by kernel_rfl) (by kernel_rfl) (by kernel_rfl) (fun _ _ _ _ h => by dsimp only [spec_allIn.E] at h; cases h) (fun xs hp => by
    dsimp only [spec_allIn.E] at hp ⊢
    split at hp
    · exact h _ _ _ hp
    · cases hp)
theorem spec_allIn.loop (fuel : Nat) (xs : List Int) (lo hi : Int) (hx : xs.length < 9223372036854775808) : ∀ (m n j : Nat), xs.length - j = m → m < n → j ≤ xs.length →
    spec_allIn.L0 fuel n (spec_allIn.t0 xs lo hi (j : Int)) (spec_allIn.k0 fuel) = some ([.one (.bool (allB (xs.drop j) lo hi), false)], []) := by
  intro m
  induction m with
  | zero =>
    intro n j h1 h2 h3
    obtain ⟨n, rfl⟩ : ∃ n', n = n' + 1 := ⟨n - 1, by omega⟩
    have hj : ¬ j < xs.length := by omega
    rw [spec_allIn.s0, dge hj, dropE hj]
    rfl
  | succ m ih =>
    intro n j h1 h2 h3
    obtain ⟨n, rfl⟩ : ∃ n', n = n' + 1 := ⟨n - 1, by omega⟩
    have hj : j < xs.length := by omega
    rw [spec_allIn.s0, dlt hj, idx_nat hj, w1 (by omega), dropS hj]
    simp only [cond_true, Option.bind_some, getS hj, allB_cons]
    rw [ih n (j + 1) (by omega) (by omega) (by omega)]
    cases decide (lo ≤ xs[j]) && decide (xs[j] ≤ hi) <;> rfl

theorem spec_allIn.ok : CallSpec Try.prog spec_allIn.E := spec_allIn.ok_of (by simp [spec_allIn.X, spec_inRange.ok]) fun xs lo hi h => by
  simp only [decide_eq_true_eq] at h
  refine ⟨xs.length + 1, ?_⟩
  rw [spec_allIn.e]
  exact spec_allIn.loop (xs.length + 1) xs lo hi h xs.length (xs.length + 1) 0 (by omega) (by omega) (by omega)

namespace spec_validShape
noncomputable def E : Entry := ⟨54, true, false, fun | [.d (.ints .i64 sh)] => decide (sh.length < 9223372036854775808) | _ => false, fun | [.d (.ints .i64 sh)] => ([.one ((.bool (validS sh)), false)], []) | _ => ([], []), fun _ => [], false, fun _ => none⟩
end spec_validShape
namespace spec_validShape
noncomputable def X : List Entry := [spec_allIn.E, spec_volume.E]
noncomputable def I : List Inl := [⟨54, Try.f54, ⟨[], [], [], [], [], []⟩⟩]
theorem I_ok : ∀ i ∈ I, Try.prog.funcs[i.f]? = some i.fn ∧ (i.fn.name == "runtime.NumGoroutine") = false := by
  intro i hi
  simp only [I, List.mem_cons, List.not_mem_nil, or_false] at hi
  subst hi
  exact ⟨by kernel_rfl, by kernel_rfl⟩
theorem e (fuel : Nat) (p0 : List Int) : runF Try.prog X I 0 fuel 54 Try.f54 [.d (.ints .i64 p0)] =
  (bif (decide ((((p0.length : Nat) : Int) : Int) ≤ 3)) then
  (bif decide (p0.length < 9223372036854775808) then
  (bif (allB p0 0 60) then
  (bif decide (p0.length < 9223372036854775808) then
  some ([.one ((.bool (decide (((volW p0) : Int) ≤ 60))), false)], [])
  else
  none)
  else
  some ([.one ((.bool false), false)], []))
  else
  none)
  else
  some ([.one ((.bool false), false)], [])) := by kernel_rfl
end spec_validShape
theorem spec_validShape.ok_of (hX : ∀ E ∈ spec_validShape.X, CallSpec Try.prog E) (h : ∀ (sh : List Int), (decide (sh.length < 9223372036854775808)) = true → ∃ fuel, runF Try.prog spec_validShape.X spec_validShape.I 0 fuel 54 Try.f54 [.d (.ints .i64 sh)] = some ([.one ((.bool (validS sh)), false)], [])) : CallSpec Try.prog spec_validShape.E :=
  callSpec_of (d := 0) hX (by kernel_rfl) spec_validShape.I_ok (by kernel_rfl) (by kernel_rfl) (by kernel_rfl) (fun _ _ _ _ h => by dsimp only [spec_validShape.E] at h; cases h) (fun xs hp => by
    dsimp only [spec_validShape.E] at hp ⊢
    split at hp
    · exact h _ hp
    · cases hp)
theorem spec_validShape.ok : CallSpec Try.prog spec_validShape.E := spec_validShape.ok_of (by simp [spec_validShape.X, spec_allIn.ok, spec_volume.ok]) fun sh h => ⟨0, by
  rw [spec_validShape.e, h]
  unfold validS
  cases decide (((sh.length : Nat) : Int) ≤ 3) <;> cases allB sh 0 60 <;> rfl⟩

namespace spec_valid
noncomputable def E : Entry := ⟨28, true, false, fun | [.d (.agg [(.ints .i64 sh), (.ints .i64 da)])] => decide (sh.length < 9223372036854775808) && decide (da.length < 9223372036854775808) | _ => false, fun | [.d (.agg [(.ints .i64 sh), (.ints .i64 da)])] => ([.one ((.bool (validA sh da)), false)], []) | _ => ([], []), fun _ => [], false, fun _ => none⟩
end spec_valid
namespace spec_valid
noncomputable def X : List Entry := [spec_validShape.E, spec_volume.E, spec_allIn.E]
noncomputable def I : List Inl := [⟨28, Try.f28, ⟨[], [], [], [(1, [0, 1, 2, 3, 4, 7, 5, 6, 8, 9, 10, 11, 12, 13, 14, 15, 16, 17])], [], []⟩⟩]
theorem I_ok : ∀ i ∈ I, Try.prog.funcs[i.f]? = some i.fn ∧ (i.fn.name == "runtime.NumGoroutine") = false := by
  intro i hi
  simp only [I, List.mem_cons, List.not_mem_nil, or_false] at hi
  subst hi
  exact ⟨by kernel_rfl, by kernel_rfl⟩
theorem e (fuel : Nat) (p0q0 : List Int) (p0q1 : List Int) : runF Try.prog X I 0 fuel 28 Try.f28 [.d (.agg [(.ints .i64 p0q0), (.ints .i64 p0q1)])] =
  (bif decide (p0q0.length < 9223372036854775808) then
  (bif (validS p0q0) then
  (bif decide (p0q0.length < 9223372036854775808) then
  (bif ((((p0q1.length : Nat) : Int) : Int) == (volW p0q0)) then
  (bif decide (p0q1.length < 9223372036854775808) then
  some ([.one ((.bool (allB p0q1 ((-1000000)) 1000000)), false)], [])
  else
  none)
  else
  some ([.one ((.bool false), false)], []))
  else
  none)
  else
  some ([.one ((.bool false), false)], []))
  else
  none) := by kernel_rfl
end spec_valid
theorem spec_valid.ok_of (hX : ∀ E ∈ spec_valid.X, CallSpec Try.prog E) (h : ∀ (sh : List Int) (da : List Int), (decide (sh.length < 9223372036854775808) && decide (da.length < 9223372036854775808)) = true → ∃ fuel, runF Try.prog spec_valid.X spec_valid.I 0 fuel 28 Try.f28 [.d (.agg [(.ints .i64 sh), (.ints .i64 da)])] = some ([.one ((.bool (validA sh da)), false)], [])) : CallSpec Try.prog spec_valid.E :=
  callSpec_of (d := 0) hX (by kernel_rfl) spec_valid.I_ok (by kernel_rfl) (by kernel_rfl) (by kernel_rfl) (fun _ _ _ _ h => by dsimp only [spec_valid.E] at h; cases h) (fun xs hp => by
    dsimp only [spec_valid.E] at hp ⊢
    split at hp
    · exact h _ _ hp
    · cases hp)
theorem spec_valid.ok : CallSpec Try.prog spec_valid.E := spec_valid.ok_of (by simp [spec_valid.X, spec_validShape.ok, spec_volume.ok, spec_allIn.ok]) fun sh da h => ⟨0, by
  simp only [Bool.and_eq_true] at h
  rw [spec_valid.e, h.1, h.2]
  unfold validA
  cases validS sh <;> cases (((da.length : Nat) : Int) == volW sh) <;> rfl⟩

namespace spec_toInt
noncomputable def E : Entry := ⟨57, true, false, fun | [.d (.bool b)] => true | _ => false, fun | [.d (.bool b)] => ([.one ((.int .i64 (tInt b)), false)], []) | _ => ([], []), fun _ => [], false, fun _ => none⟩
end spec_toInt
namespace spec_toInt
noncomputable def X : List Entry := []
noncomputable def I : List Inl := [⟨57, Try.f57, ⟨[], [], [], [], [], []⟩⟩]
theorem I_ok : ∀ i ∈ I, Try.prog.funcs[i.f]? = some i.fn ∧ (i.fn.name == "runtime.NumGoroutine") = false := by
  intro i hi
  simp only [I, List.mem_cons, List.not_mem_nil, or_false] at hi
  subst hi
  exact ⟨by kernel_rfl, by kernel_rfl⟩
theorem e (fuel : Nat) (p0 : Bool) : runF Try.prog X I 0 fuel 57 Try.f57 [.d (.bool p0)] =
  (bif p0 then
  some ([.one ((.int .i64 1), false)], [])
  else
  some ([.one ((.int .i64 0), false)], [])) := by kernel_rfl
end spec_toInt
theorem spec_toInt.ok_of (hX : ∀ E ∈ spec_toInt.X, CallSpec Try.prog E) (h : ∀ (b : Bool), (true) = true → ∃ fuel, runF Try.prog spec_toInt.X spec_toInt.I 0 fuel 57 Try.f57 [.d (.bool b)] = some ([.one ((.int .i64 (tInt b)), false)], [])) : CallSpec Try.prog spec_toInt.E :=
  callSpec_of (d := 0) hX (by kernel_rfl) spec_toInt.I_ok (by kernel_rfl) (by kernel_rfl) (by kernel_rfl) (fun _ _ _ _ h => by dsimp only [spec_toInt.E] at h; cases h) (fun xs hp => by
    dsimp only [spec_toInt.E] at hp ⊢
    split at hp
    · exact h _ hp
    · cases hp)
theorem spec_toInt.ok : CallSpec Try.prog spec_toInt.E := spec_toInt.ok_of (by simp [spec_toInt.X]) fun b _ => ⟨0, by rw [spec_toInt.e]; cases b <;> rfl⟩

namespace spec_change
noncomputable def E : Entry := ⟨29, true, false, fun | [.d (.int .i64 fn), .d (.int .i64 n)] => true | _ => false, fun | [.d (.int .i64 fn), .d (.int .i64 n)] => ([.one ((.int .i64 (mapF fn n)), false)], []) | _ => ([], []), fun _ => [], false, fun _ => none⟩
end spec_change
namespace spec_change
noncomputable def X : List Entry := [spec_toInt.E]
noncomputable def I : List Inl := [⟨29, Try.f29, ⟨[], [], [], [], [], []⟩⟩]
theorem I_ok : ∀ i ∈ I, Try.prog.funcs[i.f]? = some i.fn ∧ (i.fn.name == "runtime.NumGoroutine") = false := by
  intro i hi
  simp only [I, List.mem_cons, List.not_mem_nil, or_false] at hi
  subst hi
  exact ⟨by kernel_rfl, by kernel_rfl⟩
theorem e (fuel : Nat) (p0 : Int) (p1 : Int) : runF Try.prog X I 0 fuel 29 Try.f29 [.d (.int .i64 p0), .d (.int .i64 p1)] =
  (bif ((p0 : Int) == 1) then
  some ([.one ((.int .i64 (IntKind.wrap .i64 (0 - p1))), false)], [])
  else
  (bif ((p0 : Int) == 2) then
  some ([.one ((.int .i64 (maxI p1 (IntKind.wrap .i64 (0 - p1)))), false)], [])
  else
  (bif ((p0 : Int) == 3) then
  some ([.one ((.int .i64 (IntKind.wrap .i64 ((tInt ((decide ((p1 : Int) > 0)))) - (tInt ((decide ((p1 : Int) < 0))))))), false)], [])
  else
  some ([.one ((.int .i64 (tInt (((p1 : Int) == 0)))), false)], [])))) := by kernel_rfl
end spec_change
theorem spec_change.ok_of (hX : ∀ E ∈ spec_change.X, CallSpec Try.prog E) (h : ∀ (fn : Int) (n : Int), (true) = true → ∃ fuel, runF Try.prog spec_change.X spec_change.I 0 fuel 29 Try.f29 [.d (.int .i64 fn), .d (.int .i64 n)] = some ([.one ((.int .i64 (mapF fn n)), false)], [])) : CallSpec Try.prog spec_change.E :=
  callSpec_of (d := 0) hX (by kernel_rfl) spec_change.I_ok (by kernel_rfl) (by kernel_rfl) (by kernel_rfl) (fun _ _ _ _ h => by dsimp only [spec_change.E] at h; cases h) (fun xs hp => by
    dsimp only [spec_change.E] at hp ⊢
    split at hp
    · exact h _ _ hp
    · cases hp)
theorem spec_change.ok : CallSpec Try.prog spec_change.E := spec_change.ok_of (by simp [spec_change.X, spec_toInt.ok]) fun fn n _ => ⟨0, by
  rw [spec_change.e, sgn_sub]
  unfold mapF absV
  cases fn == 1 <;> cases fn == 2 <;> cases fn == 3 <;> rfl⟩

namespace spec_MapArray
noncomputable def E : Entry := ⟨12, false, false, fun | [.d (.int .i64 fn), .d (.agg [(.ints .i64 sh), (.ints .i64 da)])] => decide (sh.length < 9223372036854775808) && decide (da.length < 9223372036854775808) | _ => false, fun | [.d (.int .i64 fn), .d (.agg [(.ints .i64 sh), (.ints .i64 da)])] => ([.agg [((.ints .i64 (mapS fn sh da)), true), ((.ints .i64 (mapD fn sh da)), true)]], []) | _ => ([], []), fun _ => [], true, fun _ => none⟩
end spec_MapArray
namespace spec_MapArray
noncomputable def X : List Entry := [spec_validFn.E, spec_valid.E, spec_change.E, spec_make1.E]
noncomputable def I : List Inl := [⟨12, Try.f12, ⟨[37], [(1000005, [1, 2, 7, 8, 9, 10, 11, 12, 13, 14, 15, 16, 17, 18, 19, 20, 21, 22, 23, 24, 25, 26, 27, 28, 29, 30, 31, 32, 33, 34, 35, 36, 37])], [], [], [], []⟩⟩]
theorem I_ok : ∀ i ∈ I, Try.prog.funcs[i.f]? = some i.fn ∧ (i.fn.name == "runtime.NumGoroutine") = false := by
  intro i hi
  simp only [I, List.mem_cons, List.not_mem_nil, or_false] at hi
  subst hi
  exact ⟨by kernel_rfl, by kernel_rfl⟩
noncomputable abbrev L0 (fuel n : Nat) (s : St) (k : Kont) := lAt Try.prog X I fuel true 0 false 12 (bodyOf Try.f12) [1, 1, 1, 0, 1, 0] n s k
noncomputable abbrev k0  (fuel : Nat) : Kont := (kAt Try.prog X I fuel true 0 false 12 (bodyOf Try.f12) [1, 1, 1, 0, 1, 0] [] (endK Try.prog Try.f12))
noncomputable def t0 (p0 : Int) (p1q0 : List Int) (p1q1 : List Int) (x0q1 : Int) (x0q4 : List Int) : St := ⟨[(.imm (.int .i64 p0)), .dead, .dead, (.ptr 1000000000 0 0), (.ptr 1000000001 0 0), (.all 1000000002 1), (.imm (.int .i64 x0q1)), .dead, .dead, .dead, .dead, .dead, .dead, .dead, .dead, .dead, .dead, .dead, .dead, .dead, .dead, .dead, .dead, .dead, .dead, .dead, .dead, .dead, .dead, .dead, .dead, .dead, .dead, .dead, .dead, .dead, .dead, .dead], hOf [(1000000000, (.box [(.imm (.ints .i64 p1q0)), (.imm (.ints .i64 p1q1))])), (1000000001, (.box [(.imm .nils), (.imm .nils)])), (1000000002, (.ints .i64 x0q4))], [], []⟩
theorem e (fuel : Nat) (p0 : Int) (p1q0 : List Int) (p1q1 : List Int) : runF Try.prog X I 0 fuel 12 Try.f12 [.d (.int .i64 p0), .d (.agg [(.ints .i64 p1q0), (.ints .i64 p1q1)])] =
  (bif (!(fnOk p0)) then
  some ([.agg [((.ints .i64 []), true), ((.ints .i64 []), true)]], [])
  else
  (bif decide (p1q0.length < 9223372036854775808) && decide (p1q1.length < 9223372036854775808) then
  (bif (!(validA p1q0 p1q1)) then
  some ([.agg [((.ints .i64 []), true), ((.ints .i64 []), true)]], [])
  else
  L0 fuel fuel (t0 p0 p1q0 p1q1 0 ([])) (k0  fuel))
  else
  none)) := by kernel_rfl
theorem s0 (fuel n0 : Nat) (p0 : Int) (p1q0 : List Int) (p1q1 : List Int) (x0q1 : Int) (x0q4 : List Int) : L0 fuel (n0 + 1) (t0 p0 p1q0 p1q1 x0q1 x0q4) (k0  fuel) =
  (bif (decide ((x0q1 : Int) < ((p1q1.length : Nat) : Int))) then
  (idx x0q1 p1q1.length).bind fun j5 =>
  (p1q1[j5]?).bind fun v6 =>
  (bif fits (x0q4.length + ([(mapF p0 v6)] : List Int).length) 8 then
  L0 fuel n0 (t0 p0 p1q0 p1q1 ((IntKind.wrap .i64 (x0q1 + 1))) ((x0q4 ++ [(mapF p0 v6)]))) (k0  fuel)
  else
  none)
  else
  (bif szB p1q0 && szB x0q4 then
  some ([.agg [((.ints .i64 p1q0), true), ((.ints .i64 x0q4), true)]], [])
  else
  none)) := by kernel_rfl
end spec_MapArray
theorem spec_MapArray.ok_of (hX : ∀ E ∈ spec_MapArray.X, CallSpec Try.prog E) (h : ∀ (fn : Int) (sh : List Int) (da : List Int), (decide (sh.length < 9223372036854775808) && decide (da.length < 9223372036854775808)) = true → ∃ fuel, runF Try.prog spec_MapArray.X spec_MapArray.I 0 fuel 12 Try.f12 [.d (.int .i64 fn), .d (.agg [(.ints .i64 sh), (.ints .i64 da)])] = some ([.agg [((.ints .i64 (mapS fn sh da)), true), ((.ints .i64 (mapD fn sh da)), true)]], [])) : CallSpec Try.prog spec_MapArray.E :=
  callSpec_of (d := 0) hX (by kernel_rfl) spec_MapArray.I_ok (by kernel_rfl) (by kernel_rfl) (by kernel_rfl) (fun _ _ _ _ h => by dsimp only [spec_MapArray.E] at h; cases h) (fun xs hp => by
    dsimp only [spec_MapArray.E] at hp ⊢
    split at hp
    · exact h _ _ _ hp
    · cases hp)
theorem spec_MapArray.loop (fuel : Nat) (fn : Int) (sh da : List Int) (hf : fnOk fn = true) (hv : validA sh da = true) : ∀ (m n j : Nat) (out : List Int), da.length - j = m → m < n → j ≤ da.length → out = tab j (fun i => mapF fn (da.getD i 0)) →
    spec_MapArray.L0 fuel n (spec_MapArray.t0 fn sh da (j : Int) out) (spec_MapArray.k0 fuel) = some ([.agg [(.ints .i64 (mapS fn sh da), true), (.ints .i64 (mapD fn sh da), true)]], []) := by
  have hl := validA_len hv
  intro m
  induction m with
  | zero =>
    intro n j out h1 h2 h3 h4
    obtain ⟨n, rfl⟩ : ∃ n', n = n' + 1 := ⟨n - 1, by omega⟩
    have ho : out.length = j := by rw [h4, tab_length]
    rw [spec_MapArray.s0, dge (by omega), szB_of (xs := sh) (by omega), szB_of (xs := out) (by omega), h4, show j = da.length by omega]
    simp [mapS, mapD, mapB, hf, hv]
  | succ m ih =>
    intro n j out h1 h2 h3 h4
    obtain ⟨n, rfl⟩ : ∃ n', n = n' + 1 := ⟨n - 1, by omega⟩
    have ho : out.length = j := by rw [h4, tab_length]
    have hj : j < da.length := by omega
    rw [spec_MapArray.s0, dlt hj, idx_nat hj, w1 (by omega)]
    simp only [cond_true, Option.bind_some, getS hj]
    rw [fitsOk (by simp; omega)]
    simp only [cond_true]
    exact ih n (j + 1) _ (by omega) (by omega) (by omega) (by rw [tab_succ, h4]; simp [hj])
theorem spec_MapArray.ok : CallSpec Try.prog spec_MapArray.E := spec_MapArray.ok_of (by simp [spec_MapArray.X, spec_validFn.ok, spec_valid.ok, spec_change.ok, spec_make1.ok]) fun fn sh da h => by
  refine ⟨da.length + 1, ?_⟩
  rw [spec_MapArray.e, h]
  cases hf : fnOk fn with
  | false => simp [mapS, mapD, mapB, hf]
  | true =>
    cases hv : validA sh da with
    | false => simp [mapS, mapD, mapB, hv]
    | true => exact spec_MapArray.loop (da.length + 1) fn sh da hf hv da.length (da.length + 1) 0 [] (by omega) (by omega) (by omega) rfl

namespace laws_equalInts
noncomputable def E : Entry := ⟨26, true, false, fun | [.d (.ints .i64 xs), .d (.ints .i64 ys)] => decide (xs.length < 9223372036854775808) && decide (ys.length < 9223372036854775808) | _ => false, fun | [.d (.ints .i64 xs), .d (.ints .i64 ys)] => ([.one ((.bool (decide (xs = ys))), false)], []) | _ => ([], []), fun _ => [], false, fun _ => none⟩
end laws_equalInts
namespace laws_equalInts
noncomputable def X : List Entry := []
noncomputable def I : List Inl := [⟨26, Try.f26, ⟨[], [(1000004, [2, 3, 4, 6, 7, 8, 9, 10, 11, 12, 13, 14, 15, 16, 17, 18, 19, 20, 21, 22, 23, 24, 25])], [], [(6, [0, 1, 4, 5, 2, 3, 6, 7, 8])], [], []⟩⟩]
theorem I_ok : ∀ i ∈ I, Try.prog.funcs[i.f]? = some i.fn ∧ (i.fn.name == "runtime.NumGoroutine") = false := by
  intro i hi
  simp only [I, List.mem_cons, List.not_mem_nil, or_false] at hi
  subst hi
  exact ⟨by kernel_rfl, by kernel_rfl⟩
noncomputable abbrev L0 (fuel n : Nat) (s : St) (k : Kont) := lAt Try.prog X I fuel true 0 false 26 (bodyOf Try.f26) [1, 1, 0, 1, 0] n s k
noncomputable abbrev k0  (fuel : Nat) : Kont := (kAt Try.prog X I fuel true 0 false 26 (bodyOf Try.f26) [1, 1, 0, 1, 0] [] (endK Try.prog Try.f26))
noncomputable def t0 (p0 : List Int) (p1 : List Int) (x0q2 : Int) : St := ⟨[(.imm (.ints .i64 p0)), (.imm (.ints .i64 p1)), .dead, .dead, .dead, (.imm (.int .i64 x0q2)), .dead, .dead, .dead, .dead, .dead, .dead, .dead, .dead, .dead, .dead, .dead, .dead, .dead, .dead, .dead, .dead, .dead, .dead, .dead, .dead], hOf [], [], []⟩
theorem e (fuel : Nat) (p0 : List Int) (p1 : List Int) : runF Try.prog X I 0 fuel 26 Try.f26 [.d (.ints .i64 p0), .d (.ints .i64 p1)] =
  (bif ((((p0.length : Nat) : Int) : Int) != ((p1.length : Nat) : Int)) then
  some ([.one ((.bool false), false)], [])
  else
  L0 fuel fuel (t0 p0 p1 0) (k0  fuel)) := by kernel_rfl
theorem s0 (fuel n0 : Nat) (p0 : List Int) (p1 : List Int) (x0q2 : Int) : L0 fuel (n0 + 1) (t0 p0 p1 x0q2) (k0  fuel) =
  (bif (decide ((x0q2 : Int) < ((p0.length : Nat) : Int))) then
  (idx x0q2 p0.length).bind fun j9 =>
  (p0[j9]?).bind fun v10 =>
  (idx x0q2 p1.length).bind fun j11 =>
  (p1[j11]?).bind fun v12 =>
  (bif ((v10 : Int) != v12) then
  some ([.one ((.bool false), false)], [])
  else
  L0 fuel n0 (t0 p0 p1 ((IntKind.wrap .i64 (x0q2 + 1)))) (k0  fuel))
  else
  some ([.one ((.bool true), false)], [])) := by kernel_rfl
end laws_equalInts
theorem laws_equalInts.ok_of (hX : ∀ E ∈ laws_equalInts.X, CallSpec Try.prog E) (h : ∀ (xs : List Int) (ys : List Int), (decide (xs.length < 9223372036854775808) && decide (ys.length < 9223372036854775808)) = true → ∃ fuel, runF Try.prog laws_equalInts.X laws_equalInts.I 0 fuel 26 Try.f26 [.d (.ints .i64 xs), .d (.ints .i64 ys)] = some ([.one ((.bool (decide (xs = ys))), false)], [])) : CallSpec Try.prog laws_equalInts.E :=
  callSpec_of (d := 0) hX (by kernel_rfl) laws_equalInts.I_ok (by kernel_rfl) (by kernel_rfl) (by kernel_rfl) (fun _ _ _ _ h => by dsimp only [laws_equalInts.E] at h; cases h) (fun xs hp => by
    dsimp only [laws_equalInts.E] at hp ⊢
    split at hp
    · exact h _ _ hp
    · cases hp)
theorem laws_equalInts.loop (fuel : Nat) (xs ys : List Int) (hl : xs.length = ys.length) (hx : xs.length < 9223372036854775808) : ∀ (m n j : Nat), xs.length - j = m → m < n → j ≤ xs.length →
    laws_equalInts.L0 fuel n (laws_equalInts.t0 xs ys (j : Int)) (laws_equalInts.k0 fuel) = some ([.one (.bool (decide (xs.drop j = ys.drop j)), false)], []) := by
  intro m
  induction m with
  | zero =>
    intro n j h1 h2 h3
    obtain ⟨n, rfl⟩ : ∃ n', n = n' + 1 := ⟨n - 1, by omega⟩
    have hj : ¬ j < xs.length := by omega
    rw [laws_equalInts.s0, dge hj, dropE hj, dropE (xs := ys) (by omega)]
    rfl
  | succ m ih =>
    intro n j h1 h2 h3
    obtain ⟨n, rfl⟩ : ∃ n', n = n' + 1 := ⟨n - 1, by omega⟩
    have hj : j < xs.length := by omega
    have hj2 : j < ys.length := by omega
    rw [laws_equalInts.s0, dlt hj, idx_nat hj, idx_nat hj2, w1 (by omega), dropS hj, dropS hj2]
    simp only [cond_true, Option.bind_some, getS hj, getS hj2]
    rw [ih n (j + 1) (by omega) (by omega) (by omega)]
    by_cases hv : xs[j] = ys[j]
    · rw [hv]
      simp only [bne_self_eq_false, cond_false, List.cons.injEq, true_and]
    · have : (xs[j] != ys[j]) = true := by simp [hv]
      rw [this]
      simp only [cond_true, List.cons.injEq, hv, false_and, decide_false]

theorem laws_equalInts.ok : CallSpec Try.prog laws_equalInts.E := laws_equalInts.ok_of (by simp [laws_equalInts.X]) fun xs ys h => by
  simp only [Bool.and_eq_true, decide_eq_true_eq] at h
  refine ⟨xs.length + 1, ?_⟩
  rw [laws_equalInts.e]
  by_cases hl : xs.length = ys.length
  · have := laws_equalInts.loop (xs.length + 1) xs ys hl h.1 xs.length (xs.length + 1) 0 (by omega) (by omega) (by omega)
    simp only [List.drop_zero] at this
    simp only [hl, bne_self_eq_false, cond_false]
    rw [← hl]
    exact this
  · have hne : xs ≠ ys := fun e => hl (e ▸ rfl)
    have : (((xs.length : Nat) : Int) != ((ys.length : Nat) : Int)) = true := by simp; omega
    rw [this]
    simp [hne]

namespace laws_equalArray
noncomputable def E : Entry := ⟨11, true, false, fun | [.d (.agg [(.ints .i64 sa), (.ints .i64 da)]), .d (.agg [(.ints .i64 sb), (.ints .i64 db)])] => decide (sa.length < 9223372036854775808) && decide (da.length < 9223372036854775808) && decide (sb.length < 9223372036854775808) && decide (db.length < 9223372036854775808) | _ => false, fun | [.d (.agg [(.ints .i64 sa), (.ints .i64 da)]), .d (.agg [(.ints .i64 sb), (.ints .i64 db)])] => ([.one ((.bool (decide (sa = sb) && decide (da = db))), false)], []) | _ => ([], []), fun _ => [], false, fun _ => none⟩
end laws_equalArray
namespace laws_equalArray
noncomputable def X : List Entry := [laws_equalInts.E]
noncomputable def I : List Inl := [⟨11, Try.f11, ⟨[], [], [], [], [], []⟩⟩]
theorem I_ok : ∀ i ∈ I, Try.prog.funcs[i.f]? = some i.fn ∧ (i.fn.name == "runtime.NumGoroutine") = false := by
  intro i hi
  simp only [I, List.mem_cons, List.not_mem_nil, or_false] at hi
  subst hi
  exact ⟨by kernel_rfl, by kernel_rfl⟩
theorem e (fuel : Nat) (p0q0 : List Int) (p0q1 : List Int) (p1q0 : List Int) (p1q1 : List Int) : runF Try.prog X I 0 fuel 11 Try.f11 [.d (.agg [(.ints .i64 p0q0), (.ints .i64 p0q1)]), .d (.agg [(.ints .i64 p1q0), (.ints .i64 p1q1)])] =
  (bif decide (p0q0.length < 9223372036854775808) && decide (p1q0.length < 9223372036854775808) then
  (bif (decide (p0q0 = p1q0)) then
  (bif decide (p0q1.length < 9223372036854775808) && decide (p1q1.length < 9223372036854775808) then
  some ([.one ((.bool (decide (p0q1 = p1q1))), false)], [])
  else
  none)
  else
  some ([.one ((.bool false), false)], []))
  else
  none) := by kernel_rfl
end laws_equalArray
theorem laws_equalArray.ok_of (hX : ∀ E ∈ laws_equalArray.X, CallSpec Try.prog E) (h : ∀ (sa : List Int) (da : List Int) (sb : List Int) (db : List Int), (decide (sa.length < 9223372036854775808) && decide (da.length < 9223372036854775808) && decide (sb.length < 9223372036854775808) && decide (db.length < 9223372036854775808)) = true → ∃ fuel, runF Try.prog laws_equalArray.X laws_equalArray.I 0 fuel 11 Try.f11 [.d (.agg [(.ints .i64 sa), (.ints .i64 da)]), .d (.agg [(.ints .i64 sb), (.ints .i64 db)])] = some ([.one ((.bool (decide (sa = sb) && decide (da = db))), false)], [])) : CallSpec Try.prog laws_equalArray.E :=
  callSpec_of (d := 0) hX (by kernel_rfl) laws_equalArray.I_ok (by kernel_rfl) (by kernel_rfl) (by kernel_rfl) (fun _ _ _ _ h => by dsimp only [laws_equalArray.E] at h; cases h) (fun xs hp => by
    dsimp only [laws_equalArray.E] at hp ⊢
    split at hp
    · exact h _ _ _ _ hp
    · cases hp)
theorem laws_equalArray.ok : CallSpec Try.prog laws_equalArray.E := laws_equalArray.ok_of (by simp [laws_equalArray.X, laws_equalInts.ok]) fun sa da sb db h => ⟨0, by
  simp only [Bool.and_eq_true, decide_eq_true_eq] at h
  obtain ⟨⟨⟨h1, h2⟩, h3⟩, h4⟩ := h
  rw [laws_equalArray.e]
  simp only [h1, h2, h3, h4, decide_true, Bool.and_self, cond_true]
  cases decide (sa = sb) <;> cases decide (da = db) <;> rfl⟩

namespace laws_FnMapArraySize
noncomputable def E : Entry := ⟨3, true, false, fun | [.d (.ints .u8 bs)] => bytesB bs | _ => false, fun | [.d (.ints .u8 bs)] => ([.one ((.bool true), false)], []) | _ => ([], []), fun _ => [], false, fun _ => none⟩
end laws_FnMapArraySize
namespace laws_FnMapArraySize
noncomputable def X : List Entry := [spec_DrawMapArray.E, impl_MapArray.E, spec_MapArray.E, laws_equalArray.E, impl_ValidArray.E]
noncomputable def I : List Inl := [⟨3, Try.f3, ⟨[13, 18, 22, 33, 36, 51, 52], [(1000009, [0, 1, 2, 3, 5, 8, 9, 10, 11, 12, 13, 14, 15, 16, 17, 18, 19, 20, 21, 22, 23, 24, 25, 26, 27, 28, 29, 30, 31, 32, 33, 34, 35, 36, 37, 38, 39, 40, 41, 42, 43, 44, 45, 46, 47, 48, 49, 50, 51, 52, 53, 54, 55, 56, 57, 58])], [], [(5, [1, 0, 2, 3, 4, 5, 6, 7, 8, 9, 10]), (6, [1, 0, 2, 3, 4, 5]), (13, [0, 3, 1, 2, 4, 5, 6, 7, 8, 9])], [], []⟩⟩]
theorem I_ok : ∀ i ∈ I, Try.prog.funcs[i.f]? = some i.fn ∧ (i.fn.name == "runtime.NumGoroutine") = false := by
  intro i hi
  simp only [I, List.mem_cons, List.not_mem_nil, or_false] at hi
  subst hi
  exact ⟨by kernel_rfl, by kernel_rfl⟩
noncomputable abbrev L0 (fuel n : Nat) (s : St) (k : Kont) := lAt Try.prog X I fuel true 0 false 3 (bodyOf Try.f3) [1, 1, 1, 1, 1, 1, 0, 1, 0] n s k
noncomputable abbrev k0  (fuel : Nat) : Kont := (kAt Try.prog X I fuel true 0 false 3 (bodyOf Try.f3) [1, 1, 1, 1, 1, 1, 0, 1, 0] [] (endK Try.prog Try.f3))
noncomputable def t0 (p0 : List Int) (x0q0 : Int) : St := ⟨[.dead, .dead, .dead, .dead, (.ptr 1000000000 0 0), .dead, (.ptr 1000000001 0 0), (.imm (.int .i64 x0q0)), .dead, .dead, .dead, .dead, .dead, .dead, .dead, .dead, .dead, .dead, .dead, .dead, .dead, .dead, .dead, .dead, .dead, .dead, .dead, .dead, .dead, .dead, .dead, .dead, .dead, .dead, .dead, .dead, .dead, .dead, .dead, .dead, .dead, .dead, .dead, .dead, .dead, .dead, .dead, .dead, .dead, .dead, .dead, .dead, .dead, .dead, .dead, .dead, .dead, .dead, .dead], hOf [(1000000000, (.box [(.imm (.ints .i64 (aArS (cutC p0) 1))), (.imm (.ints .i64 (aArD (cutC p0) 1)))])), (1000000001, (.box [(.all 1000000002 1), (.all 1000000003 1)])), (1000000002, (.ints .i64 (mapS 2 ((aArS (cutC p0) 1)) ((aArD (cutC p0) 1))))), (1000000003, (.ints .i64 (mapD 2 ((aArS (cutC p0) 1)) ((aArD (cutC p0) 1)))))], [], []⟩
theorem e (fuel : Nat) (p0 : List Int) : runF Try.prog X I 0 fuel 3 Try.f3 [.d (.ints .u8 p0)] =
  (bif (decide ((((p0.length : Nat) : Int) : Int) > 1048576)) then
  some ([.one ((.bool true), false)], [])
  else
  (bif bytesB p0 then
  (bif decide (((aArS (cutC p0) 1)).length < 9223372036854775808) && decide (((aArD (cutC p0) 1)).length < 9223372036854775808) then
  (bif decide (((aArS (cutC p0) 1)).length < 9223372036854775808) && decide (((aArD (cutC p0) 1)).length < 9223372036854775808) then
  (bif decide (((mapS ((oneV (cutC p0) 0 mapL)) ((aArS (cutC p0) 1)) ((aArD (cutC p0) 1)))).length < 9223372036854775808) && decide (((mapD ((oneV (cutC p0) 0 mapL)) ((aArS (cutC p0) 1)) ((aArD (cutC p0) 1)))).length < 9223372036854775808) && decide (((mapS ((oneV (cutC p0) 0 mapL)) ((aArS (cutC p0) 1)) ((aArD (cutC p0) 1)))).length < 9223372036854775808) && decide (((mapD ((oneV (cutC p0) 0 mapL)) ((aArS (cutC p0) 1)) ((aArD (cutC p0) 1)))).length < 9223372036854775808) then
  (bif (!(decide (((mapS ((oneV (cutC p0) 0 mapL)) ((aArS (cutC p0) 1)) ((aArD (cutC p0) 1)))) = ((mapS ((oneV (cutC p0) 0 mapL)) ((aArS (cutC p0) 1)) ((aArD (cutC p0) 1))))) && decide (((mapD ((oneV (cutC p0) 0 mapL)) ((aArS (cutC p0) 1)) ((aArD (cutC p0) 1)))) = ((mapD ((oneV (cutC p0) 0 mapL)) ((aArS (cutC p0) 1)) ((aArD (cutC p0) 1))))))) then
  (bif decide (((aArS (cutC p0) 1)).length < 9223372036854775808) && decide (((aArD (cutC p0) 1)).length < 9223372036854775808) then
  (bif decide (((mapS ((oneV (cutC p0) 0 mapL)) ((aArS (cutC p0) 1)) ((aArD (cutC p0) 1)))).length < 9223372036854775808) && decide (((mapD ((oneV (cutC p0) 0 mapL)) ((aArS (cutC p0) 1)) ((aArD (cutC p0) 1)))).length < 9223372036854775808) && decide (((mapS ((oneV (cutC p0) 0 mapL)) ((aArS (cutC p0) 1)) ((aArD (cutC p0) 1)))).length < 9223372036854775808) && decide (((mapD ((oneV (cutC p0) 0 mapL)) ((aArS (cutC p0) 1)) ((aArD (cutC p0) 1)))).length < 9223372036854775808) then
  some ([.one ((.bool (decide (((mapS ((oneV (cutC p0) 0 mapL)) ((aArS (cutC p0) 1)) ((aArD (cutC p0) 1)))) = ((mapS ((oneV (cutC p0) 0 mapL)) ((aArS (cutC p0) 1)) ((aArD (cutC p0) 1))))) && decide (((mapD ((oneV (cutC p0) 0 mapL)) ((aArS (cutC p0) 1)) ((aArD (cutC p0) 1)))) = ((mapD ((oneV (cutC p0) 0 mapL)) ((aArS (cutC p0) 1)) ((aArD (cutC p0) 1))))))), false)], [])
  else
  none)
  else
  none)
  else
  (bif decide (((aArS (cutC p0) 1)).length < 9223372036854775808) && decide (((aArD (cutC p0) 1)).length < 9223372036854775808) then
  (bif (!(validA ((aArS (cutC p0) 1)) ((aArD (cutC p0) 1)))) then
  (bif decide (((aArS (cutC p0) 1)).length < 9223372036854775808) && decide (((aArD (cutC p0) 1)).length < 9223372036854775808) then
  (bif decide (((mapS ((oneV (cutC p0) 0 mapL)) ((aArS (cutC p0) 1)) ((aArD (cutC p0) 1)))).length < 9223372036854775808) && decide (((mapD ((oneV (cutC p0) 0 mapL)) ((aArS (cutC p0) 1)) ((aArD (cutC p0) 1)))).length < 9223372036854775808) && decide (((mapS ((oneV (cutC p0) 0 mapL)) ((aArS (cutC p0) 1)) ((aArD (cutC p0) 1)))).length < 9223372036854775808) && decide (((mapD ((oneV (cutC p0) 0 mapL)) ((aArS (cutC p0) 1)) ((aArD (cutC p0) 1)))).length < 9223372036854775808) then
  some ([.one ((.bool (decide (((mapS ((oneV (cutC p0) 0 mapL)) ((aArS (cutC p0) 1)) ((aArD (cutC p0) 1)))) = ((mapS ((oneV (cutC p0) 0 mapL)) ((aArS (cutC p0) 1)) ((aArD (cutC p0) 1))))) && decide (((mapD ((oneV (cutC p0) 0 mapL)) ((aArS (cutC p0) 1)) ((aArD (cutC p0) 1)))) = ((mapD ((oneV (cutC p0) 0 mapL)) ((aArS (cutC p0) 1)) ((aArD (cutC p0) 1))))))), false)], [])
  else
  none)
  else
  none)
  else
  (bif decide (((aArS (cutC p0) 1)).length < 9223372036854775808) && decide (((aArD (cutC p0) 1)).length < 9223372036854775808) then
  L0 fuel fuel (t0 p0 0) (k0  fuel)
  else
  none))
  else
  none))
  else
  none)
  else
  none)
  else
  none)
  else
  none)) := by kernel_rfl
theorem s0 (fuel n0 : Nat) (p0 : List Int) (x0q0 : Int) : L0 fuel (n0 + 1) (t0 p0 x0q0) (k0  fuel) =
  (bif (decide ((x0q0 : Int) < (((mapD 2 ((aArS (cutC p0) 1)) ((aArD (cutC p0) 1))).length : Nat) : Int))) then
  (idx x0q0 (mapD 2 ((aArS (cutC p0) 1)) ((aArD (cutC p0) 1))).length).bind fun j5 =>
  ((mapD 2 ((aArS (cutC p0) 1)) ((aArD (cutC p0) 1)))[j5]?).bind fun v6 =>
  (bif (decide ((v6 : Int) < 0)) then
  some ([.one ((.bool false), false)], [])
  else
  L0 fuel n0 (t0 p0 ((IntKind.wrap .i64 (x0q0 + 1)))) (k0  fuel))
  else
  (bif decide (((aArS (cutC p0) 1)).length < 9223372036854775808) && decide (((aArD (cutC p0) 1)).length < 9223372036854775808) then
  (bif decide (((mapS 1 ((aArS (cutC p0) 1)) ((aArD (cutC p0) 1)))).length < 9223372036854775808) && decide (((mapD 1 ((aArS (cutC p0) 1)) ((aArD (cutC p0) 1)))).length < 9223372036854775808) then
  (bif decide (((mapS 2 ((mapS 1 ((aArS (cutC p0) 1)) ((aArD (cutC p0) 1)))) ((mapD 1 ((aArS (cutC p0) 1)) ((aArD (cutC p0) 1)))))).length < 9223372036854775808) && decide (((mapD 2 ((mapS 1 ((aArS (cutC p0) 1)) ((aArD (cutC p0) 1)))) ((mapD 1 ((aArS (cutC p0) 1)) ((aArD (cutC p0) 1)))))).length < 9223372036854775808) && decide (((mapS 2 ((aArS (cutC p0) 1)) ((aArD (cutC p0) 1)))).length < 9223372036854775808) && decide (((mapD 2 ((aArS (cutC p0) 1)) ((aArD (cutC p0) 1)))).length < 9223372036854775808) then
  (bif (decide (((mapS 2 ((mapS 1 ((aArS (cutC p0) 1)) ((aArD (cutC p0) 1)))) ((mapD 1 ((aArS (cutC p0) 1)) ((aArD (cutC p0) 1)))))) = ((mapS 2 ((aArS (cutC p0) 1)) ((aArD (cutC p0) 1))))) && decide (((mapD 2 ((mapS 1 ((aArS (cutC p0) 1)) ((aArD (cutC p0) 1)))) ((mapD 1 ((aArS (cutC p0) 1)) ((aArD (cutC p0) 1)))))) = ((mapD 2 ((aArS (cutC p0) 1)) ((aArD (cutC p0) 1)))))) then
  (bif decide (((mapS 2 ((aArS (cutC p0) 1)) ((aArD (cutC p0) 1)))).length < 9223372036854775808) && decide (((mapD 2 ((aArS (cutC p0) 1)) ((aArD (cutC p0) 1)))).length < 9223372036854775808) then
  some ([.one ((.bool (validA ((mapS 2 ((aArS (cutC p0) 1)) ((aArD (cutC p0) 1)))) ((mapD 2 ((aArS (cutC p0) 1)) ((aArD (cutC p0) 1)))))), false)], [])
  else
  none)
  else
  some ([.one ((.bool false), false)], []))
  else
  none)
  else
  none)
  else
  none)) := by kernel_rfl
end laws_FnMapArraySize
theorem laws_FnMapArraySize.ok_of (hX : ∀ E ∈ laws_FnMapArraySize.X, CallSpec Try.prog E) (h : ∀ (bs : List Int), (bytesB bs) = true → ∃ fuel, runF Try.prog laws_FnMapArraySize.X laws_FnMapArraySize.I 0 fuel 3 Try.f3 [.d (.ints .u8 bs)] = some ([.one ((.bool true), false)], [])) : CallSpec Try.prog laws_FnMapArraySize.E :=
  callSpec_of (d := 0) hX (by kernel_rfl) laws_FnMapArraySize.I_ok (by kernel_rfl) (by kernel_rfl) (by kernel_rfl) (fun _ _ _ _ h => by dsimp only [laws_FnMapArraySize.E] at h; cases h) (fun xs hp => by
    dsimp only [laws_FnMapArraySize.E] at hp ⊢
    split at hp
    · exact h _ hp
    · cases hp)
theorem laws_FnMapArraySize.ok : CallSpec Try.prog laws_FnMapArraySize.E := laws_FnMapArraySize.ok_of (by simp [laws_FnMapArraySize.X, spec_DrawMapArray.ok, impl_MapArray.ok, spec_MapArray.ok, laws_equalArray.ok, impl_ValidArray.ok]) fun bs h => by
  obtain ⟨F, hF⟩ : ∃ F : Nat, 4000 < F := ⟨4001, by omega⟩
  refine ⟨F, ?_⟩
  rw [laws_FnMapArraySize.e]
  by_cases hl : ((bs.length : Nat) : Int) > 1048576
  · rw [decide_eq_true hl]; rfl
  rw [decide_eq_false hl, cond_false, h, cond_true]
  have r0 := cut_ok h (p := 0) (by omega) (by omega)
  obtain ⟨a1, a2, _, _⟩ := aAr_bd (rd_le (q := 1) r0 (by omega) (by omega)) (by omega)
  obtain ⟨fn, hfn⟩ : ∃ x, oneV (cutC bs) 0 mapL = x := ⟨_, rfl⟩
  obtain ⟨sh, hsh⟩ : ∃ x, aArS (cutC bs) 1 = x := ⟨_, rfl⟩
  obtain ⟨da, hda⟩ : ∃ x, aArD (cutC bs) 1 = x := ⟨_, rfl⟩
  rw [hsh] at a1
  rw [hda] at a2
  have g1 := lt_of (xs := sh) (by omega)
  have g2 := lt_of (xs := da) (by omega)
  have ml := map_len fn sh da
  have g3 := lt_of (xs := mapS fn sh da) (by omega)
  have g4 := lt_of (xs := mapD fn sh da) (by omega)
  simp only [hfn, hsh, hda]
  cases hv : validA sh da with
  | false =>
    simp only [Bool.and_self, Bool.and_true, Bool.true_and, cond_true, cond_false, Bool.not_true, Bool.not_false, bne_self_eq_false, beq_self_eq_true, decide_true, eq_self, g1, g2, g3, g4, hv]
  | true =>
    have h60 := (validA_len hv).2
    have mv := fun fn => map_valid fn hv
    have gx : ∀ fn, decide ((mapX fn da).length < 9223372036854775808) = true := fun fn => lt_of (by rw [mapX_length]; omega)
    obtain ⟨s2, d2⟩ := mapS_eq (fn := 2) rfl hv
    obtain ⟨s1, d1⟩ := mapS_eq (fn := 1) rfl hv
    obtain ⟨t2, u2⟩ := mapS_eq (fn := 2) rfl (mv 1)
    have e2 : mapX 2 (mapX 1 da) = mapX 2 da := by
      conv => rhs; unfold mapX
      refine tab_ext (by rw [mapX_length, mapX_length]) fun i hi => ?_
      have hn := numB_get hv hi
      rw [mapX_get (by rw [mapX_length]; exact hi), mapX_get hi, mapF2 (mapF_bd hn), mapF1 hn, mapF2 hn]
      omega
    rw [e2] at u2
    simp only [Bool.and_self, Bool.and_true, Bool.true_and, cond_true, cond_false, Bool.not_true, Bool.not_false, bne_self_eq_false, beq_self_eq_true, decide_true, eq_self, g1, g2, g3, g4, gx, hv, s2, d2]
    refine run_loop (N := da.length) (fun n j (_ : Unit) => laws_FnMapArraySize.L0 F n (laws_FnMapArraySize.t0 bs (j : Int)) (laws_FnMapArraySize.k0 F)) (fun _ _ => True) ?_ ?_ F 0 () (by omega) (by omega) trivial
    · intro n _ _
      rw [laws_FnMapArraySize.s0]
      simp only [hsh, hda, s2, d2, s1, d1, t2, u2, mapX_length]
      rw [dge (by omega), cond_false]
      simp only [Bool.and_self, Bool.and_true, Bool.true_and, cond_true, cond_false, Bool.not_true, Bool.not_false, bne_self_eq_false, beq_self_eq_true, decide_true, eq_self, g1, g2, gx, mv]
    · intro n j _ hj _
      have hl : j < (mapX 2 da).length := by rw [mapX_length]; exact hj
      have hv1 : decide ((mapX 2 da).getD j 0 < 0) = false := by
        rw [mapX_get hj, mapF2 (numB_get hv hj)]
        exact decide_eq_false (by omega)
      rw [laws_FnMapArraySize.s0]
      simp only [hsh, hda, s2, d2]
      rw [dlt hl, cond_true, idx_nat hl, w1 (by omega)]
      simp only [Option.bind_some, getD_get hl, hv1, cond_false]
      exact ⟨(), trivial, trivial⟩

namespace spec_anyOp
noncomputable def E : Entry := ⟨33, false, false, fun | [.box [(.ints .u8 bs), (.int .i64 p)]] => rdOk bs (p + 1) && rdOk bs p | _ => false, fun | [.box [(.ints .u8 bs), (.int .i64 p)]] => ([.one ((.int .i64 (anyOpV bs p)), false)], [[(.ints .u8 bs), (.int .i64 (p + 2))]]) | _ => ([], []), fun _ => [], false, fun _ => none⟩
end spec_anyOp
namespace spec_anyOp
noncomputable def X : List Entry := [spec_reader_pick.E, spec_reader_one.E]
noncomputable def I : List Inl := [⟨33, Try.f33, ⟨[], [], [], [], [7], []⟩⟩]
theorem I_ok : ∀ i ∈ I, Try.prog.funcs[i.f]? = some i.fn ∧ (i.fn.name == "runtime.NumGoroutine") = false := by
  intro i hi
  simp only [I, List.mem_cons, List.not_mem_nil, or_false] at hi
  subst hi
  exact ⟨by kernel_rfl, by kernel_rfl⟩
theorem e (fuel : Nat) (p0q0 : List Int) (p0q1 : Int) : runF Try.prog X I 0 fuel 33 Try.f33 [.box [(.ints .u8 p0q0), (.int .i64 p0q1)]] =
  (bif rdOk p0q0 p0q1 && decide ((16 : Int) ≤ 1048576) then
  (bif (((pickV p0q0 p0q1 16) : Int) == 0) then
  (bif rdOk p0q0 ((p0q1 + 1)) && decide (0 < (([0, 9, (-1)]) : List Int).length) && decide ((([0, 9, (-1)]) : List Int).length ≤ 1048576) then
  some ([.one ((.int .i64 (oneV p0q0 ((p0q1 + 1)) ([0, 9, (-1)]))), false)], [[(.ints .u8 p0q0), (.int .i64 (((p0q1 + 1)) + 1))]])
  else
  none)
  else
  (bif rdOk p0q0 ((p0q1 + 1)) && decide ((8 : Int) ≤ 1048576) then
  some ([.one ((.int .i64 (IntKind.wrap .i64 (1 + (pickV p0q0 ((p0q1 + 1)) 8)))), false)], [[(.ints .u8 p0q0), (.int .i64 (((p0q1 + 1)) + 1))]])
  else
  none))
  else
  none) := by kernel_rfl
end spec_anyOp
theorem spec_anyOp.ok_of (hX : ∀ E ∈ spec_anyOp.X, CallSpec Try.prog E) (h : ∀ (bs : List Int) (p : Int), (rdOk bs (p + 1) && rdOk bs p) = true → ∃ fuel, runF Try.prog spec_anyOp.X spec_anyOp.I 0 fuel 33 Try.f33 [.box [(.ints .u8 bs), (.int .i64 p)]] = some ([.one ((.int .i64 (anyOpV bs p)), false)], [[(.ints .u8 bs), (.int .i64 (p + 2))]])) : CallSpec Try.prog spec_anyOp.E :=
  callSpec_of (d := 0) hX (by kernel_rfl) spec_anyOp.I_ok (by kernel_rfl) (by kernel_rfl) (by kernel_rfl) (fun _ _ _ _ h => by dsimp only [spec_anyOp.E] at h; cases h) (fun xs hp => by
    dsimp only [spec_anyOp.E] at hp ⊢
    split at hp
    · exact h _ _ hp
    · cases hp)
theorem spec_anyOp.ok : CallSpec Try.prog spec_anyOp.E := spec_anyOp.ok_of (by simp [spec_anyOp.X, spec_reader_pick.ok, spec_reader_one.ok]) fun bs p h => ⟨0, by
  simp only [Bool.and_eq_true] at h
  rw [spec_anyOp.e, h.1, h.2, show p + 2 = p + 1 + 1 by omega]
  unfold anyOpV
  cases pickV bs p 16 == 0 <;> rfl⟩

namespace spec_scalar
noncomputable def E : Entry := ⟨59, false, false, fun | [.d (.int .i64 v)] => true | _ => false, fun | [.d (.int .i64 v)] => ([.agg [((.ints .i64 nilI), true), ((.ints .i64 [v]), true)]], []) | _ => ([], []), fun _ => [], true, fun _ => none⟩
end spec_scalar
namespace spec_scalar
noncomputable def X : List Entry := []
noncomputable def I : List Inl := [⟨59, Try.f59, ⟨[], [], [], [], [], []⟩⟩]
theorem I_ok : ∀ i ∈ I, Try.prog.funcs[i.f]? = some i.fn ∧ (i.fn.name == "runtime.NumGoroutine") = false := by
  intro i hi
  simp only [I, List.mem_cons, List.not_mem_nil, or_false] at hi
  subst hi
  exact ⟨by kernel_rfl, by kernel_rfl⟩
theorem e (fuel : Nat) (p0 : Int) : runF Try.prog X I 0 fuel 59 Try.f59 [.d (.int .i64 p0)] =
  some ([.agg [((.ints .i64 []), true), ((.ints .i64 [p0]), true)]], []) := by kernel_rfl
end spec_scalar
theorem spec_scalar.ok_of (hX : ∀ E ∈ spec_scalar.X, CallSpec Try.prog E) (h : ∀ (v : Int), (true) = true → ∃ fuel, runF Try.prog spec_scalar.X spec_scalar.I 0 fuel 59 Try.f59 [.d (.int .i64 v)] = some ([.agg [((.ints .i64 nilI), true), ((.ints .i64 [v]), true)]], [])) : CallSpec Try.prog spec_scalar.E :=
  callSpec_of (d := 0) hX (by kernel_rfl) spec_scalar.I_ok (by kernel_rfl) (by kernel_rfl) (by kernel_rfl) (fun _ _ _ _ h => by dsimp only [spec_scalar.E] at h; cases h) (fun xs hp => by
    dsimp only [spec_scalar.E] at hp ⊢
    split at hp
    · exact h _ hp
    · cases hp)
theorem spec_scalar.ok : CallSpec Try.prog spec_scalar.E := spec_scalar.ok_of (by simp [spec_scalar.X]) fun v _ => ⟨0, by
  rw [spec_scalar.e]⟩

namespace spec_anyPair
noncomputable def E : Entry := ⟨34, false, false, fun | [.box [(.ints .u8 bs), (.int .i64 p)]] => rdOk bs p && decide ((p : Int) ≤ 900000) | _ => false, fun | [.box [(.ints .u8 bs), (.int .i64 p)]] => ([.agg [((.ints .i64 (apS1 bs p)), false), ((.ints .i64 (apD1 bs p)), false)], .agg [((.ints .i64 (apS2 bs p)), false), ((.ints .i64 (apD2 bs p)), false)]], [[(.ints .u8 bs), (.int .i64 (apP bs p))]]) | _ => ([], []), fun _ => [], false, fun _ => none⟩
end spec_anyPair
namespace spec_anyPair
noncomputable def X : List Entry := [spec_anyArray.E, spec_reader_pick.E, spec_someNum.E, spec_scalar.E, spec_valid.E, spec_fill.E]
noncomputable def I : List Inl := [⟨34, Try.f34, ⟨[], [], [(4, [4]), (6, [4]), (8, [4]), (10, [4]), (11, [4])], [(6, [0, 3, 1, 2, 4, 5]), (10, [1, 0, 2, 3])], [11, 19, 22, 30, 31], []⟩⟩]
theorem I_ok : ∀ i ∈ I, Try.prog.funcs[i.f]? = some i.fn ∧ (i.fn.name == "runtime.NumGoroutine") = false := by
  intro i hi
  simp only [I, List.mem_cons, List.not_mem_nil, or_false] at hi
  subst hi
  exact ⟨by kernel_rfl, by kernel_rfl⟩
theorem e (fuel : Nat) (p0q0 : List Int) (p0q1 : Int) : runF Try.prog X I 0 fuel 34 Try.f34 [.box [(.ints .u8 p0q0), (.int .i64 p0q1)]] =
  (bif rdOk p0q0 p0q1 && decide ((p0q1 : Int) ≤ 1000000) then
  (bif rdOk p0q0 ((aArP p0q0 p0q1)) && decide ((6 : Int) ≤ 1048576) then
  (bif (((pickV p0q0 ((aArP p0q0 p0q1)) 6) : Int) == 0) then
  (bif rdOk p0q0 ((((aArP p0q0 p0q1)) + 1)) && decide ((((((aArP p0q0 p0q1)) + 1)) : Int) ≤ 1000000) then
  some ([.agg [((.ints .i64 (aArS p0q0 p0q1)), false), ((.ints .i64 (aArD p0q0 p0q1)), false)], .agg [((.ints .i64 (aArS p0q0 ((((aArP p0q0 p0q1)) + 1)))), false), ((.ints .i64 (aArD p0q0 ((((aArP p0q0 p0q1)) + 1)))), false)]], [[(.ints .u8 p0q0), (.int .i64 (aArP p0q0 ((((aArP p0q0 p0q1)) + 1))))]])
  else
  none)
  else
  (bif (((pickV p0q0 ((aArP p0q0 p0q1)) 6) : Int) == 1) then
  (bif rdOk p0q0 ((((aArP p0q0 p0q1)) + 1)) then
  some ([.agg [((.ints .i64 nilI), false), ((.ints .i64 [((oneV p0q0 ((((aArP p0q0 p0q1)) + 1)) someL))]), false)], .agg [((.ints .i64 (aArS p0q0 p0q1)), false), ((.ints .i64 (aArD p0q0 p0q1)), false)]], [[(.ints .u8 p0q0), (.int .i64 (((((aArP p0q0 p0q1)) + 1)) + 1))]])
  else
  none)
  else
  (bif (((pickV p0q0 ((aArP p0q0 p0q1)) 6) : Int) == 2) then
  (bif rdOk p0q0 ((((aArP p0q0 p0q1)) + 1)) then
  some ([.agg [((.ints .i64 (aArS p0q0 p0q1)), false), ((.ints .i64 (aArD p0q0 p0q1)), false)], .agg [((.ints .i64 nilI), false), ((.ints .i64 [((oneV p0q0 ((((aArP p0q0 p0q1)) + 1)) someL))]), false)]], [[(.ints .u8 p0q0), (.int .i64 (((((aArP p0q0 p0q1)) + 1)) + 1))]])
  else
  none)
  else
  (bif decide (((aArS p0q0 p0q1)).length < 9223372036854775808) && decide (((aArD p0q0 p0q1)).length < 9223372036854775808) then
  (bif (!(validA ((aArS p0q0 p0q1)) ((aArD p0q0 p0q1)))) then
  some ([.agg [((.ints .i64 (aArS p0q0 p0q1)), false), ((.ints .i64 (aArD p0q0 p0q1)), false)], .agg [((.ints .i64 (aArS p0q0 p0q1)), false), ((.ints .i64 (aArD p0q0 p0q1)), false)]], [[(.ints .u8 p0q0), (.int .i64 (((aArP p0q0 p0q1)) + 1))]])
  else
  (bif rdOk p0q0 ((((aArP p0q0 p0q1)) + 1)) && decide ((((((aArP p0q0 p0q1)) + 1)) : Int) ≤ 2000000) && validS ((aArS p0q0 p0q1)) then
  some ([.agg [((.ints .i64 (aArS p0q0 p0q1)), false), ((.ints .i64 (aArD p0q0 p0q1)), false)], .agg [((.ints .i64 ((aArS p0q0 p0q1))), false), ((.ints .i64 (fillV p0q0 ((((aArP p0q0 p0q1)) + 1)) ((aArS p0q0 p0q1)))), false)]], [[(.ints .u8 p0q0), (.int .i64 (((((aArP p0q0 p0q1)) + 1)) + volW ((aArS p0q0 p0q1))))]])
  else
  none))
  else
  none))))
  else
  none)
  else
  none) := by kernel_rfl
end spec_anyPair
theorem spec_anyPair.ok_of (hX : ∀ E ∈ spec_anyPair.X, CallSpec Try.prog E) (h : ∀ (bs : List Int) (p : Int), (rdOk bs p && decide ((p : Int) ≤ 900000)) = true → ∃ fuel, runF Try.prog spec_anyPair.X spec_anyPair.I 0 fuel 34 Try.f34 [.box [(.ints .u8 bs), (.int .i64 p)]] = some ([.agg [((.ints .i64 (apS1 bs p)), false), ((.ints .i64 (apD1 bs p)), false)], .agg [((.ints .i64 (apS2 bs p)), false), ((.ints .i64 (apD2 bs p)), false)]], [[(.ints .u8 bs), (.int .i64 (apP bs p))]])) : CallSpec Try.prog spec_anyPair.E :=
  callSpec_of (d := 0) hX (by kernel_rfl) spec_anyPair.I_ok (by kernel_rfl) (by kernel_rfl) (by kernel_rfl) (fun _ _ _ _ h => by dsimp only [spec_anyPair.E] at h; cases h) (fun xs hp => by
    dsimp only [spec_anyPair.E] at hp ⊢
    split at hp
    · exact h _ _ hp
    · cases hp)
theorem spec_anyPair.ok : CallSpec Try.prog spec_anyPair.E := spec_anyPair.ok_of (by simp [spec_anyPair.X, spec_anyArray.ok, spec_reader_pick.ok, spec_someNum.ok, spec_scalar.ok, spec_valid.ok, spec_fill.ok]) fun bs p h => ⟨0, by
  simp only [Bool.and_eq_true, decide_eq_true_eq] at h
  obtain ⟨h1, h2, h3, h4⟩ := aAr_bd h.1 (by omega)
  have r1 := rd_le (q := aArP bs p) h.1 (by omega) (by omega)
  have r2 := rd_le (q := aArP bs p + 1) h.1 (by omega) (by omega)
  rw [spec_anyPair.e, h.1, r1, r2, decide_eq_true (p := p ≤ 1000000) (by omega), decide_eq_true (p := aArP bs p + 1 ≤ 1000000) (by omega), decide_eq_true (p := aArP bs p + 1 ≤ 2000000) (by omega), lt_of (xs := aArS bs p) (by omega), lt_of (xs := aArD bs p) (by omega)]
  unfold apS1 apD1 apS2 apD2 apP apB
  cases pickV bs (aArP bs p) 6 == 0 with
  | true => rfl
  | false =>
    cases pickV bs (aArP bs p) 6 == 1 with
    | true => rfl
    | false =>
      cases pickV bs (aArP bs p) 6 == 2 with
      | true => rfl
      | false =>
        cases hv : validA (aArS bs p) (aArD bs p) with
        | false => rfl
        | true => rw [(validA_inv hv).1]; rfl⟩

namespace spec_DrawCombine
noncomputable def E : Entry := ⟨14, false, false, fun | [.d (.ints .u8 bs)] => bytesB bs | _ => false, fun | [.d (.ints .u8 bs)] => ([.one ((.int .i64 (anyOpV (cutC bs) 0)), false), .agg [((.ints .i64 (apS1 (cutC bs) 2)), false), ((.ints .i64 (apD1 (cutC bs) 2)), false)], .agg [((.ints .i64 (apS2 (cutC bs) 2)), false), ((.ints .i64 (apD2 (cutC bs) 2)), false)]], []) | _ => ([], []), fun _ => [], true, fun _ => none⟩
end spec_DrawCombine
namespace spec_DrawCombine
noncomputable def X : List Entry := [spec_newReader.E, spec_anyOp.E, spec_anyPair.E]
noncomputable def I : List Inl := [⟨14, Try.f14, ⟨[15], [], [(4, [8])], [(4, [0, 2, 3, 1, 4, 5])], [20], []⟩⟩]
theorem I_ok : ∀ i ∈ I, Try.prog.funcs[i.f]? = some i.fn ∧ (i.fn.name == "runtime.NumGoroutine") = false := by
  intro i hi
  simp only [I, List.mem_cons, List.not_mem_nil, or_false] at hi
  subst hi
  exact ⟨by kernel_rfl, by kernel_rfl⟩
theorem e (fuel : Nat) (p0 : List Int) : runF Try.prog X I 0 fuel 14 Try.f14 [.d (.ints .u8 p0)] =
  (bif rdOk ((cutC p0)) (0 + 1) && rdOk ((cutC p0)) 0 then
  (bif rdOk (((cutC p0))) ((0 + 2)) && decide ((((0 + 2)) : Int) ≤ 900000) then
  some ([.one ((.int .i64 (anyOpV ((cutC p0)) 0)), false), .agg [((.ints .i64 (apS1 (((cutC p0))) ((0 + 2)))), false), ((.ints .i64 (apD1 (((cutC p0))) ((0 + 2)))), false)], .agg [((.ints .i64 (apS2 (((cutC p0))) ((0 + 2)))), false), ((.ints .i64 (apD2 (((cutC p0))) ((0 + 2)))), false)]], [])
  else
  none)
  else
  none) := by kernel_rfl
end spec_DrawCombine
theorem spec_DrawCombine.ok_of (hX : ∀ E ∈ spec_DrawCombine.X, CallSpec Try.prog E) (h : ∀ (bs : List Int), (bytesB bs) = true → ∃ fuel, runF Try.prog spec_DrawCombine.X spec_DrawCombine.I 0 fuel 14 Try.f14 [.d (.ints .u8 bs)] = some ([.one ((.int .i64 (anyOpV (cutC bs) 0)), false), .agg [((.ints .i64 (apS1 (cutC bs) 2)), false), ((.ints .i64 (apD1 (cutC bs) 2)), false)], .agg [((.ints .i64 (apS2 (cutC bs) 2)), false), ((.ints .i64 (apD2 (cutC bs) 2)), false)]], [])) : CallSpec Try.prog spec_DrawCombine.E :=
  callSpec_of (d := 0) hX (by kernel_rfl) spec_DrawCombine.I_ok (by kernel_rfl) (by kernel_rfl) (by kernel_rfl) (fun _ _ _ _ h => by dsimp only [spec_DrawCombine.E] at h; cases h) (fun xs hp => by
    dsimp only [spec_DrawCombine.E] at hp ⊢
    split at hp
    · exact h _ hp
    · cases hp)
theorem spec_DrawCombine.ok : CallSpec Try.prog spec_DrawCombine.E := spec_DrawCombine.ok_of (by simp [spec_DrawCombine.X, spec_newReader.ok, spec_anyOp.ok, spec_anyPair.ok]) fun bs h => ⟨0, by
  have r0 := cut_ok h (p := 0) (by omega) (by omega)
  rw [spec_DrawCombine.e, r0, rd_le (q := 0 + 1) r0 (by omega) (by omega), rd_le (q := 0 + 2) r0 (by omega) (by omega)]
  rfl⟩

namespace impl_limited
noncomputable def E : Entry := ⟨63, true, false, fun | [.d (.int .i64 n)] => true | _ => false, fun | [.d (.int .i64 n)] => ([.one ((.int .i64 (limV n)), false)], []) | _ => ([], []), fun _ => [], false, fun _ => none⟩
end impl_limited
namespace impl_limited
noncomputable def X : List Entry := []
noncomputable def I : List Inl := [⟨63, Try.f63, ⟨[], [], [], [], [], []⟩⟩]
theorem I_ok : ∀ i ∈ I, Try.prog.funcs[i.f]? = some i.fn ∧ (i.fn.name == "runtime.NumGoroutine") = false := by
  intro i hi
  simp only [I, List.mem_cons, List.not_mem_nil, or_false] at hi
  subst hi
  exact ⟨by kernel_rfl, by kernel_rfl⟩
theorem e (fuel : Nat) (p0 : Int) : runF Try.prog X I 0 fuel 63 Try.f63 [.d (.int .i64 p0)] =
  some ([.one ((.int .i64 (minI (maxI p0 (-1000000)) 1000000)), false)], []) := by kernel_rfl
end impl_limited
theorem impl_limited.ok_of (hX : ∀ E ∈ impl_limited.X, CallSpec Try.prog E) (h : ∀ (n : Int), (true) = true → ∃ fuel, runF Try.prog impl_limited.X impl_limited.I 0 fuel 63 Try.f63 [.d (.int .i64 n)] = some ([.one ((.int .i64 (limV n)), false)], [])) : CallSpec Try.prog impl_limited.E :=
  callSpec_of (d := 0) hX (by kernel_rfl) impl_limited.I_ok (by kernel_rfl) (by kernel_rfl) (by kernel_rfl) (fun _ _ _ _ h => by dsimp only [impl_limited.E] at h; cases h) (fun xs hp => by
    dsimp only [impl_limited.E] at hp ⊢
    split at hp
    · exact h _ hp
    · cases hp)
theorem impl_limited.ok : CallSpec Try.prog impl_limited.E := impl_limited.ok_of (by simp [impl_limited.X]) fun n _ => ⟨0, by rw [impl_limited.e]; rfl⟩

namespace impl_functionOfTwo_1
noncomputable def E : Entry := ⟨62, true, false, fun | [.d (.int .i64 a), .d (.int .i64 b)] => true | _ => false, fun | [.d (.int .i64 a), .d (.int .i64 b)] => ([.one ((.int .i64 (limV (IntKind.wrap .i64 (a + b)))), false)], []) | _ => ([], []), fun _ => [], false, fun | [] => some (false, q2, (q2v (operF 1))) | _ => none⟩
end impl_functionOfTwo_1
namespace impl_functionOfTwo_1
noncomputable def X : List Entry := [impl_limited.E]
noncomputable def I : List Inl := [⟨62, Try.f62, ⟨[], [], [], [], [], []⟩⟩]
theorem I_ok : ∀ i ∈ I, Try.prog.funcs[i.f]? = some i.fn ∧ (i.fn.name == "runtime.NumGoroutine") = false := by
  intro i hi
  simp only [I, List.mem_cons, List.not_mem_nil, or_false] at hi
  subst hi
  exact ⟨by kernel_rfl, by kernel_rfl⟩
theorem e (fuel : Nat) (p0 : Int) (p1 : Int) : runF Try.prog X I 0 fuel 62 Try.f62 [.d (.int .i64 p0), .d (.int .i64 p1)] =
  some ([.one ((.int .i64 (limV ((IntKind.wrap .i64 (p0 + p1))))), false)], []) := by kernel_rfl
end impl_functionOfTwo_1
theorem impl_functionOfTwo_1.ok_of (hX : ∀ E ∈ impl_functionOfTwo_1.X, CallSpec Try.prog E) (hfn : ∀ ds rb dom G, impl_functionOfTwo_1.E.fnOf ds = some (rb, dom, G) → ∀ qs, dom qs = true → impl_functionOfTwo_1.E.m ((qs.map fun q => .d q.d) ++ ds.map .d) = some ([.one (fnD rb (G qs), false)], [])) (h : ∀ (a : Int) (b : Int), (true) = true → ∃ fuel, runF Try.prog impl_functionOfTwo_1.X impl_functionOfTwo_1.I 0 fuel 62 Try.f62 [.d (.int .i64 a), .d (.int .i64 b)] = some ([.one ((.int .i64 (limV (IntKind.wrap .i64 (a + b)))), false)], [])) : CallSpec Try.prog impl_functionOfTwo_1.E :=
  callSpec_of (d := 0) hX (by kernel_rfl) impl_functionOfTwo_1.I_ok (by kernel_rfl) (by kernel_rfl) (by kernel_rfl) hfn (fun xs hp => by
    dsimp only [impl_functionOfTwo_1.E] at hp ⊢
    split at hp
    · exact h _ _ hp
    · cases hp)
theorem impl_functionOfTwo_1.ok : CallSpec Try.prog impl_functionOfTwo_1.E := impl_functionOfTwo_1.ok_of (by simp [impl_functionOfTwo_1.X, impl_limited.ok]) (fun ds rb dom G h qs hq => by
  dsimp only [impl_functionOfTwo_1.E] at h
  split at h
  case h_2 => cases h
  cases h
  match qs, hq with
  | [.i a, .i b], _ => rfl) fun a b _ => ⟨0, by rw [impl_functionOfTwo_1.e]⟩

namespace impl_functionOfTwo_2
noncomputable def E : Entry := ⟨64, true, false, fun | [.d (.int .i64 a), .d (.int .i64 b)] => true | _ => false, fun | [.d (.int .i64 a), .d (.int .i64 b)] => ([.one ((.int .i64 (limV (IntKind.wrap .i64 (a - b)))), false)], []) | _ => ([], []), fun _ => [], false, fun | [] => some (false, q2, (q2v (operF 2))) | _ => none⟩
end impl_functionOfTwo_2
namespace impl_functionOfTwo_2
noncomputable def X : List Entry := [impl_limited.E]
noncomputable def I : List Inl := [⟨64, Try.f64, ⟨[], [], [], [], [], []⟩⟩]
theorem I_ok : ∀ i ∈ I, Try.prog.funcs[i.f]? = some i.fn ∧ (i.fn.name == "runtime.NumGoroutine") = false := by
  intro i hi
  simp only [I, List.mem_cons, List.not_mem_nil, or_false] at hi
  subst hi
  exact ⟨by kernel_rfl, by kernel_rfl⟩
theorem e (fuel : Nat) (p0 : Int) (p1 : Int) : runF Try.prog X I 0 fuel 64 Try.f64 [.d (.int .i64 p0), .d (.int .i64 p1)] =
  some ([.one ((.int .i64 (limV ((IntKind.wrap .i64 (p0 - p1))))), false)], []) := by kernel_rfl
end impl_functionOfTwo_2
theorem impl_functionOfTwo_2.ok_of (hX : ∀ E ∈ impl_functionOfTwo_2.X, CallSpec Try.prog E) (hfn : ∀ ds rb dom G, impl_functionOfTwo_2.E.fnOf ds = some (rb, dom, G) → ∀ qs, dom qs = true → impl_functionOfTwo_2.E.m ((qs.map fun q => .d q.d) ++ ds.map .d) = some ([.one (fnD rb (G qs), false)], [])) (h : ∀ (a : Int) (b : Int), (true) = true → ∃ fuel, runF Try.prog impl_functionOfTwo_2.X impl_functionOfTwo_2.I 0 fuel 64 Try.f64 [.d (.int .i64 a), .d (.int .i64 b)] = some ([.one ((.int .i64 (limV (IntKind.wrap .i64 (a - b)))), false)], [])) : CallSpec Try.prog impl_functionOfTwo_2.E :=
  callSpec_of (d := 0) hX (by kernel_rfl) impl_functionOfTwo_2.I_ok (by kernel_rfl) (by kernel_rfl) (by kernel_rfl) hfn (fun xs hp => by
    dsimp only [impl_functionOfTwo_2.E] at hp ⊢
    split at hp
    · exact h _ _ hp
    · cases hp)
theorem impl_functionOfTwo_2.ok : CallSpec Try.prog impl_functionOfTwo_2.E := impl_functionOfTwo_2.ok_of (by simp [impl_functionOfTwo_2.X, impl_limited.ok]) (fun ds rb dom G h qs hq => by
  dsimp only [impl_functionOfTwo_2.E] at h
  split at h
  case h_2 => cases h
  cases h
  match qs, hq with
  | [.i a, .i b], _ => rfl) fun a b _ => ⟨0, by rw [impl_functionOfTwo_2.e]⟩

namespace impl_functionOfTwo_3
noncomputable def E : Entry := ⟨65, true, false, fun | [.d (.int .i64 a), .d (.int .i64 b)] => true | _ => false, fun | [.d (.int .i64 a), .d (.int .i64 b)] => ([.one ((.int .i64 (limV (IntKind.wrap .i64 (a * b)))), false)], []) | _ => ([], []), fun _ => [], false, fun | [] => some (false, q2, (q2v (operF 3))) | _ => none⟩
end impl_functionOfTwo_3
namespace impl_functionOfTwo_3
noncomputable def X : List Entry := [impl_limited.E]
noncomputable def I : List Inl := [⟨65, Try.f65, ⟨[], [], [], [], [], []⟩⟩]
theorem I_ok : ∀ i ∈ I, Try.prog.funcs[i.f]? = some i.fn ∧ (i.fn.name == "runtime.NumGoroutine") = false := by
  intro i hi
  simp only [I, List.mem_cons, List.not_mem_nil, or_false] at hi
  subst hi
  exact ⟨by kernel_rfl, by kernel_rfl⟩
theorem e (fuel : Nat) (p0 : Int) (p1 : Int) : runF Try.prog X I 0 fuel 65 Try.f65 [.d (.int .i64 p0), .d (.int .i64 p1)] =
  some ([.one ((.int .i64 (limV ((IntKind.wrap .i64 (p0 * p1))))), false)], []) := by kernel_rfl
end impl_functionOfTwo_3
theorem impl_functionOfTwo_3.ok_of (hX : ∀ E ∈ impl_functionOfTwo_3.X, CallSpec Try.prog E) (hfn : ∀ ds rb dom G, impl_functionOfTwo_3.E.fnOf ds = some (rb, dom, G) → ∀ qs, dom qs = true → impl_functionOfTwo_3.E.m ((qs.map fun q => .d q.d) ++ ds.map .d) = some ([.one (fnD rb (G qs), false)], [])) (h : ∀ (a : Int) (b : Int), (true) = true → ∃ fuel, runF Try.prog impl_functionOfTwo_3.X impl_functionOfTwo_3.I 0 fuel 65 Try.f65 [.d (.int .i64 a), .d (.int .i64 b)] = some ([.one ((.int .i64 (limV (IntKind.wrap .i64 (a * b)))), false)], [])) : CallSpec Try.prog impl_functionOfTwo_3.E :=
  callSpec_of (d := 0) hX (by kernel_rfl) impl_functionOfTwo_3.I_ok (by kernel_rfl) (by kernel_rfl) (by kernel_rfl) hfn (fun xs hp => by
    dsimp only [impl_functionOfTwo_3.E] at hp ⊢
    split at hp
    · exact h _ _ hp
    · cases hp)
theorem impl_functionOfTwo_3.ok : CallSpec Try.prog impl_functionOfTwo_3.E := impl_functionOfTwo_3.ok_of (by simp [impl_functionOfTwo_3.X, impl_limited.ok]) (fun ds rb dom G h qs hq => by
  dsimp only [impl_functionOfTwo_3.E] at h
  split at h
  case h_2 => cases h
  cases h
  match qs, hq with
  | [.i a, .i b], _ => rfl) fun a b _ => ⟨0, by rw [impl_functionOfTwo_3.e]⟩

namespace impl_functionOfTwo_4
noncomputable def E : Entry := ⟨66, true, false, fun | [.d (.int .i64 a), .d (.int .i64 b)] => true | _ => false, fun | [.d (.int .i64 a), .d (.int .i64 b)] => ([.one ((.int .i64 (minI a b)), false)], []) | _ => ([], []), fun _ => [], false, fun | [] => some (false, q2, (q2v (operF 4))) | _ => none⟩
end impl_functionOfTwo_4
namespace impl_functionOfTwo_4
noncomputable def X : List Entry := []
noncomputable def I : List Inl := [⟨66, Try.f66, ⟨[], [], [], [], [], []⟩⟩]
theorem I_ok : ∀ i ∈ I, Try.prog.funcs[i.f]? = some i.fn ∧ (i.fn.name == "runtime.NumGoroutine") = false := by
  intro i hi
  simp only [I, List.mem_cons, List.not_mem_nil, or_false] at hi
  subst hi
  exact ⟨by kernel_rfl, by kernel_rfl⟩
theorem e (fuel : Nat) (p0 : Int) (p1 : Int) : runF Try.prog X I 0 fuel 66 Try.f66 [.d (.int .i64 p0), .d (.int .i64 p1)] =
  some ([.one ((.int .i64 (minI p0 p1)), false)], []) := by kernel_rfl
end impl_functionOfTwo_4
theorem impl_functionOfTwo_4.ok_of (hX : ∀ E ∈ impl_functionOfTwo_4.X, CallSpec Try.prog E) (hfn : ∀ ds rb dom G, impl_functionOfTwo_4.E.fnOf ds = some (rb, dom, G) → ∀ qs, dom qs = true → impl_functionOfTwo_4.E.m ((qs.map fun q => .d q.d) ++ ds.map .d) = some ([.one (fnD rb (G qs), false)], [])) (h : ∀ (a : Int) (b : Int), (true) = true → ∃ fuel, runF Try.prog impl_functionOfTwo_4.X impl_functionOfTwo_4.I 0 fuel 66 Try.f66 [.d (.int .i64 a), .d (.int .i64 b)] = some ([.one ((.int .i64 (minI a b)), false)], [])) : CallSpec Try.prog impl_functionOfTwo_4.E :=
  callSpec_of (d := 0) hX (by kernel_rfl) impl_functionOfTwo_4.I_ok (by kernel_rfl) (by kernel_rfl) (by kernel_rfl) hfn (fun xs hp => by
    dsimp only [impl_functionOfTwo_4.E] at hp ⊢
    split at hp
    · exact h _ _ hp
    · cases hp)
theorem impl_functionOfTwo_4.ok : CallSpec Try.prog impl_functionOfTwo_4.E := impl_functionOfTwo_4.ok_of (by simp [impl_functionOfTwo_4.X]) (fun ds rb dom G h qs hq => by
  dsimp only [impl_functionOfTwo_4.E] at h
  split at h
  case h_2 => cases h
  cases h
  match qs, hq with
  | [.i a, .i b], _ => rfl) fun a b _ => ⟨0, by rw [impl_functionOfTwo_4.e]⟩

namespace impl_functionOfTwo_5
noncomputable def E : Entry := ⟨67, true, false, fun | [.d (.int .i64 a), .d (.int .i64 b)] => true | _ => false, fun | [.d (.int .i64 a), .d (.int .i64 b)] => ([.one ((.int .i64 (maxI a b)), false)], []) | _ => ([], []), fun _ => [], false, fun | [] => some (false, q2, (q2v (operF 5))) | _ => none⟩
end impl_functionOfTwo_5
namespace impl_functionOfTwo_5
noncomputable def X : List Entry := []
noncomputable def I : List Inl := [⟨67, Try.f67, ⟨[], [], [], [], [], []⟩⟩]
theorem I_ok : ∀ i ∈ I, Try.prog.funcs[i.f]? = some i.fn ∧ (i.fn.name == "runtime.NumGoroutine") = false := by
  intro i hi
  simp only [I, List.mem_cons, List.not_mem_nil, or_false] at hi
  subst hi
  exact ⟨by kernel_rfl, by kernel_rfl⟩
theorem e (fuel : Nat) (p0 : Int) (p1 : Int) : runF Try.prog X I 0 fuel 67 Try.f67 [.d (.int .i64 p0), .d (.int .i64 p1)] =
  some ([.one ((.int .i64 (maxI p0 p1)), false)], []) := by kernel_rfl
end impl_functionOfTwo_5
theorem impl_functionOfTwo_5.ok_of (hX : ∀ E ∈ impl_functionOfTwo_5.X, CallSpec Try.prog E) (hfn : ∀ ds rb dom G, impl_functionOfTwo_5.E.fnOf ds = some (rb, dom, G) → ∀ qs, dom qs = true → impl_functionOfTwo_5.E.m ((qs.map fun q => .d q.d) ++ ds.map .d) = some ([.one (fnD rb (G qs), false)], [])) (h : ∀ (a : Int) (b : Int), (true) = true → ∃ fuel, runF Try.prog impl_functionOfTwo_5.X impl_functionOfTwo_5.I 0 fuel 67 Try.f67 [.d (.int .i64 a), .d (.int .i64 b)] = some ([.one ((.int .i64 (maxI a b)), false)], [])) : CallSpec Try.prog impl_functionOfTwo_5.E :=
  callSpec_of (d := 0) hX (by kernel_rfl) impl_functionOfTwo_5.I_ok (by kernel_rfl) (by kernel_rfl) (by kernel_rfl) hfn (fun xs hp => by
    dsimp only [impl_functionOfTwo_5.E] at hp ⊢
    split at hp
    · exact h _ _ hp
    · cases hp)
theorem impl_functionOfTwo_5.ok : CallSpec Try.prog impl_functionOfTwo_5.E := impl_functionOfTwo_5.ok_of (by simp [impl_functionOfTwo_5.X]) (fun ds rb dom G h qs hq => by
  dsimp only [impl_functionOfTwo_5.E] at h
  split at h
  case h_2 => cases h
  cases h
  match qs, hq with
  | [.i a, .i b], _ => rfl) fun a b _ => ⟨0, by rw [impl_functionOfTwo_5.e]⟩

namespace impl_functionOfTwo_6
noncomputable def E : Entry := ⟨68, true, false, fun | [.d (.int .i64 a), .d (.int .i64 b)] => true | _ => false, fun | [.d (.int .i64 a), .d (.int .i64 b)] => ([.one ((.int .i64 (tInt (a == b))), false)], []) | _ => ([], []), fun _ => [], false, fun | [] => some (false, q2, (q2v (operF 6))) | _ => none⟩
end impl_functionOfTwo_6
namespace impl_functionOfTwo_6
noncomputable def X : List Entry := [impl_truth.E]
noncomputable def I : List Inl := [⟨68, Try.f68, ⟨[], [], [], [], [], []⟩⟩]
theorem I_ok : ∀ i ∈ I, Try.prog.funcs[i.f]? = some i.fn ∧ (i.fn.name == "runtime.NumGoroutine") = false := by
  intro i hi
  simp only [I, List.mem_cons, List.not_mem_nil, or_false] at hi
  subst hi
  exact ⟨by kernel_rfl, by kernel_rfl⟩
theorem e (fuel : Nat) (p0 : Int) (p1 : Int) : runF Try.prog X I 0 fuel 68 Try.f68 [.d (.int .i64 p0), .d (.int .i64 p1)] =
  some ([.one ((.int .i64 (tInt (((p0 : Int) == p1)))), false)], []) := by kernel_rfl
end impl_functionOfTwo_6
theorem impl_functionOfTwo_6.ok_of (hX : ∀ E ∈ impl_functionOfTwo_6.X, CallSpec Try.prog E) (hfn : ∀ ds rb dom G, impl_functionOfTwo_6.E.fnOf ds = some (rb, dom, G) → ∀ qs, dom qs = true → impl_functionOfTwo_6.E.m ((qs.map fun q => .d q.d) ++ ds.map .d) = some ([.one (fnD rb (G qs), false)], [])) (h : ∀ (a : Int) (b : Int), (true) = true → ∃ fuel, runF Try.prog impl_functionOfTwo_6.X impl_functionOfTwo_6.I 0 fuel 68 Try.f68 [.d (.int .i64 a), .d (.int .i64 b)] = some ([.one ((.int .i64 (tInt (a == b))), false)], [])) : CallSpec Try.prog impl_functionOfTwo_6.E :=
  callSpec_of (d := 0) hX (by kernel_rfl) impl_functionOfTwo_6.I_ok (by kernel_rfl) (by kernel_rfl) (by kernel_rfl) hfn (fun xs hp => by
    dsimp only [impl_functionOfTwo_6.E] at hp ⊢
    split at hp
    · exact h _ _ hp
    · cases hp)
theorem impl_functionOfTwo_6.ok : CallSpec Try.prog impl_functionOfTwo_6.E := impl_functionOfTwo_6.ok_of (by simp [impl_functionOfTwo_6.X, impl_truth.ok]) (fun ds rb dom G h qs hq => by
  dsimp only [impl_functionOfTwo_6.E] at h
  split at h
  case h_2 => cases h
  cases h
  match qs, hq with
  | [.i a, .i b], _ => rfl) fun a b _ => ⟨0, by rw [impl_functionOfTwo_6.e]⟩

namespace impl_functionOfTwo_7
noncomputable def E : Entry := ⟨69, true, false, fun | [.d (.int .i64 a), .d (.int .i64 b)] => true | _ => false, fun | [.d (.int .i64 a), .d (.int .i64 b)] => ([.one ((.int .i64 (tInt (decide (a < b)))), false)], []) | _ => ([], []), fun _ => [], false, fun | [] => some (false, q2, (q2v (operF 7))) | _ => none⟩
end impl_functionOfTwo_7
namespace impl_functionOfTwo_7
noncomputable def X : List Entry := [impl_truth.E]
noncomputable def I : List Inl := [⟨69, Try.f69, ⟨[], [], [], [], [], []⟩⟩]
theorem I_ok : ∀ i ∈ I, Try.prog.funcs[i.f]? = some i.fn ∧ (i.fn.name == "runtime.NumGoroutine") = false := by
  intro i hi
  simp only [I, List.mem_cons, List.not_mem_nil, or_false] at hi
  subst hi
  exact ⟨by kernel_rfl, by kernel_rfl⟩
theorem e (fuel : Nat) (p0 : Int) (p1 : Int) : runF Try.prog X I 0 fuel 69 Try.f69 [.d (.int .i64 p0), .d (.int .i64 p1)] =
  some ([.one ((.int .i64 (tInt ((decide ((p0 : Int) < p1))))), false)], []) := by kernel_rfl
end impl_functionOfTwo_7
theorem impl_functionOfTwo_7.ok_of (hX : ∀ E ∈ impl_functionOfTwo_7.X, CallSpec Try.prog E) (hfn : ∀ ds rb dom G, impl_functionOfTwo_7.E.fnOf ds = some (rb, dom, G) → ∀ qs, dom qs = true → impl_functionOfTwo_7.E.m ((qs.map fun q => .d q.d) ++ ds.map .d) = some ([.one (fnD rb (G qs), false)], [])) (h : ∀ (a : Int) (b : Int), (true) = true → ∃ fuel, runF Try.prog impl_functionOfTwo_7.X impl_functionOfTwo_7.I 0 fuel 69 Try.f69 [.d (.int .i64 a), .d (.int .i64 b)] = some ([.one ((.int .i64 (tInt (decide (a < b)))), false)], [])) : CallSpec Try.prog impl_functionOfTwo_7.E :=
  callSpec_of (d := 0) hX (by kernel_rfl) impl_functionOfTwo_7.I_ok (by kernel_rfl) (by kernel_rfl) (by kernel_rfl) hfn (fun xs hp => by
    dsimp only [impl_functionOfTwo_7.E] at hp ⊢
    split at hp
    · exact h _ _ hp
    · cases hp)
theorem impl_functionOfTwo_7.ok : CallSpec Try.prog impl_functionOfTwo_7.E := impl_functionOfTwo_7.ok_of (by simp [impl_functionOfTwo_7.X, impl_truth.ok]) (fun ds rb dom G h qs hq => by
  dsimp only [impl_functionOfTwo_7.E] at h
  split at h
  case h_2 => cases h
  cases h
  match qs, hq with
  | [.i a, .i b], _ => rfl) fun a b _ => ⟨0, by rw [impl_functionOfTwo_7.e]⟩

namespace impl_restOf
noncomputable def E : Entry := ⟨70, true, false, fun | [.d (.int .i64 d), .d (.int .i64 n)] => true | _ => false, fun | [.d (.int .i64 d), .d (.int .i64 n)] => ([.one ((.int .i64 (restV d n)), false)], []) | _ => ([], []), fun _ => [], false, fun | [] => some (false, q2, (q2v (operF 8))) | _ => none⟩
end impl_restOf
namespace impl_restOf
noncomputable def X : List Entry := []
noncomputable def I : List Inl := [⟨70, Try.f70, ⟨[], [], [], [], [], []⟩⟩]
theorem I_ok : ∀ i ∈ I, Try.prog.funcs[i.f]? = some i.fn ∧ (i.fn.name == "runtime.NumGoroutine") = false := by
  intro i hi
  simp only [I, List.mem_cons, List.not_mem_nil, or_false] at hi
  subst hi
  exact ⟨by kernel_rfl, by kernel_rfl⟩
theorem e (fuel : Nat) (p0 : Int) (p1 : Int) : runF Try.prog X I 0 fuel 70 Try.f70 [.d (.int .i64 p0), .d (.int .i64 p1)] =
  (bif (decide ((p0 : Int) ≤ 0)) then
  some ([.one ((.int .i64 p1), false)], [])
  else
  (bif decide ((p0 : Int) = 0) then
  none
  else
  (bif decide ((p0 : Int) = 0) then
  none
  else
  some ([.one ((.int .i64 (Int.tmod (IntKind.wrap .i64 ((Int.tmod p1 p0) + p0)) p0)), false)], [])))) := by kernel_rfl
end impl_restOf
theorem impl_restOf.ok_of (hX : ∀ E ∈ impl_restOf.X, CallSpec Try.prog E) (hfn : ∀ ds rb dom G, impl_restOf.E.fnOf ds = some (rb, dom, G) → ∀ qs, dom qs = true → impl_restOf.E.m ((qs.map fun q => .d q.d) ++ ds.map .d) = some ([.one (fnD rb (G qs), false)], [])) (h : ∀ (d : Int) (n : Int), (true) = true → ∃ fuel, runF Try.prog impl_restOf.X impl_restOf.I 0 fuel 70 Try.f70 [.d (.int .i64 d), .d (.int .i64 n)] = some ([.one ((.int .i64 (restV d n)), false)], [])) : CallSpec Try.prog impl_restOf.E :=
  callSpec_of (d := 0) hX (by kernel_rfl) impl_restOf.I_ok (by kernel_rfl) (by kernel_rfl) (by kernel_rfl) hfn (fun xs hp => by
    dsimp only [impl_restOf.E] at hp ⊢
    split at hp
    · exact h _ _ hp
    · cases hp)
theorem impl_restOf.ok : CallSpec Try.prog impl_restOf.E := impl_restOf.ok_of (by simp [impl_restOf.X]) (fun ds rb dom G h qs hq => by
  dsimp only [impl_restOf.E] at h
  split at h
  case h_2 => cases h
  cases h
  match qs, hq with
  | [.i a, .i b], _ => rfl) fun d n _ => ⟨0, by
  rw [impl_restOf.e]
  unfold restV
  by_cases h : d ≤ 0
  · rw [decide_eq_true h]; rfl
  · rw [decide_eq_false h, decide_eq_false (p := d = 0) (by omega)]; rfl⟩

namespace impl_functionOfTwo
noncomputable def E : Entry := ⟨35, true, false, fun | [.d (.int .i64 op)] => true | _ => false, fun | [.d (.int .i64 op)] => ([.one (.nilf, false)], []) | _ => ([], []), fun | [.d (.int .i64 op)] => [(decide (op = 1), ([.one ((.clo 62 []), false)], [])), (decide (op = 2), ([.one ((.clo 64 []), false)], [])), (decide (op = 3), ([.one ((.clo 65 []), false)], [])), (decide (op = 4), ([.one ((.clo 66 []), false)], [])), (decide (op = 5), ([.one ((.clo 67 []), false)], [])), (decide (op = 6), ([.one ((.clo 68 []), false)], [])), (decide (op = 7), ([.one ((.clo 69 []), false)], [])), (decide (op = 8), ([.one ((.clo 70 []), false)], []))] | _ => [], false, fun _ => none⟩
end impl_functionOfTwo
namespace impl_functionOfTwo
noncomputable def X : List Entry := []
noncomputable def I : List Inl := [⟨35, Try.f35, ⟨[], [], [], [], [], []⟩⟩]
theorem I_ok : ∀ i ∈ I, Try.prog.funcs[i.f]? = some i.fn ∧ (i.fn.name == "runtime.NumGoroutine") = false := by
  intro i hi
  simp only [I, List.mem_cons, List.not_mem_nil, or_false] at hi
  subst hi
  exact ⟨by kernel_rfl, by kernel_rfl⟩
theorem e (fuel : Nat) (p0 : Int) : runF Try.prog X I 0 fuel 35 Try.f35 [.d (.int .i64 p0)] =
  (bif (decide ((p0 : Int) < 0)) then
  some ([.one (.nilf, false)], [])
  else
  (bif (decide ((p0 : Int) ≥ 9)) then
  some ([.one (.nilf, false)], [])
  else
  (bif decide (p0 = ((0 : Nat) : Int)) then
  some ([.one (.nilf, false)], [])
  else
  (bif decide (p0 = ((1 : Nat) : Int)) then
  some ([.one ((.clo 62 []), false)], [])
  else
  (bif decide (p0 = ((2 : Nat) : Int)) then
  some ([.one ((.clo 64 []), false)], [])
  else
  (bif decide (p0 = ((3 : Nat) : Int)) then
  some ([.one ((.clo 65 []), false)], [])
  else
  (bif decide (p0 = ((4 : Nat) : Int)) then
  some ([.one ((.clo 66 []), false)], [])
  else
  (bif decide (p0 = ((5 : Nat) : Int)) then
  some ([.one ((.clo 67 []), false)], [])
  else
  (bif decide (p0 = ((6 : Nat) : Int)) then
  some ([.one ((.clo 68 []), false)], [])
  else
  (bif decide (p0 = ((7 : Nat) : Int)) then
  some ([.one ((.clo 69 []), false)], [])
  else
  (bif decide (p0 = ((8 : Nat) : Int)) then
  some ([.one ((.clo 70 []), false)], [])
  else
  none))))))))))) := by kernel_rfl
end impl_functionOfTwo
theorem impl_functionOfTwo.ok_of (hX : ∀ E ∈ impl_functionOfTwo.X, CallSpec Try.prog E) (h : ∀ (op : Int), (true) = true → ∃ fuel, runF Try.prog impl_functionOfTwo.X impl_functionOfTwo.I 0 fuel 35 Try.f35 [.d (.int .i64 op)] = some (bif decide (op = 1) then ([.one ((.clo 62 []), false)], []) else (bif decide (op = 2) then ([.one ((.clo 64 []), false)], []) else (bif decide (op = 3) then ([.one ((.clo 65 []), false)], []) else (bif decide (op = 4) then ([.one ((.clo 66 []), false)], []) else (bif decide (op = 5) then ([.one ((.clo 67 []), false)], []) else (bif decide (op = 6) then ([.one ((.clo 68 []), false)], []) else (bif decide (op = 7) then ([.one ((.clo 69 []), false)], []) else (bif decide (op = 8) then ([.one ((.clo 70 []), false)], []) else ([.one (.nilf, false)], [])))))))))) : CallSpec Try.prog impl_functionOfTwo.E :=
  callSpec_of (d := 0) hX (by kernel_rfl) impl_functionOfTwo.I_ok (by kernel_rfl) (by kernel_rfl) (by kernel_rfl) (fun _ _ _ _ h => by dsimp only [impl_functionOfTwo.E] at h; cases h) (fun xs hp => by
    dsimp only [impl_functionOfTwo.E] at hp ⊢
    split at hp
    · exact h _ hp
    · cases hp)
theorem impl_functionOfTwo.ok : CallSpec Try.prog impl_functionOfTwo.E := impl_functionOfTwo.ok_of (by simp [impl_functionOfTwo.X]) fun op _ => ⟨0, by
  rw [impl_functionOfTwo.e]
  cases ho : opOk op with
  | true => rcases opOk_cases ho with rfl | rfl | rfl | rfl | rfl | rfl | rfl | rfl <;> rfl
  | false =>
    have h := opOk_no ho
    rw [decide_eq_false (p := op = 1) (by omega), decide_eq_false (p := op = 2) (by omega), decide_eq_false (p := op = 3) (by omega), decide_eq_false (p := op = 4) (by omega),
      decide_eq_false (p := op = 5) (by omega), decide_eq_false (p := op = 6) (by omega), decide_eq_false (p := op = 7) (by omega), decide_eq_false (p := op = 8) (by omega)]
    by_cases h1 : op < 0
    · rw [decide_eq_true h1]; rfl
    · by_cases h2 : op ≥ 9
      · rw [decide_eq_false h1, decide_eq_true h2]; rfl
      · have : op = 0 := by omega
        subst this
        rfl⟩

namespace impl_functionOfTwo_f
noncomputable def E : Entry := ⟨35, true, false, fun | [.d (.int .i64 op)] => true | _ => false, fun | [.d (.int .i64 op)] => ([.one (.nilf, false)], []) | _ => ([], []), fun | [.d (.int .i64 op)] => [(opOk op, ([.one ((.fn false q2 ((q2v (operF op)))), false)], []))] | _ => [], false, fun _ => none⟩
end impl_functionOfTwo_f
theorem impl_functionOfTwo_f.ok : CallSpec Try.prog impl_functionOfTwo_f.E := CallSpec.le impl_functionOfTwo.ok rfl (fun _ _ _ _ h => by dsimp only [impl_functionOfTwo_f.E] at h; cases h) fun xs h => by
  dsimp only [impl_functionOfTwo_f.E] at h
  split at h
  case h_2 => simp at h
  rename_i op
  refine ⟨rfl, ?_⟩
  simp only [Entry.r, impl_functionOfTwo_f.E, impl_functionOfTwo.E, pickR]
  cases ho : opOk op with
  | true =>
    rcases opOk_cases ho with rfl | rfl | rfl | rfl | rfl | rfl | rfl | rfl
    · exact ⟨.one (.inr (.inr (.inr ⟨impl_functionOfTwo_1.E, [], false, q2, q2v (operF 1), impl_functionOfTwo_1.ok, rfl, rfl, rfl⟩))) .nil, rfl⟩
    · exact ⟨.one (.inr (.inr (.inr ⟨impl_functionOfTwo_2.E, [], false, q2, q2v (operF 2), impl_functionOfTwo_2.ok, rfl, rfl, rfl⟩))) .nil, rfl⟩
    · exact ⟨.one (.inr (.inr (.inr ⟨impl_functionOfTwo_3.E, [], false, q2, q2v (operF 3), impl_functionOfTwo_3.ok, rfl, rfl, rfl⟩))) .nil, rfl⟩
    · exact ⟨.one (.inr (.inr (.inr ⟨impl_functionOfTwo_4.E, [], false, q2, q2v (operF 4), impl_functionOfTwo_4.ok, rfl, rfl, rfl⟩))) .nil, rfl⟩
    · exact ⟨.one (.inr (.inr (.inr ⟨impl_functionOfTwo_5.E, [], false, q2, q2v (operF 5), impl_functionOfTwo_5.ok, rfl, rfl, rfl⟩))) .nil, rfl⟩
    · exact ⟨.one (.inr (.inr (.inr ⟨impl_functionOfTwo_6.E, [], false, q2, q2v (operF 6), impl_functionOfTwo_6.ok, rfl, rfl, rfl⟩))) .nil, rfl⟩
    · exact ⟨.one (.inr (.inr (.inr ⟨impl_functionOfTwo_7.E, [], false, q2, q2v (operF 7), impl_functionOfTwo_7.ok, rfl, rfl, rfl⟩))) .nil, rfl⟩
    · exact ⟨.one (.inr (.inr (.inr ⟨impl_restOf.E, [], false, q2, q2v (operF 8), impl_restOf.ok, rfl, rfl, rfl⟩))) .nil, rfl⟩
  | false =>
    have h := opOk_no ho
    rw [decide_eq_false (p := op = 1) (by omega), decide_eq_false (p := op = 2) (by omega), decide_eq_false (p := op = 3) (by omega), decide_eq_false (p := op = 4) (by omega),
      decide_eq_false (p := op = 5) (by omega), decide_eq_false (p := op = 6) (by omega), decide_eq_false (p := op = 7) (by omega), decide_eq_false (p := op = 8) (by omega)]
    exact ⟨.same .nil, rfl⟩

namespace impl_Reshape
noncomputable def E : Entry := ⟨18, false, false, fun | [.d (.ints .i64 sh), .d (.agg [(.ints .i64 s2), (.ints .i64 da)])] => decide (sh.length < 9223372036854775808) && decide (s2.length < 9223372036854775808) && decide (da.length < 9223372036854775808) | _ => false, fun | [.d (.ints .i64 sh), .d (.agg [(.ints .i64 s2), (.ints .i64 da)])] => ([.agg [((.ints .i64 (reshS sh s2 da)), true), ((.ints .i64 (reshD sh s2 da)), true)], .one ((.bool (reshB sh s2 da)), false)], []) | _ => ([], []), fun _ => [], true, fun _ => none⟩
end impl_Reshape
namespace impl_Reshape
noncomputable def X : List Entry := [impl_layoutOf.E, impl_ValidArray.E, impl_copyList.E]
noncomputable def I : List Inl := [⟨18, Try.f18, ⟨[12, 49], [(1000007, [1, 2, 5, 6, 7, 9, 10, 11, 12, 13, 14, 15, 16, 17, 18, 19, 20, 21, 22, 23, 24, 25, 26, 27, 28, 29, 30, 33, 34, 35, 36, 37, 38, 39, 40, 41, 42, 43, 44, 45, 46, 47, 48, 49, 50, 51])], [], [(9, [0, 1, 2, 4, 5, 3, 6, 7, 8, 9, 10, 11, 12])], [], []⟩⟩]
theorem I_ok : ∀ i ∈ I, Try.prog.funcs[i.f]? = some i.fn ∧ (i.fn.name == "runtime.NumGoroutine") = false := by
  intro i hi
  simp only [I, List.mem_cons, List.not_mem_nil, or_false] at hi
  subst hi
  exact ⟨by kernel_rfl, by kernel_rfl⟩
noncomputable abbrev L0 (fuel n : Nat) (s : St) (k : Kont) := lAt Try.prog X I fuel true 0 false 18 (bodyOf Try.f18) [1, 1, 1, 1, 0, 1, 0, 1, 0] n s k
noncomputable abbrev k0  (fuel : Nat) : Kont := (kAt Try.prog X I fuel true 0 false 18 (bodyOf Try.f18) [1, 1, 1, 1, 0, 1, 0, 1, 0] [] (endK Try.prog Try.f18))
noncomputable def t0 (p0 : List Int) (p1q0 : List Int) (p1q1 : List Int) (x0q2 : Int) (x0q5 : List Int) : St := ⟨[(.imm (.ints .i64 p0)), .dead, .dead, (.ptr 1000000000 0 0), (.ptr 1000000001 0 0), .dead, .dead, .dead, (.all 1000000002 1), .dead, .dead, .dead, .dead, .dead, .dead, .dead, .dead, .dead, .dead, .dead, .dead, .dead, .dead, .dead, .dead, .dead, .dead, .dead, .dead, .dead, .dead, (.imm (.int .i64 (((List.replicate ((volW p0)).toNat (0 : Int)).length : Nat) : Int))), (.imm (.int .i64 x0q2)), .dead, .dead, .dead, .dead, .dead, .dead, .dead, .dead, .dead, .dead, .dead, .dead, .dead, .dead, .dead, .dead, .dead, .dead, .dead], hOf [(1000000000, (.box [(.imm (.ints .i64 p1q0)), (.imm (.ints .i64 p1q1))])), (1000000001, (.box [(.imm .nils), (.imm .nils)])), (1000000002, (.ints .i64 x0q5))], [], []⟩
theorem e (fuel : Nat) (p0 : List Int) (p1q0 : List Int) (p1q1 : List Int) : runF Try.prog X I 0 fuel 18 Try.f18 [.d (.ints .i64 p0), .d (.agg [(.ints .i64 p1q0), (.ints .i64 p1q1)])] =
  (bif decide (p0.length < 9223372036854775808) then
  (bif validS p0 then
  (bif decide (p1q0.length < 9223372036854775808) && decide (p1q1.length < 9223372036854775808) then
  (bif (!(validA p1q0 p1q1)) then
  some ([.agg [((.ints .i64 []), true), ((.ints .i64 []), true)], .one ((.bool false), false)], [])
  else
  (bif decide (0 ≤ ((volW p0) : Int)) && decide (((volW p0) : Int) ≤ (volW p0)) && decide (((volW p0) : Int) ≤ 1152921504606846976) && decide (((8 : Nat) : Int) * (volW p0) ≤ 281474976710656) then
  (bif (decide ((((p1q1.length : Nat) : Int) : Int) > 0)) then
  L0 fuel fuel (t0 p0 p1q0 p1q1 0 ((List.replicate ((volW p0)).toNat (0 : Int)))) (k0  fuel)
  else
  (bif szB p0 then
  some ([.agg [((.ints .i64 p0), true), ((.ints .i64 (List.replicate ((volW p0)).toNat (0 : Int))), true)], .one ((.bool true), false)], [])
  else
  none))
  else
  none))
  else
  none)
  else
  some ([.agg [((.ints .i64 []), true), ((.ints .i64 []), true)], .one ((.bool false), false)], []))
  else
  none) := by kernel_rfl
theorem s0 (fuel n0 : Nat) (p0 : List Int) (p1q0 : List Int) (p1q1 : List Int) (x0q2 : Int) (x0q5 : List Int) : L0 fuel (n0 + 1) (t0 p0 p1q0 p1q1 x0q2 x0q5) (k0  fuel) =
  (bif (decide ((x0q2 : Int) < (((List.replicate ((volW p0)).toNat (0 : Int)).length : Nat) : Int))) then
  (bif decide ((((p1q1.length : Nat) : Int) : Int) = 0) then
  none
  else
  (idx (Int.tmod x0q2 ((p1q1.length : Nat) : Int)) p1q1.length).bind fun j7 =>
  (p1q1[j7]?).bind fun v8 =>
  (idx x0q2 x0q5.length).bind fun j9 =>
  (bif decide (j9 < x0q5.length) then
  L0 fuel n0 (t0 p0 p1q0 p1q1 ((IntKind.wrap .i64 (x0q2 + 1))) ((x0q5.set j9 v8))) (k0  fuel)
  else
  none))
  else
  (bif szB p0 then
  some ([.agg [((.ints .i64 p0), true), ((.ints .i64 x0q5), true)], .one ((.bool true), false)], [])
  else
  none)) := by kernel_rfl
end impl_Reshape
theorem impl_Reshape.ok_of (hX : ∀ E ∈ impl_Reshape.X, CallSpec Try.prog E) (h : ∀ (sh : List Int) (s2 : List Int) (da : List Int), (decide (sh.length < 9223372036854775808) && decide (s2.length < 9223372036854775808) && decide (da.length < 9223372036854775808)) = true → ∃ fuel, runF Try.prog impl_Reshape.X impl_Reshape.I 0 fuel 18 Try.f18 [.d (.ints .i64 sh), .d (.agg [(.ints .i64 s2), (.ints .i64 da)])] = some ([.agg [((.ints .i64 (reshS sh s2 da)), true), ((.ints .i64 (reshD sh s2 da)), true)], .one ((.bool (reshB sh s2 da)), false)], [])) : CallSpec Try.prog impl_Reshape.E :=
  callSpec_of (d := 0) hX (by kernel_rfl) impl_Reshape.I_ok (by kernel_rfl) (by kernel_rfl) (by kernel_rfl) (fun _ _ _ _ h => by dsimp only [impl_Reshape.E] at h; cases h) (fun xs hp => by
    dsimp only [impl_Reshape.E] at hp ⊢
    split at hp
    · exact h _ _ _ hp
    · cases hp)
theorem impl_Reshape.loop (fuel : Nat) (sh s2 da : List Int) (hv : validS sh = true) (hd : ((da.length : Nat) : Int) ≠ 0) : ∀ (m n j : Nat) (out : List Int), (volW sh).toNat - j = m → m < n → j ≤ (volW sh).toNat → out.length = (volW sh).toNat → out.take j = tab j (fun i => da.getD (i % da.length) 0) →
    impl_Reshape.L0 fuel n (impl_Reshape.t0 sh s2 da (j : Int) out) (impl_Reshape.k0 fuel) = some ([.agg [(.ints .i64 sh, true), (.ints .i64 (reD sh da), true)], .one (.bool true, false)], []) := by
  have hb := vol_bd hv
  have hs := (validS_inv hv).1
  intro m
  induction m with
  | zero =>
    intro n j out h1 h2 h3 h4 h5
    obtain ⟨n, rfl⟩ : ∃ n', n = n' + 1 := ⟨n - 1, by omega⟩
    rw [impl_Reshape.s0, List.length_replicate, dge (by omega), szB_of (xs := sh) (by omega)]
    simp only [cond_true, cond_false, reD]
    rw [fill_end (n := (volW sh).toNat) h4 (by rw [show j = (volW sh).toNat by omega] at h5; exact h5)]
  | succ m ih =>
    intro n j out h1 h2 h3 h4 h5
    obtain ⟨n, rfl⟩ : ∃ n', n = n' + 1 := ⟨n - 1, by omega⟩
    have hj2 : j < out.length := by omega
    obtain ⟨g1, g2⟩ := re_get (j := j) hd
    rw [impl_Reshape.s0, List.length_replicate, dlt (by omega), decide_eq_false hd, g1, idx_nat hj2, w1 (by omega)]
    simp only [cond_true, cond_false, Option.bind_some, g2, hj2, decide_true]
    exact ih n (j + 1) _ (by omega) (by omega) (by omega) (by simpa using h4) (fill_step (f := fun i => da.getD (i % da.length) 0) (show j < (volW sh).toNat by omega) h4 h5)
theorem impl_Reshape.ok : CallSpec Try.prog impl_Reshape.E := impl_Reshape.ok_of (by simp [impl_Reshape.X, impl_layoutOf.ok, impl_ValidArray.ok, impl_copyList.ok]) fun sh s2 da h => by
  simp only [Bool.and_eq_true] at h
  refine ⟨(volW sh).toNat + 1, ?_⟩
  rw [impl_Reshape.e, h.1.1, h.1.2, h.2]
  unfold reshS reshD reshB
  cases hv : validS sh with
  | false => rfl
  | true =>
    have hb := vol_bd hv
    have hs := (validS_inv hv).1
    cases hv2 : validA s2 da with
    | false => rfl
    | true =>
      rw [mkOk hb.1 (by omega)]
      simp only [cond_true, Bool.and_self, Bool.not_true, cond_false]
      by_cases hd : ((da.length : Nat) : Int) > 0
      · rw [decide_eq_true hd, cond_true]
        exact impl_Reshape.loop ((volW sh).toNat + 1) sh s2 da hv (by omega) (volW sh).toNat ((volW sh).toNat + 1) 0 _ (by omega) (by omega) (by omega) (by simp) (by simp [tab])
      · have h0 : da = [] := List.eq_nil_of_length_eq_zero (by omega)
        rw [decide_eq_false hd, szB_of (xs := sh) (by omega)]
        have : List.replicate (volW sh).toNat (0 : Int) = reD sh da := by
          rw [h0]
          apply List.ext_getElem?
          intro i
          by_cases hi : i < (volW sh).toNat
          · unfold reD; rw [tab_get hi]; simp [hi]
          · rw [List.getElem?_eq_none (by simp; omega), List.getElem?_eq_none (by unfold reD; rw [tab_length]; omega)]
        rw [this]
        rfl

namespace slices_Equal_int_int
noncomputable def E : Entry := ⟨36, true, false, fun | [.d (.ints .i64 xs), .d (.ints .i64 ys)] => decide (xs.length < 9223372036854775808) && decide (ys.length < 9223372036854775808) | _ => false, fun | [.d (.ints .i64 xs), .d (.ints .i64 ys)] => ([.one ((.bool (decide (xs = ys))), false)], []) | _ => ([], []), fun _ => [], false, fun _ => none⟩
end slices_Equal_int_int
namespace slices_Equal_int_int
noncomputable def X : List Entry := []
noncomputable def I : List Inl := [⟨36, Try.f36, ⟨[], [(1000004, [2, 3, 4, 5, 6, 7, 8, 9, 10, 11, 14, 15, 16, 17, 18, 19, 20, 21, 22, 23, 24, 25])], [], [(6, [0, 1, 4, 5, 2, 3, 6, 7, 8])], [], []⟩⟩]
theorem I_ok : ∀ i ∈ I, Try.prog.funcs[i.f]? = some i.fn ∧ (i.fn.name == "runtime.NumGoroutine") = false := by
  intro i hi
  simp only [I, List.mem_cons, List.not_mem_nil, or_false] at hi
  subst hi
  exact ⟨by kernel_rfl, by kernel_rfl⟩
noncomputable abbrev L0 (fuel n : Nat) (s : St) (k : Kont) := lAt Try.prog X I fuel true 0 false 36 (bodyOf Try.f36) [1, 1, 0, 1, 0] n s k
noncomputable abbrev k0  (fuel : Nat) : Kont := (kAt Try.prog X I fuel true 0 false 36 (bodyOf Try.f36) [1, 1, 0, 1, 0] [] (endK Try.prog Try.f36))
noncomputable def t0 (p0 : List Int) (p1 : List Int) (x0q3 : Int) : St := ⟨[(.imm (.ints .i64 p0)), (.imm (.ints .i64 p1)), .dead, .dead, .dead, .dead, .dead, .dead, .dead, .dead, .dead, .dead, (.imm (.int .i64 ((p0.length : Nat) : Int))), (.imm (.int .i64 x0q3)), .dead, .dead, .dead, .dead, .dead, .dead, .dead, .dead, .dead, .dead, .dead, .dead], hOf [], [], []⟩
theorem e (fuel : Nat) (p0 : List Int) (p1 : List Int) : runF Try.prog X I 0 fuel 36 Try.f36 [.d (.ints .i64 p0), .d (.ints .i64 p1)] =
  (bif ((((p0.length : Nat) : Int) : Int) != ((p1.length : Nat) : Int)) then
  some ([.one ((.bool false), false)], [])
  else
  L0 fuel fuel (t0 p0 p1 0) (k0  fuel)) := by kernel_rfl
theorem s0 (fuel n0 : Nat) (p0 : List Int) (p1 : List Int) (x0q3 : Int) : L0 fuel (n0 + 1) (t0 p0 p1 x0q3) (k0  fuel) =
  (bif (decide ((x0q3 : Int) < ((p0.length : Nat) : Int))) then
  (idx x0q3 p0.length).bind fun j9 =>
  (p0[j9]?).bind fun v10 =>
  (idx x0q3 p1.length).bind fun j11 =>
  (p1[j11]?).bind fun v12 =>
  (bif ((v10 : Int) != v12) then
  some ([.one ((.bool false), false)], [])
  else
  L0 fuel n0 (t0 p0 p1 ((IntKind.wrap .i64 (x0q3 + 1)))) (k0  fuel))
  else
  some ([.one ((.bool true), false)], [])) := by kernel_rfl
end slices_Equal_int_int
theorem slices_Equal_int_int.ok_of (hX : ∀ E ∈ slices_Equal_int_int.X, CallSpec Try.prog E) (h : ∀ (xs : List Int) (ys : List Int), (decide (xs.length < 9223372036854775808) && decide (ys.length < 9223372036854775808)) = true → ∃ fuel, runF Try.prog slices_Equal_int_int.X slices_Equal_int_int.I 0 fuel 36 Try.f36 [.d (.ints .i64 xs), .d (.ints .i64 ys)] = some ([.one ((.bool (decide (xs = ys))), false)], [])) : CallSpec Try.prog slices_Equal_int_int.E :=
  callSpec_of (d := 0) hX (by kernel_rfl) slices_Equal_int_int.I_ok (by kernel_rfl) (by kernel_rfl) (by kernel_rfl) (fun _ _ _ _ h => by dsimp only [slices_Equal_int_int.E] at h; cases h) (fun xs hp => by
    dsimp only [slices_Equal_int_int.E] at hp ⊢
    split at hp
    · exact h _ _ hp
    · cases hp)
theorem slices_Equal_int_int.loop (fuel : Nat) (xs ys : List Int) (hl : xs.length = ys.length) (hx : xs.length < 9223372036854775808) : ∀ (m n j : Nat), xs.length - j = m → m < n → j ≤ xs.length →
    slices_Equal_int_int.L0 fuel n (slices_Equal_int_int.t0 xs ys (j : Int)) (slices_Equal_int_int.k0 fuel) = some ([.one (.bool (decide (xs.drop j = ys.drop j)), false)], []) := by
  intro m
  induction m with
  | zero =>
    intro n j h1 h2 h3
    obtain ⟨n, rfl⟩ : ∃ n', n = n' + 1 := ⟨n - 1, by omega⟩
    have hj : ¬ j < xs.length := by omega
    rw [slices_Equal_int_int.s0, dge hj, dropE hj, dropE (xs := ys) (by omega)]
    rfl
  | succ m ih =>
    intro n j h1 h2 h3
    obtain ⟨n, rfl⟩ : ∃ n', n = n' + 1 := ⟨n - 1, by omega⟩
    have hj : j < xs.length := by omega
    have hj2 : j < ys.length := by omega
    rw [slices_Equal_int_int.s0, dlt hj, idx_nat hj, idx_nat hj2, w1 (by omega), dropS hj, dropS hj2]
    simp only [cond_true, Option.bind_some, getS hj, getS hj2]
    rw [ih n (j + 1) (by omega) (by omega) (by omega)]
    by_cases hv : xs[j] = ys[j]
    · rw [hv]
      simp only [bne_self_eq_false, cond_false, List.cons.injEq, true_and]
    · have : (xs[j] != ys[j]) = true := by simp [hv]
      rw [this]
      simp only [cond_true, List.cons.injEq, hv, false_and, decide_false]

theorem slices_Equal_int_int.ok : CallSpec Try.prog slices_Equal_int_int.E := slices_Equal_int_int.ok_of (by simp [slices_Equal_int_int.X]) fun xs ys h => by
  simp only [Bool.and_eq_true, decide_eq_true_eq] at h
  refine ⟨xs.length + 1, ?_⟩
  rw [slices_Equal_int_int.e]
  by_cases hl : xs.length = ys.length
  · have := slices_Equal_int_int.loop (xs.length + 1) xs ys hl h.1 xs.length (xs.length + 1) 0 (by omega) (by omega) (by omega)
    simp only [List.drop_zero] at this
    simp only [hl, bne_self_eq_false, cond_false]
    rw [← hl]
    exact this
  · have hne : xs ≠ ys := fun e => hl (e ▸ rfl)
    have : (((xs.length : Nat) : Int) != ((ys.length : Nat) : Int)) = true := by simp; omega
    rw [this]
    simp [hne]

namespace impl_pairwise
noncomputable def E : Entry := ⟨37, false, false, fun | [.d (.fn false dom G), .d (.ints .i64 xs), .d (.ints .i64 ys)] => szB xs && decide (xs.length ≤ ys.length) && pwB dom xs ys | _ => false, fun | [.d (.fn false dom G), .d (.ints .i64 xs), .d (.ints .i64 ys)] => ([.one ((.ints .i64 (pwD G xs ys)), true)], []) | _ => ([], []), fun _ => [], true, fun _ => none⟩
end impl_pairwise
namespace impl_pairwise
noncomputable def X : List Entry := []
noncomputable def I : List Inl := [⟨37, Try.f37, ⟨[], [(1000003, [3, 4, 5, 6, 8, 9, 10, 11, 12, 15, 16, 17, 18, 19, 20, 21, 22, 23, 24, 25, 26, 27, 28, 29, 30, 31])], [], [(5, [0, 1, 2, 3, 4, 7, 8, 5, 6, 9, 10, 11, 12, 13])], [], []⟩⟩]
theorem I_ok : ∀ i ∈ I, Try.prog.funcs[i.f]? = some i.fn ∧ (i.fn.name == "runtime.NumGoroutine") = false := by
  intro i hi
  simp only [I, List.mem_cons, List.not_mem_nil, or_false] at hi
  subst hi
  exact ⟨by kernel_rfl, by kernel_rfl⟩
noncomputable abbrev L0 (fuel n : Nat) (s : St) (k : Kont) := lAt Try.prog X I fuel true 0 false 37 (bodyOf Try.f37) [1, 1, 0, 1, 0] n s k
noncomputable abbrev k0  (fuel : Nat) : Kont := (kAt Try.prog X I fuel true 0 false 37 (bodyOf Try.f37) [1, 1, 0, 1, 0] [] (endK Try.prog Try.f37))
noncomputable def t0 (p0d : List Q → Bool) (p0g : List Q → Int) (p1 : List Int) (p2 : List Int) (x0q5 : Int) (x0q6 : List Int) : St := ⟨[(.imm (.fn false p0d p0g)), (.imm (.ints .i64 p1)), (.imm (.ints .i64 p2)), .dead, .dead, .dead, .dead, (.all 1000000000 1), .dead, .dead, .dead, .dead, .dead, (.imm (.int .i64 (((List.replicate (((p1.length : Nat) : Int)).toNat (0 : Int)).length : Nat) : Int))), (.imm (.int .i64 x0q5)), .dead, .dead, .dead, .dead, .dead, .dead, .dead, .dead, .dead, .dead, .dead, .dead, .dead, .dead, .dead, .dead, .dead], hOf [(1000000000, (.ints .i64 x0q6))], [], []⟩
theorem e (fuel : Nat) (p0d : List Q → Bool) (p0g : List Q → Int) (p1 : List Int) (p2 : List Int) : runF Try.prog X I 0 fuel 37 Try.f37 [.d (.fn false p0d p0g), .d (.ints .i64 p1), .d (.ints .i64 p2)] =
  (bif decide (0 ≤ (((p1.length : Nat) : Int) : Int)) && decide ((((p1.length : Nat) : Int) : Int) ≤ ((p1.length : Nat) : Int)) && decide ((((p1.length : Nat) : Int) : Int) ≤ 1152921504606846976) && decide (((8 : Nat) : Int) * ((p1.length : Nat) : Int) ≤ 281474976710656) then
  L0 fuel fuel (t0 p0d p0g p1 p2 0 ((List.replicate (((p1.length : Nat) : Int)).toNat (0 : Int)))) (k0  fuel)
  else
  none) := by kernel_rfl
theorem s0 (fuel n0 : Nat) (p0d : List Q → Bool) (p0g : List Q → Int) (p1 : List Int) (p2 : List Int) (x0q5 : Int) (x0q6 : List Int) : L0 fuel (n0 + 1) (t0 p0d p0g p1 p2 x0q5 x0q6) (k0  fuel) =
  (bif (decide ((x0q5 : Int) < (((List.replicate (((p1.length : Nat) : Int)).toNat (0 : Int)).length : Nat) : Int))) then
  (idx x0q5 p1.length).bind fun j11 =>
  (p1[j11]?).bind fun v12 =>
  (idx x0q5 p2.length).bind fun j13 =>
  (p2[j13]?).bind fun v14 =>
  (bif (p0d [Q.i v12, Q.i v14]) then
  (idx x0q5 x0q6.length).bind fun j15 =>
  (bif decide (j15 < x0q6.length) then
  L0 fuel n0 (t0 p0d p0g p1 p2 ((IntKind.wrap .i64 (x0q5 + 1))) ((x0q6.set j15 (p0g [Q.i v12, Q.i v14])))) (k0  fuel)
  else
  none)
  else
  none)
  else
  some ([.one ((.ints .i64 x0q6), true)], [])) := by kernel_rfl
end impl_pairwise
theorem impl_pairwise.ok_of (hX : ∀ E ∈ impl_pairwise.X, CallSpec Try.prog E) (h : ∀ (dom : List Q → Bool) (G : List Q → Int) (xs : List Int) (ys : List Int), (szB xs && decide (xs.length ≤ ys.length) && pwB dom xs ys) = true → ∃ fuel, runF Try.prog impl_pairwise.X impl_pairwise.I 0 fuel 37 Try.f37 [.d (.fn false dom G), .d (.ints .i64 xs), .d (.ints .i64 ys)] = some ([.one ((.ints .i64 (pwD G xs ys)), true)], [])) : CallSpec Try.prog impl_pairwise.E :=
  callSpec_of (d := 0) hX (by kernel_rfl) impl_pairwise.I_ok (by kernel_rfl) (by kernel_rfl) (by kernel_rfl) (fun _ _ _ _ h => by dsimp only [impl_pairwise.E] at h; cases h) (fun xs hp => by
    dsimp only [impl_pairwise.E] at hp ⊢
    split at hp
    · exact h _ _ _ _ hp
    · cases hp)
theorem impl_pairwise.ok : CallSpec Try.prog impl_pairwise.E := impl_pairwise.ok_of (by simp [impl_pairwise.X]) fun dom G xs ys h => ⟨xs.length + 1, by
  simp only [Bool.and_eq_true, decide_eq_true_eq] at h
  have hx := szB_le h.1.1
  have hA : (pwD G xs ys).length = xs.length := tab_length _ _
  rw [impl_pairwise.e, mkOk (by omega) (by omega), cond_true]
  refine run_loop (N := xs.length) (fun n j out => impl_pairwise.L0 (xs.length + 1) n (impl_pairwise.t0 dom G xs ys (j : Int) out) (impl_pairwise.k0 (xs.length + 1))) (fun j out => out = part (pwD G xs ys) j) ?_ ?_ (xs.length + 1) 0 _ (by omega) (by omega) (by rw [part_zero, hA]; rfl)
  · intro n out ho
    rw [← hA, part_all] at ho
    rw [impl_pairwise.s0, List.length_replicate, Int.toNat_natCast, dge (by omega), ho]
    rfl
  · intro n j out hj ho
    have hol : out.length = xs.length := by rw [ho, part_length (by omega), hA]
    have hy : j < ys.length := by omega
    rw [impl_pairwise.s0, List.length_replicate, Int.toNat_natCast, dlt hj, idx_nat hj, idx_nat hy, idx_nat (by omega), w1 (by omega)]
    simp only [cond_true, Option.bind_some, getD_get hj, getD_get hy]
    rw [pwB_get h.2 hj, decide_eq_true (by omega)]
    refine ⟨_, ?_, rfl⟩
    rw [ho, part_set (by omega)]
    exact tab_getD hj⟩

namespace impl_Combine
noncomputable def E : Entry := ⟨15, false, false, fun | [.d (.int .i64 op), .d (.agg [(.ints .i64 s1), (.ints .i64 d1)]), .d (.agg [(.ints .i64 s2), (.ints .i64 d2)])] => decide (s1.length < 9223372036854775808) && decide (d1.length < 9223372036854775808) && decide (s2.length < 9223372036854775808) && decide (d2.length < 9223372036854775808) | _ => false, fun | [.d (.int .i64 op), .d (.agg [(.ints .i64 s1), (.ints .i64 d1)]), .d (.agg [(.ints .i64 s2), (.ints .i64 d2)])] => ([.agg [((.ints .i64 (comS op s1 d1 s2 d2)), true), ((.ints .i64 (comD op s1 d1 s2 d2)), true)], .one ((.bool (comB op s1 d1 s2 d2)), false)], []) | _ => ([], []), fun _ => [], true, fun _ => none⟩
end impl_Combine
namespace impl_Combine
noncomputable def X : List Entry := [impl_functionOfTwo_f.E, impl_ValidArray.E, impl_Reshape.E, slices_Equal_int_int.E, impl_copyList.E, impl_pairwise.E]
noncomputable def I : List Inl := [⟨15, Try.f15, ⟨[32, 43, 55, 61], [], [], [(10, [0, 3, 4, 6, 1, 5, 7, 2, 8, 9, 10, 11])], [], []⟩⟩]
theorem I_ok : ∀ i ∈ I, Try.prog.funcs[i.f]? = some i.fn ∧ (i.fn.name == "runtime.NumGoroutine") = false := by
  intro i hi
  simp only [I, List.mem_cons, List.not_mem_nil, or_false] at hi
  subst hi
  exact ⟨by kernel_rfl, by kernel_rfl⟩
theorem e (fuel : Nat) (p0 : Int) (p1q0 : List Int) (p1q1 : List Int) (p2q0 : List Int) (p2q1 : List Int) : runF Try.prog X I 0 fuel 15 Try.f15 [.d (.int .i64 p0), .d (.agg [(.ints .i64 p1q0), (.ints .i64 p1q1)]), .d (.agg [(.ints .i64 p2q0), (.ints .i64 p2q1)])] =
  (bif opOk p0 then
  (bif decide (p1q0.length < 9223372036854775808) && decide (p1q1.length < 9223372036854775808) then
  (bif (!(validA p1q0 p1q1)) then
  some ([.agg [((.ints .i64 []), true), ((.ints .i64 []), true)], .one ((.bool false), false)], [])
  else
  (bif decide (p2q0.length < 9223372036854775808) && decide (p2q1.length < 9223372036854775808) then
  (bif (!(validA p2q0 p2q1)) then
  some ([.agg [((.ints .i64 []), true), ((.ints .i64 []), true)], .one ((.bool false), false)], [])
  else
  (bif ((((p1q0.length : Nat) : Int) : Int) == 0) then
  (bif decide (p2q0.length < 9223372036854775808) && decide (p1q0.length < 9223372036854775808) && decide (p1q1.length < 9223372036854775808) then
  (bif decide (((reshS p2q0 p1q0 p1q1)).length < 9223372036854775808) && decide (p2q0.length < 9223372036854775808) then
  (bif (!(decide (((reshS p2q0 p1q0 p1q1)) = p2q0))) then
  some ([.agg [((.ints .i64 []), true), ((.ints .i64 []), true)], .one ((.bool false), false)], [])
  else
  (bif szB ((reshS p2q0 p1q0 p1q1)) then
  (bif szB ((reshD p2q0 p1q0 p1q1)) && decide (((reshD p2q0 p1q0 p1q1)).length ≤ p2q1.length) && pwB q2 ((reshD p2q0 p1q0 p1q1)) p2q1 then
  some ([.agg [((.ints .i64 ((reshS p2q0 p1q0 p1q1))), true), ((.ints .i64 (pwD ((q2v (operF p0))) ((reshD p2q0 p1q0 p1q1)) p2q1)), true)], .one ((.bool true), false)], [])
  else
  none)
  else
  none))
  else
  none)
  else
  none)
  else
  (bif ((((p2q0.length : Nat) : Int) : Int) == 0) then
  (bif decide (p1q0.length < 9223372036854775808) && decide (p2q0.length < 9223372036854775808) && decide (p2q1.length < 9223372036854775808) then
  (bif decide (p1q0.length < 9223372036854775808) && decide (((reshS p1q0 p2q0 p2q1)).length < 9223372036854775808) then
  (bif (!(decide (p1q0 = ((reshS p1q0 p2q0 p2q1))))) then
  some ([.agg [((.ints .i64 []), true), ((.ints .i64 []), true)], .one ((.bool false), false)], [])
  else
  (bif szB p1q0 then
  (bif szB p1q1 && decide (p1q1.length ≤ ((reshD p1q0 p2q0 p2q1)).length) && pwB q2 p1q1 ((reshD p1q0 p2q0 p2q1)) then
  some ([.agg [((.ints .i64 p1q0), true), ((.ints .i64 (pwD ((q2v (operF p0))) p1q1 ((reshD p1q0 p2q0 p2q1)))), true)], .one ((.bool true), false)], [])
  else
  none)
  else
  none))
  else
  none)
  else
  none)
  else
  (bif decide (p1q0.length < 9223372036854775808) && decide (p2q0.length < 9223372036854775808) then
  (bif (!(decide (p1q0 = p2q0))) then
  some ([.agg [((.ints .i64 []), true), ((.ints .i64 []), true)], .one ((.bool false), false)], [])
  else
  (bif szB p1q0 then
  (bif szB p1q1 && decide (p1q1.length ≤ p2q1.length) && pwB q2 p1q1 p2q1 then
  some ([.agg [((.ints .i64 p1q0), true), ((.ints .i64 (pwD ((q2v (operF p0))) p1q1 p2q1)), true)], .one ((.bool true), false)], [])
  else
  none)
  else
  none))
  else
  none))))
  else
  none))
  else
  none)
  else
  some ([.agg [((.ints .i64 []), true), ((.ints .i64 []), true)], .one ((.bool false), false)], [])) := by kernel_rfl
end impl_Combine
theorem impl_Combine.ok_of (hX : ∀ E ∈ impl_Combine.X, CallSpec Try.prog E) (h : ∀ (op : Int) (s1 : List Int) (d1 : List Int) (s2 : List Int) (d2 : List Int), (decide (s1.length < 9223372036854775808) && decide (d1.length < 9223372036854775808) && decide (s2.length < 9223372036854775808) && decide (d2.length < 9223372036854775808)) = true → ∃ fuel, runF Try.prog impl_Combine.X impl_Combine.I 0 fuel 15 Try.f15 [.d (.int .i64 op), .d (.agg [(.ints .i64 s1), (.ints .i64 d1)]), .d (.agg [(.ints .i64 s2), (.ints .i64 d2)])] = some ([.agg [((.ints .i64 (comS op s1 d1 s2 d2)), true), ((.ints .i64 (comD op s1 d1 s2 d2)), true)], .one ((.bool (comB op s1 d1 s2 d2)), false)], [])) : CallSpec Try.prog impl_Combine.E :=
  callSpec_of (d := 0) hX (by kernel_rfl) impl_Combine.I_ok (by kernel_rfl) (by kernel_rfl) (by kernel_rfl) (fun _ _ _ _ h => by dsimp only [impl_Combine.E] at h; cases h) (fun xs hp => by
    dsimp only [impl_Combine.E] at hp ⊢
    split at hp
    · exact h _ _ _ _ _ hp
    · cases hp)
theorem impl_Combine.ok : CallSpec Try.prog impl_Combine.E := impl_Combine.ok_of (by simp [impl_Combine.X, impl_functionOfTwo_f.ok, impl_ValidArray.ok, impl_Reshape.ok, slices_Equal_int_int.ok, impl_copyList.ok, impl_pairwise.ok]) fun op s1 d1 s2 d2 h => ⟨0, by
  rw [impl_Combine.e]
  simp only [Bool.and_eq_true] at h
  obtain ⟨⟨⟨h1, h2⟩, h3⟩, h4⟩ := h
  simp only [h1, h2, h3, h4, Bool.and_self, Bool.true_and, Bool.and_true, cond_true, len0, pwB_q2, pwD_q2]
  unfold comS comD
  cases ho : opOk op with
  | false => simp only [comB, ho]; rfl
  | true =>
    cases v1 : validA s1 d1 with
    | false => simp only [comB, ho, v1]; rfl
    | true =>
      cases v2 : validA s2 d2 with
      | false => simp only [comB, ho, v1, v2]; rfl
      | true =>
        have b1 := validA_len v1
        have b2 := validA_len v2
        simp only [comB, ho, v1, v2, Bool.and_self, Bool.true_and, cond_true, Bool.not_true, cond_false]
        by_cases e1 : s1.length = 0
        · have e1' := List.length_eq_zero_iff.mp e1
          have hr := resh_sc (e1' ▸ v1) v2 e1'
          have b3 := resh_len s2 s1 d1
          have hd : (reshD s2 s1 d1).length = d2.length := by rw [hr.2, tab_length]
          rw [decide_eq_true e1, cond_true, decide_eq_true (p := (reshS s2 s1 d1).length < 9223372036854775808) (by omega), cond_true, decide_eq_true hr.1, szB_of (by omega), szB_of (by omega), decide_eq_true (p := (reshD s2 s1 d1).length ≤ d2.length) (by omega), hd]
          subst e1'
          rw [cD_a op v1 v2, hr.1]
          simp [fitB, cS]
        · rw [decide_eq_false e1, cond_false]
          by_cases e2 : s2.length = 0
          · have e2' := List.length_eq_zero_iff.mp e2
            have hr := resh_sc (e2' ▸ v2) v1 e2'
            have b3 := resh_len s1 s2 d2
            have hd : (reshD s1 s2 d2).length = d1.length := by rw [hr.2, tab_length]
            rw [decide_eq_true e2, cond_true, decide_eq_true (p := (reshS s1 s2 d2).length < 9223372036854775808) (by omega), cond_true, decide_eq_true hr.1.symm, szB_of (by omega), szB_of (by omega), decide_eq_true (p := d1.length ≤ (reshD s1 s2 d2).length) (by omega)]
            subst e2'
            rw [cD_b op v1 v2 e1]
            simp [fitB, cS, e1]
          · rw [decide_eq_false e2, cond_false]
            by_cases e3 : s1 = s2
            · subst e3
              have l1 := vol_len v1
              have l2 := vol_len v2
              rw [decide_eq_true rfl, szB_of (by omega), szB_of (by omega), decide_eq_true (p := d1.length ≤ d2.length) (by omega), cD_c op v1 v2 e1]
              simp [fitB, cS, e1]
            · rw [decide_eq_false e3]
              simp [fitB, e1, e2, e3]⟩

namespace spec_validOp
noncomputable def E : Entry := ⟨38, true, false, fun | [.d (.int .i64 op)] => true | _ => false, fun | [.d (.int .i64 op)] => ([.one ((.bool (opOk op)), false)], []) | _ => ([], []), fun _ => [], false, fun _ => none⟩
end spec_validOp
namespace spec_validOp
noncomputable def X : List Entry := [spec_inRange.E]
noncomputable def I : List Inl := [⟨38, Try.f38, ⟨[], [], [], [], [], []⟩⟩]
theorem I_ok : ∀ i ∈ I, Try.prog.funcs[i.f]? = some i.fn ∧ (i.fn.name == "runtime.NumGoroutine") = false := by
  intro i hi
  simp only [I, List.mem_cons, List.not_mem_nil, or_false] at hi
  subst hi
  exact ⟨by kernel_rfl, by kernel_rfl⟩
theorem e (fuel : Nat) (p0 : Int) : runF Try.prog X I 0 fuel 38 Try.f38 [.d (.int .i64 p0)] =
  some ([.one ((.bool (decide (1 ≤ p0) && decide (p0 ≤ 8))), false)], []) := by kernel_rfl
end spec_validOp
theorem spec_validOp.ok_of (hX : ∀ E ∈ spec_validOp.X, CallSpec Try.prog E) (h : ∀ (op : Int), (true) = true → ∃ fuel, runF Try.prog spec_validOp.X spec_validOp.I 0 fuel 38 Try.f38 [.d (.int .i64 op)] = some ([.one ((.bool (opOk op)), false)], [])) : CallSpec Try.prog spec_validOp.E :=
  callSpec_of (d := 0) hX (by kernel_rfl) spec_validOp.I_ok (by kernel_rfl) (by kernel_rfl) (by kernel_rfl) (fun _ _ _ _ h => by dsimp only [spec_validOp.E] at h; cases h) (fun xs hp => by
    dsimp only [spec_validOp.E] at hp ⊢
    split at hp
    · exact h _ hp
    · cases hp)
theorem spec_validOp.ok : CallSpec Try.prog spec_validOp.E := spec_validOp.ok_of (by simp [spec_validOp.X, spec_inRange.ok]) fun op _ => ⟨0, by rw [spec_validOp.e]; rfl⟩

namespace spec_sameInts
noncomputable def E : Entry := ⟨71, true, false, fun | [.d (.ints .i64 xs), .d (.ints .i64 ys)] => decide (xs.length < 9223372036854775808) && decide (ys.length < 9223372036854775808) | _ => false, fun | [.d (.ints .i64 xs), .d (.ints .i64 ys)] => ([.one ((.bool (decide (xs = ys))), false)], []) | _ => ([], []), fun _ => [], false, fun _ => none⟩
end spec_sameInts
namespace spec_sameInts
noncomputable def X : List Entry := []
noncomputable def I : List Inl := [⟨71, Try.f71, ⟨[], [(1000004, [2, 3, 4, 6, 7, 8, 9, 10, 11, 12, 13, 14, 15, 16, 17, 18, 19, 20, 21, 22, 23, 24, 25])], [], [(6, [0, 1, 4, 5, 2, 3, 6, 7, 8])], [], []⟩⟩]
theorem I_ok : ∀ i ∈ I, Try.prog.funcs[i.f]? = some i.fn ∧ (i.fn.name == "runtime.NumGoroutine") = false := by
  intro i hi
  simp only [I, List.mem_cons, List.not_mem_nil, or_false] at hi
  subst hi
  exact ⟨by kernel_rfl, by kernel_rfl⟩
noncomputable abbrev L0 (fuel n : Nat) (s : St) (k : Kont) := lAt Try.prog X I fuel true 0 false 71 (bodyOf Try.f71) [1, 1, 0, 1, 0] n s k
noncomputable abbrev k0  (fuel : Nat) : Kont := (kAt Try.prog X I fuel true 0 false 71 (bodyOf Try.f71) [1, 1, 0, 1, 0] [] (endK Try.prog Try.f71))
noncomputable def t0 (p0 : List Int) (p1 : List Int) (x0q2 : Int) : St := ⟨[(.imm (.ints .i64 p0)), (.imm (.ints .i64 p1)), .dead, .dead, .dead, (.imm (.int .i64 x0q2)), .dead, .dead, .dead, .dead, .dead, .dead, .dead, .dead, .dead, .dead, .dead, .dead, .dead, .dead, .dead, .dead, .dead, .dead, .dead, .dead], hOf [], [], []⟩
theorem e (fuel : Nat) (p0 : List Int) (p1 : List Int) : runF Try.prog X I 0 fuel 71 Try.f71 [.d (.ints .i64 p0), .d (.ints .i64 p1)] =
  (bif ((((p0.length : Nat) : Int) : Int) != ((p1.length : Nat) : Int)) then
  some ([.one ((.bool false), false)], [])
  else
  L0 fuel fuel (t0 p0 p1 0) (k0  fuel)) := by kernel_rfl
theorem s0 (fuel n0 : Nat) (p0 : List Int) (p1 : List Int) (x0q2 : Int) : L0 fuel (n0 + 1) (t0 p0 p1 x0q2) (k0  fuel) =
  (bif (decide ((x0q2 : Int) < ((p0.length : Nat) : Int))) then
  (idx x0q2 p0.length).bind fun j9 =>
  (p0[j9]?).bind fun v10 =>
  (idx x0q2 p1.length).bind fun j11 =>
  (p1[j11]?).bind fun v12 =>
  (bif ((v10 : Int) != v12) then
  some ([.one ((.bool false), false)], [])
  else
  L0 fuel n0 (t0 p0 p1 ((IntKind.wrap .i64 (x0q2 + 1)))) (k0  fuel))
  else
  some ([.one ((.bool true), false)], [])) := by kernel_rfl
end spec_sameInts
theorem spec_sameInts.ok_of (hX : ∀ E ∈ spec_sameInts.X, CallSpec Try.prog E) (h : ∀ (xs : List Int) (ys : List Int), (decide (xs.length < 9223372036854775808) && decide (ys.length < 9223372036854775808)) = true → ∃ fuel, runF Try.prog spec_sameInts.X spec_sameInts.I 0 fuel 71 Try.f71 [.d (.ints .i64 xs), .d (.ints .i64 ys)] = some ([.one ((.bool (decide (xs = ys))), false)], [])) : CallSpec Try.prog spec_sameInts.E :=
  callSpec_of (d := 0) hX (by kernel_rfl) spec_sameInts.I_ok (by kernel_rfl) (by kernel_rfl) (by kernel_rfl) (fun _ _ _ _ h => by dsimp only [spec_sameInts.E] at h; cases h) (fun xs hp => by
    dsimp only [spec_sameInts.E] at hp ⊢
    split at hp
    · exact h _ _ hp
    · cases hp)
theorem spec_sameInts.loop (fuel : Nat) (xs ys : List Int) (hl : xs.length = ys.length) (hx : xs.length < 9223372036854775808) : ∀ (m n j : Nat), xs.length - j = m → m < n → j ≤ xs.length →
    spec_sameInts.L0 fuel n (spec_sameInts.t0 xs ys (j : Int)) (spec_sameInts.k0 fuel) = some ([.one (.bool (decide (xs.drop j = ys.drop j)), false)], []) := by
  intro m
  induction m with
  | zero =>
    intro n j h1 h2 h3
    obtain ⟨n, rfl⟩ : ∃ n', n = n' + 1 := ⟨n - 1, by omega⟩
    have hj : ¬ j < xs.length := by omega
    rw [spec_sameInts.s0, dge hj, dropE hj, dropE (xs := ys) (by omega)]
    rfl
  | succ m ih =>
    intro n j h1 h2 h3
    obtain ⟨n, rfl⟩ : ∃ n', n = n' + 1 := ⟨n - 1, by omega⟩
    have hj : j < xs.length := by omega
    have hj2 : j < ys.length := by omega
    rw [spec_sameInts.s0, dlt hj, idx_nat hj, idx_nat hj2, w1 (by omega), dropS hj, dropS hj2]
    simp only [cond_true, Option.bind_some, getS hj, getS hj2]
    rw [ih n (j + 1) (by omega) (by omega) (by omega)]
    by_cases hv : xs[j] = ys[j]
    · rw [hv]
      simp only [bne_self_eq_false, cond_false, List.cons.injEq, true_and]
    · have : (xs[j] != ys[j]) = true := by simp [hv]
      rw [this]
      simp only [cond_true, List.cons.injEq, hv, false_and, decide_false]

theorem spec_sameInts.ok : CallSpec Try.prog spec_sameInts.E := spec_sameInts.ok_of (by simp [spec_sameInts.X]) fun xs ys h => by
  simp only [Bool.and_eq_true, decide_eq_true_eq] at h
  refine ⟨xs.length + 1, ?_⟩
  rw [spec_sameInts.e]
  by_cases hl : xs.length = ys.length
  · have := spec_sameInts.loop (xs.length + 1) xs ys hl h.1 xs.length (xs.length + 1) 0 (by omega) (by omega) (by omega)
    simp only [List.drop_zero] at this
    simp only [hl, bne_self_eq_false, cond_false]
    rw [← hl]
    exact this
  · have hne : xs ≠ ys := fun e => hl (e ▸ rfl)
    have : (((xs.length : Nat) : Int) != ((ys.length : Nat) : Int)) = true := by simp; omega
    rw [this]
    simp [hne]

namespace spec_fits
noncomputable def E : Entry := ⟨39, true, false, fun | [.d (.agg [(.ints .i64 s1), (.ints .i64 d1)]), .d (.agg [(.ints .i64 s2), (.ints .i64 d2)])] => decide (s1.length < 9223372036854775808) && decide (s2.length < 9223372036854775808) | _ => false, fun | [.d (.agg [(.ints .i64 s1), (.ints .i64 d1)]), .d (.agg [(.ints .i64 s2), (.ints .i64 d2)])] => ([.one ((.bool (fitB s1 s2)), false)], []) | _ => ([], []), fun _ => [], false, fun _ => none⟩
end spec_fits
namespace spec_fits
noncomputable def X : List Entry := [spec_sameInts.E]
noncomputable def I : List Inl := [⟨39, Try.f39, ⟨[], [], [], [], [], []⟩⟩]
theorem I_ok : ∀ i ∈ I, Try.prog.funcs[i.f]? = some i.fn ∧ (i.fn.name == "runtime.NumGoroutine") = false := by
  intro i hi
  simp only [I, List.mem_cons, List.not_mem_nil, or_false] at hi
  subst hi
  exact ⟨by kernel_rfl, by kernel_rfl⟩
theorem e (fuel : Nat) (p0q0 : List Int) (p0q1 : List Int) (p1q0 : List Int) (p1q1 : List Int) : runF Try.prog X I 0 fuel 39 Try.f39 [.d (.agg [(.ints .i64 p0q0), (.ints .i64 p0q1)]), .d (.agg [(.ints .i64 p1q0), (.ints .i64 p1q1)])] =
  (bif ((((p0q0.length : Nat) : Int) : Int) == 0) then
  some ([.one ((.bool true), false)], [])
  else
  (bif ((((p1q0.length : Nat) : Int) : Int) == 0) then
  some ([.one ((.bool true), false)], [])
  else
  (bif decide (p0q0.length < 9223372036854775808) && decide (p1q0.length < 9223372036854775808) then
  some ([.one ((.bool (decide (p0q0 = p1q0))), false)], [])
  else
  none))) := by kernel_rfl
end spec_fits
theorem spec_fits.ok_of (hX : ∀ E ∈ spec_fits.X, CallSpec Try.prog E) (h : ∀ (s1 : List Int) (d1 : List Int) (s2 : List Int) (d2 : List Int), (decide (s1.length < 9223372036854775808) && decide (s2.length < 9223372036854775808)) = true → ∃ fuel, runF Try.prog spec_fits.X spec_fits.I 0 fuel 39 Try.f39 [.d (.agg [(.ints .i64 s1), (.ints .i64 d1)]), .d (.agg [(.ints .i64 s2), (.ints .i64 d2)])] = some ([.one ((.bool (fitB s1 s2)), false)], [])) : CallSpec Try.prog spec_fits.E :=
  callSpec_of (d := 0) hX (by kernel_rfl) spec_fits.I_ok (by kernel_rfl) (by kernel_rfl) (by kernel_rfl) (fun _ _ _ _ h => by dsimp only [spec_fits.E] at h; cases h) (fun xs hp => by
    dsimp only [spec_fits.E] at hp ⊢
    split at hp
    · exact h _ _ _ _ hp
    · cases hp)
theorem spec_fits.ok : CallSpec Try.prog spec_fits.E := spec_fits.ok_of (by simp [spec_fits.X, spec_sameInts.ok]) fun s1 d1 s2 d2 h => ⟨0, by
  rw [spec_fits.e, h, len0, len0]
  unfold fitB
  cases decide (s1.length = 0) <;> cases decide (s2.length = 0) <;> rfl⟩

namespace spec_limit
noncomputable def E : Entry := ⟨78, true, false, fun | [.d (.int .i64 n)] => true | _ => false, fun | [.d (.int .i64 n)] => ([.one ((.int .i64 (limV n)), false)], []) | _ => ([], []), fun _ => [], false, fun _ => none⟩
end spec_limit
namespace spec_limit
noncomputable def X : List Entry := []
noncomputable def I : List Inl := [⟨78, Try.f78, ⟨[], [], [], [], [], []⟩⟩]
theorem I_ok : ∀ i ∈ I, Try.prog.funcs[i.f]? = some i.fn ∧ (i.fn.name == "runtime.NumGoroutine") = false := by
  intro i hi
  simp only [I, List.mem_cons, List.not_mem_nil, or_false] at hi
  subst hi
  exact ⟨by kernel_rfl, by kernel_rfl⟩
theorem e (fuel : Nat) (p0 : Int) : runF Try.prog X I 0 fuel 78 Try.f78 [.d (.int .i64 p0)] =
  some ([.one ((.int .i64 (maxI (-1000000) (minI 1000000 p0))), false)], []) := by kernel_rfl
end spec_limit
theorem spec_limit.ok_of (hX : ∀ E ∈ spec_limit.X, CallSpec Try.prog E) (h : ∀ (n : Int), (true) = true → ∃ fuel, runF Try.prog spec_limit.X spec_limit.I 0 fuel 78 Try.f78 [.d (.int .i64 n)] = some ([.one ((.int .i64 (limV n)), false)], [])) : CallSpec Try.prog spec_limit.E :=
  callSpec_of (d := 0) hX (by kernel_rfl) spec_limit.I_ok (by kernel_rfl) (by kernel_rfl) (by kernel_rfl) (fun _ _ _ _ h => by dsimp only [spec_limit.E] at h; cases h) (fun xs hp => by
    dsimp only [spec_limit.E] at hp ⊢
    split at hp
    · exact h _ hp
    · cases hp)
theorem spec_limit.ok : CallSpec Try.prog spec_limit.E := spec_limit.ok_of (by simp [spec_limit.X]) fun n _ => ⟨0, by rw [spec_limit.e, lim_spec]⟩

end Go.Ab
