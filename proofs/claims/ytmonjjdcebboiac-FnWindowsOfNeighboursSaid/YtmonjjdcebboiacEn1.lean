import Derived.Test.YtmonjjdcebboiacEnp
import Derived.Test.YtmonjjdcebboiacProg
import Derived.Test.YtmonjjdcebboiacChecked
open Go Go.Ab Go.Proofs
set_option maxRecDepth 100000
set_option linter.unusedVariables false
set_option linter.unusedSimpArgs false
namespace Go.Ab
namespace spec_newReader
noncomputable def E : Entry := ⟨27, false, false, fun | [.d (.ints .u8 bs)] => true | _ => false, fun | [.d (.ints .u8 bs)] => ([.box [((.ints .u8 (cutC bs)), false), ((.int .i64 0), false)]], []) | _ => ([], []), fun _ => [], true, fun _ => none⟩
end spec_newReader
namespace spec_newReader
noncomputable def X : List Entry := []
noncomputable def I : List Inl := [⟨27, Try.f27, ⟨[], [], [], [], [], []⟩⟩]
theorem I_ok : ∀ i ∈ I, Try.prog.funcs[i.f]? = some i.fn ∧ (i.fn.name == "runtime.NumGoroutine") = false := by
  intro i hi
  simp only [I, List.mem_cons, List.not_mem_nil, or_false] at hi
  subst hi
  exact ⟨by kernel_rfl, by kernel_rfl⟩
theorem e (fuel : Nat) (p0 : List Int) : runF Try.prog X I 0 fuel 27 Try.f27 [.d (.ints .u8 p0)] =
  (bif (decide ((((p0.length : Nat) : Int) : Int) > 2000)) then
  (cutEnds p0.length (none) (some (.imm (.int .i64 2000)))).bind fun cq1 =>
  some ([.box [((.ints .u8 ((p0.drop cq1.1).take (cq1.2 - cq1.1))), false), ((.int .i64 0), false)]], [])
  else
  some ([.box [((.ints .u8 p0), false), ((.int .i64 0), false)]], [])) := by kernel_rfl
end spec_newReader
theorem spec_newReader.ok_of (hX : ∀ E ∈ spec_newReader.X, CallSpec Try.prog E) (h : ∀ (bs : List Int), (true) = true → ∃ fuel, runF Try.prog spec_newReader.X spec_newReader.I 0 fuel 27 Try.f27 [.d (.ints .u8 bs)] = some ([.box [((.ints .u8 (cutC bs)), false), ((.int .i64 0), false)]], [])) : CallSpec Try.prog spec_newReader.E :=
  callSpec_of (d := 0) hX (by kernel_rfl) spec_newReader.I_ok (by kernel_rfl) (by kernel_rfl) (by kernel_rfl) (fun _ _ _ _ h => by dsimp only [spec_newReader.E] at h; cases h) (fun xs hp => by
    dsimp only [spec_newReader.E] at hp ⊢
    split at hp
    · exact h _ hp
    · cases hp)
theorem spec_newReader.ok : CallSpec Try.prog spec_newReader.E := spec_newReader.ok_of (by simp [spec_newReader.X]) fun bs _ => ⟨0, by
  rw [spec_newReader.e]
  unfold cutC
  by_cases h : ((bs.length : Nat) : Int) > 2000
  · rw [decide_eq_true h]
    have : cutEnds bs.length none (some (.imm (.int .i64 2000))) = some (0, 2000) := by
      unfold cutEnds
      simp only
      rw [if_pos ⟨by omega, by omega⟩]
      rfl
    rw [this]
    rfl
  · rw [decide_eq_false h]
    rfl⟩

namespace spec_reader_pick
noncomputable def E : Entry := ⟨38, false, false, fun | [.box [(.ints .u8 bs), (.int .i64 p)], .d (.int .i64 n)] => rdOk bs p && decide ((n : Int) ≤ 1048576) | _ => false, fun | [.box [(.ints .u8 bs), (.int .i64 p)], .d (.int .i64 n)] => ([.one ((.int .i64 (pickV bs p n)), false)], [[(.ints .u8 bs), (.int .i64 (p + 1))]]) | _ => ([], []), fun _ => [], false, fun _ => none⟩
end spec_reader_pick
namespace spec_reader_pick
noncomputable def X : List Entry := []
noncomputable def I : List Inl := [⟨38, Try.f38, ⟨[], [], [], [(7, [0, 1, 2, 4, 5, 6, 7, 15, 16, 17, 19, 20, 21, 22, 23, 24, 33, 34, 36, 37, 38, 39, 3, 8, 9, 10, 11, 12, 13, 14, 18, 25, 26, 27, 28, 29, 30, 31, 32, 35, 40, 41, 42, 43, 44, 45])], [], []⟩⟩]
theorem I_ok : ∀ i ∈ I, Try.prog.funcs[i.f]? = some i.fn ∧ (i.fn.name == "runtime.NumGoroutine") = false := by
  intro i hi
  simp only [I, List.mem_cons, List.not_mem_nil, or_false] at hi
  subst hi
  exact ⟨by kernel_rfl, by kernel_rfl⟩
theorem e (fuel : Nat) (p0q0 : List Int) (p0q1 : Int) (p1 : Int) : runF Try.prog X I 0 fuel 38 Try.f38 [.box [(.ints .u8 p0q0), (.int .i64 p0q1)], .d (.int .i64 p1)] =
  (bif (decide ((p1 : Int) < 1)) then
  some ([.one ((.int .i64 0), false)], [[(.ints .u8 p0q0), (.int .i64 (IntKind.wrap .i64 (p0q1 + 1)))]])
  else
  (bif ((((p0q0.length : Nat) : Int) : Int) == 0) then
  some ([.one ((.int .i64 0), false)], [[(.ints .u8 p0q0), (.int .i64 (IntKind.wrap .i64 (p0q1 + 1)))]])
  else
  (bif (decide (((IntKind.wrap .i64 ((IntKind.wrap .i64 (p0q1 + 1)) - 1)) : Int) < ((p0q0.length : Nat) : Int))) then
  (idx (IntKind.wrap .i64 ((IntKind.wrap .i64 (p0q1 + 1)) - 1)) p0q0.length).bind fun j1 =>
  (p0q0[j1]?).bind fun v2 =>
  (bif decide ((p1 : Int) = 0) then
  none
  else
  some ([.one ((.int .i64 (Int.tmod (IntKind.wrap .i64 v2) p1)), false)], [[(.ints .u8 p0q0), (.int .i64 (IntKind.wrap .i64 (p0q1 + 1)))]]))
  else
  (bif decide ((((p0q0.length : Nat) : Int) : Int) = 0) then
  none
  else
  (idx (Int.tmod (IntKind.wrap .i64 ((IntKind.wrap .i64 (p0q1 + 1)) - 1)) ((p0q0.length : Nat) : Int)) p0q0.length).bind fun j3 =>
  (p0q0[j3]?).bind fun v4 =>
  (bif decide ((((p0q0.length : Nat) : Int) : Int) = 0) then
  none
  else
  (idx (Int.tmod (IntKind.wrap .i64 ((IntKind.wrap .i64 ((IntKind.wrap .i64 ((IntKind.wrap .i64 (p0q1 + 1)) - 1)) * 7)) + 3)) ((p0q0.length : Nat) : Int)) p0q0.length).bind fun j5 =>
  (p0q0[j5]?).bind fun v6 =>
  (bif decide ((((p0q0.length : Nat) : Int) : Int) = 0) then
  none
  else
  (bif decide ((p1 : Int) = 0) then
  none
  else
  some ([.one ((.int .i64 (Int.tmod (IntKind.wrap .i64 ((BitVec.ofInt (IntKind.bits .i64) (IntKind.wrap .i64 ((IntKind.wrap .i64 ((IntKind.wrap .i64 ((IntKind.wrap .i64 ((IntKind.wrap .i64 v4) * 131)) + (IntKind.wrap .i64 ((IntKind.wrap .i64 v6) * 1117)))) + (IntKind.wrap .i64 ((IntKind.wrap .i64 ((IntKind.wrap .i64 (p0q1 + 1)) - 1)) * 29)))) + (IntKind.wrap .i64 ((IntKind.wrap .i64 (Int.tdiv (IntKind.wrap .i64 ((IntKind.wrap .i64 (p0q1 + 1)) - 1)) ((p0q0.length : Nat) : Int))) * 53)))) ^^^ BitVec.ofInt (IntKind.bits .i64) (IntKind.wrap .i64 (Int.tdiv (IntKind.wrap .i64 ((IntKind.wrap .i64 ((IntKind.wrap .i64 ((IntKind.wrap .i64 ((IntKind.wrap .i64 v4) * 131)) + (IntKind.wrap .i64 ((IntKind.wrap .i64 v6) * 1117)))) + (IntKind.wrap .i64 ((IntKind.wrap .i64 ((IntKind.wrap .i64 (p0q1 + 1)) - 1)) * 29)))) + (IntKind.wrap .i64 ((IntKind.wrap .i64 (Int.tdiv (IntKind.wrap .i64 ((IntKind.wrap .i64 (p0q1 + 1)) - 1)) ((p0q0.length : Nat) : Int))) * 53)))) 64))).toNat : Int)) p1)), false)], [[(.ints .u8 p0q0), (.int .i64 (IntKind.wrap .i64 (p0q1 + 1)))]])))))))) := by kernel_rfl
end spec_reader_pick
theorem spec_reader_pick.ok_of (hX : ∀ E ∈ spec_reader_pick.X, CallSpec Try.prog E) (h : ∀ (bs : List Int) (p : Int) (n : Int), (rdOk bs p && decide ((n : Int) ≤ 1048576)) = true → ∃ fuel, runF Try.prog spec_reader_pick.X spec_reader_pick.I 0 fuel 38 Try.f38 [.box [(.ints .u8 bs), (.int .i64 p)], .d (.int .i64 n)] = some ([.one ((.int .i64 (pickV bs p n)), false)], [[(.ints .u8 bs), (.int .i64 (p + 1))]])) : CallSpec Try.prog spec_reader_pick.E :=
  callSpec_of (d := 0) hX (by kernel_rfl) spec_reader_pick.I_ok (by kernel_rfl) (by kernel_rfl) (by kernel_rfl) (fun _ _ _ _ h => by dsimp only [spec_reader_pick.E] at h; cases h) (fun xs hp => by
    dsimp only [spec_reader_pick.E] at hp ⊢
    split at hp
    · exact h _ _ _ hp
    · cases hp)
theorem spec_reader_pick.ok : CallSpec Try.prog spec_reader_pick.E := spec_reader_pick.ok_of (by simp [spec_reader_pick.X]) fun bs p n h => ⟨0, by
  simp only [Bool.and_eq_true, decide_eq_true_eq] at h
  obtain ⟨h0, h1, h2, h3⟩ := rdOk_inv h.1
  have hP := @wS (p + 1) (by omega) (by omega)
  have hK := @wS (p + 1 - 1) (by omega) (by omega)
  rw [show p + 1 - 1 = p by omega] at hK
  rw [spec_reader_pick.e]
  simp only [hP, show p + 1 - 1 = p by omega, hK]
  unfold pickV
  by_cases hn : n < 1
  · rw [decide_eq_true hn]; rfl
  rw [decide_eq_false hn, cond_false, cond_false]
  by_cases hL : bs.length = 0
  · rw [show (((bs.length : Nat) : Int) == 0) = true by simp [hL]]; rfl
  rw [beq0 hL, cond_false, cond_false]
  by_cases hp : p < ((bs.length : Nat) : Int)
  · have hlt : p.toNat < bs.length := by omega
    have hi : idx p bs.length = some p.toNat := by unfold idx; rw [if_pos ⟨h0, hp⟩]
    rw [decide_eq_true hp, hi, decide_eq_false (p := n = 0) (by omega)]
    simp [hlt]
  · have t1 := tmod_bd (x := p) (n := ((bs.length : Nat) : Int)) h0 (by omega)
    have e7 := @wS (p * 7) (by omega) (by omega)
    have e8 := @wS (p * 7 + 3) (by omega) (by omega)
    have t2 := tmod_bd (x := p * 7 + 3) (n := ((bs.length : Nat) : Int)) (by omega) (by omega)
    have i1 : idx (Int.tmod p ((bs.length : Nat) : Int)) bs.length = some (Int.tmod p ((bs.length : Nat) : Int)).toNat := by unfold idx; rw [if_pos t1]
    have i2 : idx (Int.tmod (p * 7 + 3) ((bs.length : Nat) : Int)) bs.length = some (Int.tmod (p * 7 + 3) ((bs.length : Nat) : Int)).toNat := by unfold idx; rw [if_pos t2]
    have g1 : (Int.tmod p ((bs.length : Nat) : Int)).toNat < bs.length := by omega
    have g2 : (Int.tmod (p * 7 + 3) ((bs.length : Nat) : Int)).toNat < bs.length := by omega
    have q1 : bs[(Int.tmod p ((bs.length : Nat) : Int)).toNat]? = some (bs.getD (Int.tmod p ((bs.length : Nat) : Int)).toNat 0) := by simp [g1]
    have q2 : bs[(Int.tmod (p * 7 + 3) ((bs.length : Nat) : Int)).toNat]? = some (bs.getD (Int.tmod (p * 7 + 3) ((bs.length : Nat) : Int)).toNat 0) := by simp [g2]
    rw [decide_eq_false hp, decide_eq_false (p := (((bs.length : Nat) : Int) = 0)) (by omega), decide_eq_false (p := n = 0) (by omega), e7, e8, i1, i2]
    simp only [cond_false, Option.bind_some, q1, q2]
    rfl⟩

namespace spec_reader_one
noncomputable def E : Entry := ⟨29, false, false, fun | [.box [(.ints .u8 bs), (.int .i64 p)], .d (.ints .i64 xs)] => rdOk bs p && decide (0 < (xs : List Int).length) && decide ((xs : List Int).length ≤ 1048576) | _ => false, fun | [.box [(.ints .u8 bs), (.int .i64 p)], .d (.ints .i64 xs)] => ([.one ((.int .i64 (oneV bs p xs)), false)], [[(.ints .u8 bs), (.int .i64 (p + 1))]]) | _ => ([], []), fun _ => [], false, fun _ => none⟩
end spec_reader_one
namespace spec_reader_one
noncomputable def X : List Entry := [spec_reader_pick.E]
noncomputable def I : List Inl := [⟨29, Try.f29, ⟨[], [], [], [], [], []⟩⟩]
theorem I_ok : ∀ i ∈ I, Try.prog.funcs[i.f]? = some i.fn ∧ (i.fn.name == "runtime.NumGoroutine") = false := by
  intro i hi
  simp only [I, List.mem_cons, List.not_mem_nil, or_false] at hi
  subst hi
  exact ⟨by kernel_rfl, by kernel_rfl⟩
theorem e (fuel : Nat) (p0q0 : List Int) (p0q1 : Int) (p1 : List Int) : runF Try.prog X I 0 fuel 29 Try.f29 [.box [(.ints .u8 p0q0), (.int .i64 p0q1)], .d (.ints .i64 p1)] =
  (bif rdOk p0q0 p0q1 && decide (((((p1.length : Nat) : Int)) : Int) ≤ 1048576) then
  (idx (pickV p0q0 p0q1 (((p1.length : Nat) : Int))) p1.length).bind fun j1 =>
  (p1[j1]?).bind fun v2 =>
  some ([.one ((.int .i64 v2), false)], [[(.ints .u8 p0q0), (.int .i64 (p0q1 + 1))]])
  else
  none) := by kernel_rfl
end spec_reader_one
theorem spec_reader_one.ok_of (hX : ∀ E ∈ spec_reader_one.X, CallSpec Try.prog E) (h : ∀ (bs : List Int) (p : Int) (xs : List Int), (rdOk bs p && decide (0 < (xs : List Int).length) && decide ((xs : List Int).length ≤ 1048576)) = true → ∃ fuel, runF Try.prog spec_reader_one.X spec_reader_one.I 0 fuel 29 Try.f29 [.box [(.ints .u8 bs), (.int .i64 p)], .d (.ints .i64 xs)] = some ([.one ((.int .i64 (oneV bs p xs)), false)], [[(.ints .u8 bs), (.int .i64 (p + 1))]])) : CallSpec Try.prog spec_reader_one.E :=
  callSpec_of (d := 0) hX (by kernel_rfl) spec_reader_one.I_ok (by kernel_rfl) (by kernel_rfl) (by kernel_rfl) (fun _ _ _ _ h => by dsimp only [spec_reader_one.E] at h; cases h) (fun xs hp => by
    dsimp only [spec_reader_one.E] at hp ⊢
    split at hp
    · exact h _ _ _ hp
    · cases hp)
theorem spec_reader_one.ok : CallSpec Try.prog spec_reader_one.E := spec_reader_one.ok_of (by simp [spec_reader_one.X, spec_reader_pick.ok]) fun bs p xs h => ⟨0, by
  simp only [Bool.and_eq_true, decide_eq_true_eq] at h
  have hb := pick_bd (n := ((xs.length : Nat) : Int)) h.1.1 (by omega)
  have hi : idx (pickV bs p ((xs.length : Nat) : Int)) xs.length = some (pickV bs p ((xs.length : Nat) : Int)).toNat := by unfold idx; rw [if_pos hb]
  have g : (pickV bs p ((xs.length : Nat) : Int)).toNat < xs.length := by omega
  rw [spec_reader_one.e, h.1.1, decide_eq_true (p := (((xs.length : Nat) : Int) ≤ 1048576)) (by omega), hi]
  unfold oneV
  simp [g]⟩

namespace spec_anyOp
noncomputable def E : Entry := ⟨47, false, false, fun | [.box [(.ints .u8 bs), (.int .i64 p)]] => rdOk bs (p + 1) && rdOk bs p | _ => false, fun | [.box [(.ints .u8 bs), (.int .i64 p)]] => ([.one ((.int .i64 (anyOpV bs p)), false)], [[(.ints .u8 bs), (.int .i64 (p + 2))]]) | _ => ([], []), fun _ => [], false, fun _ => none⟩
end spec_anyOp
namespace spec_anyOp
noncomputable def X : List Entry := [spec_reader_pick.E, spec_reader_one.E]
noncomputable def I : List Inl := [⟨47, Try.f47, ⟨[], [], [], [], [7], []⟩⟩]
theorem I_ok : ∀ i ∈ I, Try.prog.funcs[i.f]? = some i.fn ∧ (i.fn.name == "runtime.NumGoroutine") = false := by
  intro i hi
  simp only [I, List.mem_cons, List.not_mem_nil, or_false] at hi
  subst hi
  exact ⟨by kernel_rfl, by kernel_rfl⟩
theorem e (fuel : Nat) (p0q0 : List Int) (p0q1 : Int) : runF Try.prog X I 0 fuel 47 Try.f47 [.box [(.ints .u8 p0q0), (.int .i64 p0q1)]] =
  (bif rdOk p0q0 p0q1 && decide ((16 : Int) ≤ 1048576) then
  (bif (((pickV p0q0 p0q1 16) : Int) == 0) then
  (bif rdOk p0q0 ((p0q1 + 1)) && decide (0 < ((([0, 9, (-1)] : List Int)) : List Int).length) && decide (((([0, 9, (-1)] : List Int)) : List Int).length ≤ 1048576) then
  some ([.one ((.int .i64 (oneV p0q0 ((p0q1 + 1)) (([0, 9, (-1)] : List Int)))), false)], [[(.ints .u8 p0q0), (.int .i64 (((p0q1 + 1)) + 1))]])
  else
  none)
  else
  (bif rdOk p0q0 ((p0q1 + 1)) && decide ((8 : Int) ≤ 1048576) then
  some ([.one ((.int .i64 (IntKind.wrap .i64 (1 + (pickV p0q0 ((p0q1 + 1)) 8)))), false)], [[(.ints .u8 p0q0), (.int .i64 (((p0q1 + 1)) + 1))]])
  else
  none))
  else
  none) := by kernel_rfl
end spec_anyOp
theorem spec_anyOp.ok_of (hX : ∀ E ∈ spec_anyOp.X, CallSpec Try.prog E) (h : ∀ (bs : List Int) (p : Int), (rdOk bs (p + 1) && rdOk bs p) = true → ∃ fuel, runF Try.prog spec_anyOp.X spec_anyOp.I 0 fuel 47 Try.f47 [.box [(.ints .u8 bs), (.int .i64 p)]] = some ([.one ((.int .i64 (anyOpV bs p)), false)], [[(.ints .u8 bs), (.int .i64 (p + 2))]])) : CallSpec Try.prog spec_anyOp.E :=
  callSpec_of (d := 0) hX (by kernel_rfl) spec_anyOp.I_ok (by kernel_rfl) (by kernel_rfl) (by kernel_rfl) (fun _ _ _ _ h => by dsimp only [spec_anyOp.E] at h; cases h) (fun xs hp => by
    dsimp only [spec_anyOp.E] at hp ⊢
    split at hp
    · exact h _ _ hp
    · cases hp)
theorem spec_anyOp.ok : CallSpec Try.prog spec_anyOp.E := spec_anyOp.ok_of (by simp [spec_anyOp.X, spec_reader_pick.ok, spec_reader_one.ok]) fun bs p h => ⟨0, by
  simp only [Bool.and_eq_true] at h
  rw [spec_anyOp.e, h.1, h.2, show p + 2 = p + 1 + 1 by omega]
  unfold anyOpV
  cases pickV bs p 16 == 0 <;> rfl⟩

namespace spec_someShape
noncomputable def E : Entry := ⟨112, false, false, fun | [.box [(.ints .u8 bs), (.int .i64 p)]] => rdOk bs p && decide ((p : Int) ≤ 2000000) | _ => false, fun | [.box [(.ints .u8 bs), (.int .i64 p)]] => ([.one ((.ints .i64 (sShV bs p)), true)], [[(.ints .u8 bs), (.int .i64 (sShP bs p))]]) | _ => ([], []), fun _ => [], false, fun _ => none⟩
end spec_someShape
namespace spec_someShape
noncomputable def X : List Entry := [spec_reader_pick.E]
noncomputable def I : List Inl := [⟨112, Try.f112, ⟨[], [], [], [], [], []⟩⟩]
theorem I_ok : ∀ i ∈ I, Try.prog.funcs[i.f]? = some i.fn ∧ (i.fn.name == "runtime.NumGoroutine") = false := by
  intro i hi
  simp only [I, List.mem_cons, List.not_mem_nil, or_false] at hi
  subst hi
  exact ⟨by kernel_rfl, by kernel_rfl⟩
theorem e (fuel : Nat) (p0q0 : List Int) (p0q1 : Int) : runF Try.prog X I 0 fuel 112 Try.f112 [.box [(.ints .u8 p0q0), (.int .i64 p0q1)]] =
  (bif rdOk p0q0 p0q1 && decide ((8 : Int) ≤ 1048576) then
  (bif (((pickV p0q0 p0q1 8) : Int) == 0) then
  some ([.one ((.ints .i64 []), true)], [[(.ints .u8 p0q0), (.int .i64 (p0q1 + 1))]])
  else
  (bif (((pickV p0q0 p0q1 8) : Int) == 1) then
  (bif rdOk p0q0 ((p0q1 + 1)) && decide ((7 : Int) ≤ 1048576) then
  some ([.one ((.ints .i64 [(pickV p0q0 ((p0q1 + 1)) 7)]), true)], [[(.ints .u8 p0q0), (.int .i64 (((p0q1 + 1)) + 1))]])
  else
  none)
  else
  (bif (((pickV p0q0 p0q1 8) : Int) == 2) then
  (bif rdOk p0q0 ((p0q1 + 1)) && decide ((7 : Int) ≤ 1048576) then
  some ([.one ((.ints .i64 [(pickV p0q0 ((p0q1 + 1)) 7)]), true)], [[(.ints .u8 p0q0), (.int .i64 (((p0q1 + 1)) + 1))]])
  else
  none)
  else
  (bif (((pickV p0q0 p0q1 8) : Int) == 3) then
  (bif rdOk p0q0 ((p0q1 + 1)) && decide ((7 : Int) ≤ 1048576) then
  some ([.one ((.ints .i64 [(pickV p0q0 ((p0q1 + 1)) 7)]), true)], [[(.ints .u8 p0q0), (.int .i64 (((p0q1 + 1)) + 1))]])
  else
  none)
  else
  (bif (((pickV p0q0 p0q1 8) : Int) == 4) then
  (bif rdOk p0q0 ((p0q1 + 1)) && decide ((5 : Int) ≤ 1048576) then
  (bif rdOk p0q0 ((((p0q1 + 1)) + 1)) && decide ((5 : Int) ≤ 1048576) then
  some ([.one ((.ints .i64 [(pickV p0q0 ((p0q1 + 1)) 5), (pickV p0q0 ((((p0q1 + 1)) + 1)) 5)]), true)], [[(.ints .u8 p0q0), (.int .i64 (((((p0q1 + 1)) + 1)) + 1))]])
  else
  none)
  else
  none)
  else
  (bif (((pickV p0q0 p0q1 8) : Int) == 5) then
  (bif rdOk p0q0 ((p0q1 + 1)) && decide ((5 : Int) ≤ 1048576) then
  (bif rdOk p0q0 ((((p0q1 + 1)) + 1)) && decide ((5 : Int) ≤ 1048576) then
  some ([.one ((.ints .i64 [(pickV p0q0 ((p0q1 + 1)) 5), (pickV p0q0 ((((p0q1 + 1)) + 1)) 5)]), true)], [[(.ints .u8 p0q0), (.int .i64 (((((p0q1 + 1)) + 1)) + 1))]])
  else
  none)
  else
  none)
  else
  (bif (((pickV p0q0 p0q1 8) : Int) == 6) then
  (bif rdOk p0q0 ((p0q1 + 1)) && decide ((5 : Int) ≤ 1048576) then
  (bif rdOk p0q0 ((((p0q1 + 1)) + 1)) && decide ((5 : Int) ≤ 1048576) then
  some ([.one ((.ints .i64 [(pickV p0q0 ((p0q1 + 1)) 5), (pickV p0q0 ((((p0q1 + 1)) + 1)) 5)]), true)], [[(.ints .u8 p0q0), (.int .i64 (((((p0q1 + 1)) + 1)) + 1))]])
  else
  none)
  else
  none)
  else
  (bif rdOk p0q0 ((p0q1 + 1)) && decide ((4 : Int) ≤ 1048576) then
  (bif rdOk p0q0 ((((p0q1 + 1)) + 1)) && decide ((4 : Int) ≤ 1048576) then
  (bif rdOk p0q0 ((((((p0q1 + 1)) + 1)) + 1)) && decide ((4 : Int) ≤ 1048576) then
  some ([.one ((.ints .i64 [(pickV p0q0 ((p0q1 + 1)) 4), (pickV p0q0 ((((p0q1 + 1)) + 1)) 4), (pickV p0q0 ((((((p0q1 + 1)) + 1)) + 1)) 4)]), true)], [[(.ints .u8 p0q0), (.int .i64 (((((((p0q1 + 1)) + 1)) + 1)) + 1))]])
  else
  none)
  else
  none)
  else
  none))))))))
  else
  none) := by kernel_rfl
end spec_someShape
theorem spec_someShape.ok_of (hX : ∀ E ∈ spec_someShape.X, CallSpec Try.prog E) (h : ∀ (bs : List Int) (p : Int), (rdOk bs p && decide ((p : Int) ≤ 2000000)) = true → ∃ fuel, runF Try.prog spec_someShape.X spec_someShape.I 0 fuel 112 Try.f112 [.box [(.ints .u8 bs), (.int .i64 p)]] = some ([.one ((.ints .i64 (sShV bs p)), true)], [[(.ints .u8 bs), (.int .i64 (sShP bs p))]])) : CallSpec Try.prog spec_someShape.E :=
  callSpec_of (d := 0) hX (by kernel_rfl) spec_someShape.I_ok (by kernel_rfl) (by kernel_rfl) (by kernel_rfl) (fun _ _ _ _ h => by dsimp only [spec_someShape.E] at h; cases h) (fun xs hp => by
    dsimp only [spec_someShape.E] at hp ⊢
    split at hp
    · exact h _ _ hp
    · cases hp)
theorem spec_someShape.ok : CallSpec Try.prog spec_someShape.E := spec_someShape.ok_of (by simp [spec_someShape.X, spec_reader_pick.ok]) fun bs p h => ⟨0, by
  simp only [Bool.and_eq_true, decide_eq_true_eq] at h
  have r0 := h.1
  have r1 := rd_le (q := p + 1) h.1 (by omega) (by omega)
  have r2 := rd_le (q := p + 1 + 1) h.1 (by omega) (by omega)
  have r3 := rd_le (q := p + 1 + 1 + 1) h.1 (by omega) (by omega)
  rw [spec_someShape.e, r0, r1, r2, r3]
  unfold sShV sShP
  cases pickV bs p 8 == 0 <;> cases pickV bs p 8 == 1 <;> cases pickV bs p 8 == 2 <;> cases pickV bs p 8 == 3 <;> cases pickV bs p 8 == 4 <;> cases pickV bs p 8 == 5 <;> cases pickV bs p 8 == 6 <;> rfl⟩

namespace spec_volume
noncomputable def E : Entry := ⟨80, true, false, fun | [.d (.ints .i64 xs)] => decide (xs.length < 9223372036854775808) | _ => false, fun | [.d (.ints .i64 xs)] => ([.one ((.int .i64 (volW xs)), false)], []) | _ => ([], []), fun _ => [], false, fun _ => none⟩
end spec_volume
namespace spec_volume
noncomputable def X : List Entry := []
noncomputable def I : List Inl := [⟨80, Try.f80, ⟨[], [(1000003, [1, 2, 5, 6, 7, 8, 9, 10, 11, 12, 13, 14, 15, 16, 17])], [], [], [], []⟩⟩]
theorem I_ok : ∀ i ∈ I, Try.prog.funcs[i.f]? = some i.fn ∧ (i.fn.name == "runtime.NumGoroutine") = false := by
  intro i hi
  simp only [I, List.mem_cons, List.not_mem_nil, or_false] at hi
  subst hi
  exact ⟨by kernel_rfl, by kernel_rfl⟩
noncomputable abbrev L0 (fuel n : Nat) (s : St) (k : Kont) := lAt Try.prog X I fuel true 0 false 80 (bodyOf Try.f80) [1, 1, 0, 1, 0] n s k
noncomputable abbrev k0  (fuel : Nat) : Kont := (kAt Try.prog X I fuel true 0 false 80 (bodyOf Try.f80) [1, 1, 0, 1, 0] [] (endK Try.prog Try.f80))
noncomputable def t0 (p0 : List Int) (x0q1 : Int) (x0q2 : Int) : St := ⟨[(.imm (.ints .i64 p0)), .dead, .dead, (.imm (.int .i64 x0q1)), (.imm (.int .i64 x0q2)), .dead, .dead, .dead, .dead, .dead, .dead, .dead, .dead, .dead, .dead, .dead, .dead, .dead], hOf [], [], []⟩
theorem e (fuel : Nat) (p0 : List Int) : runF Try.prog X I 0 fuel 80 Try.f80 [.d (.ints .i64 p0)] =
  L0 fuel fuel (t0 p0 1 0) (k0  fuel) := by kernel_rfl
theorem s0 (fuel n0 : Nat) (p0 : List Int) (x0q1 : Int) (x0q2 : Int) : L0 fuel (n0 + 1) (t0 p0 x0q1 x0q2) (k0  fuel) =
  (bif (decide ((x0q2 : Int) < ((p0.length : Nat) : Int))) then
  (idx x0q2 p0.length).bind fun j5 =>
  (p0[j5]?).bind fun v6 =>
  L0 fuel n0 (t0 p0 ((IntKind.wrap .i64 (x0q1 * v6))) ((IntKind.wrap .i64 (x0q2 + 1)))) (k0  fuel)
  else
  some ([.one ((.int .i64 x0q1), false)], [])) := by kernel_rfl
end spec_volume
theorem spec_volume.ok_of (hX : ∀ E ∈ spec_volume.X, CallSpec Try.prog E) (h : ∀ (xs : List Int), (decide (xs.length < 9223372036854775808)) = true → ∃ fuel, runF Try.prog spec_volume.X spec_volume.I 0 fuel 80 Try.f80 [.d (.ints .i64 xs)] = some ([.one ((.int .i64 (volW xs)), false)], [])) : CallSpec Try.prog spec_volume.E :=
  callSpec_of (d := 0) hX (by kernel_rfl) spec_volume.I_ok (by kernel_rfl) (by kernel_rfl) (by kernel_rfl) (fun _ _ _ _ h => by dsimp only [spec_volume.E] at h; cases h) (fun xs hp => by
    dsimp only [spec_volume.E] at hp ⊢
    split at hp
    · exact h _ hp
    · cases hp)
theorem spec_volume.loop (fuel : Nat) (xs : List Int) (hx : xs.length < 9223372036854775808) : ∀ (m n j : Nat) (a : Int), xs.length - j = m → m < n → j ≤ xs.length →
    spec_volume.L0 fuel n (spec_volume.t0 xs a (j : Int)) (spec_volume.k0 fuel) = some ([.one (.int .i64 (volFrom (xs.drop j) a), false)], []) := by
  intro m
  induction m with
  | zero =>
    intro n j a h1 h2 h3
    obtain ⟨n, rfl⟩ : ∃ n', n = n' + 1 := ⟨n - 1, by omega⟩
    have hj : ¬ j < xs.length := by omega
    rw [spec_volume.s0, dge hj, dropE hj]
    rfl
  | succ m ih =>
    intro n j a h1 h2 h3
    obtain ⟨n, rfl⟩ : ∃ n', n = n' + 1 := ⟨n - 1, by omega⟩
    have hj : j < xs.length := by omega
    rw [spec_volume.s0, dlt hj, idx_nat hj, w1 (by omega), dropS hj]
    simp only [cond_true, Option.bind_some, getS hj, volFrom]
    exact ih n (j + 1) _ (by omega) (by omega) (by omega)

theorem spec_volume.ok : CallSpec Try.prog spec_volume.E := spec_volume.ok_of (by simp [spec_volume.X]) fun xs h => by
  simp only [decide_eq_true_eq] at h
  refine ⟨xs.length + 1, ?_⟩
  rw [spec_volume.e]
  exact spec_volume.loop (xs.length + 1) xs h xs.length (xs.length + 1) 0 1 (by omega) (by omega) (by omega)

namespace spec_someNum
noncomputable def E : Entry := ⟨116, false, false, fun | [.box [(.ints .u8 bs), (.int .i64 p)]] => rdOk bs p | _ => false, fun | [.box [(.ints .u8 bs), (.int .i64 p)]] => ([.one ((.int .i64 (oneV bs p someL)), false)], [[(.ints .u8 bs), (.int .i64 (p + 1))]]) | _ => ([], []), fun _ => [], false, fun _ => none⟩
end spec_someNum
namespace spec_someNum
noncomputable def X : List Entry := [spec_reader_one.E]
noncomputable def I : List Inl := [⟨116, Try.f116, ⟨[], [], [], [], [4], []⟩⟩]
theorem I_ok : ∀ i ∈ I, Try.prog.funcs[i.f]? = some i.fn ∧ (i.fn.name == "runtime.NumGoroutine") = false := by
  intro i hi
  simp only [I, List.mem_cons, List.not_mem_nil, or_false] at hi
  subst hi
  exact ⟨by kernel_rfl, by kernel_rfl⟩
theorem e (fuel : Nat) (p0q0 : List Int) (p0q1 : Int) : runF Try.prog X I 0 fuel 116 Try.f116 [.box [(.ints .u8 p0q0), (.int .i64 p0q1)]] =
  (bif rdOk p0q0 p0q1 && decide (0 < ((([0, 1, 2, 3, (-1), 5, 7, (-4), 1000000, (-1000000), 10, 1] : List Int)) : List Int).length) && decide (((([0, 1, 2, 3, (-1), 5, 7, (-4), 1000000, (-1000000), 10, 1] : List Int)) : List Int).length ≤ 1048576) then
  some ([.one ((.int .i64 (oneV p0q0 p0q1 (([0, 1, 2, 3, (-1), 5, 7, (-4), 1000000, (-1000000), 10, 1] : List Int)))), false)], [[(.ints .u8 p0q0), (.int .i64 (p0q1 + 1))]])
  else
  none) := by kernel_rfl
end spec_someNum
theorem spec_someNum.ok_of (hX : ∀ E ∈ spec_someNum.X, CallSpec Try.prog E) (h : ∀ (bs : List Int) (p : Int), (rdOk bs p) = true → ∃ fuel, runF Try.prog spec_someNum.X spec_someNum.I 0 fuel 116 Try.f116 [.box [(.ints .u8 bs), (.int .i64 p)]] = some ([.one ((.int .i64 (oneV bs p someL)), false)], [[(.ints .u8 bs), (.int .i64 (p + 1))]])) : CallSpec Try.prog spec_someNum.E :=
  callSpec_of (d := 0) hX (by kernel_rfl) spec_someNum.I_ok (by kernel_rfl) (by kernel_rfl) (by kernel_rfl) (fun _ _ _ _ h => by dsimp only [spec_someNum.E] at h; cases h) (fun xs hp => by
    dsimp only [spec_someNum.E] at hp ⊢
    split at hp
    · exact h _ _ hp
    · cases hp)
theorem spec_someNum.ok : CallSpec Try.prog spec_someNum.E := spec_someNum.ok_of (by simp [spec_someNum.X, spec_reader_one.ok]) fun bs p h => ⟨0, by
  rw [spec_someNum.e, h]
  rfl⟩

namespace spec_copyInts
noncomputable def E : Entry := ⟨81, false, false, fun | [.d (.ints .i64 xs)] => szB xs | _ => false, fun | [.d (.ints .i64 xs)] => ([.one ((.ints .i64 xs), true)], []) | _ => ([], []), fun _ => [], true, fun _ => none⟩
end spec_copyInts
namespace spec_copyInts
noncomputable def X : List Entry := []
noncomputable def I : List Inl := [⟨81, Try.f81, ⟨[], [], [], [], [], []⟩⟩]
theorem I_ok : ∀ i ∈ I, Try.prog.funcs[i.f]? = some i.fn ∧ (i.fn.name == "runtime.NumGoroutine") = false := by
  intro i hi
  simp only [I, List.mem_cons, List.not_mem_nil, or_false] at hi
  subst hi
  exact ⟨by kernel_rfl, by kernel_rfl⟩
theorem e (fuel : Nat) (p0 : List Int) : runF Try.prog X I 0 fuel 81 Try.f81 [.d (.ints .i64 p0)] =
  (bif fits (([] : List Int).length + p0.length) 8 then
  some ([.one ((.ints .i64 (([] : List Int) ++ p0)), true)], [])
  else
  none) := by kernel_rfl
end spec_copyInts
theorem spec_copyInts.ok_of (hX : ∀ E ∈ spec_copyInts.X, CallSpec Try.prog E) (h : ∀ (xs : List Int), (szB xs) = true → ∃ fuel, runF Try.prog spec_copyInts.X spec_copyInts.I 0 fuel 81 Try.f81 [.d (.ints .i64 xs)] = some ([.one ((.ints .i64 xs), true)], [])) : CallSpec Try.prog spec_copyInts.E :=
  callSpec_of (d := 0) hX (by kernel_rfl) spec_copyInts.I_ok (by kernel_rfl) (by kernel_rfl) (by kernel_rfl) (fun _ _ _ _ h => by dsimp only [spec_copyInts.E] at h; cases h) (fun xs hp => by
    dsimp only [spec_copyInts.E] at hp ⊢
    split at hp
    · exact h _ hp
    · cases hp)
theorem spec_copyInts.ok : CallSpec Try.prog spec_copyInts.E := spec_copyInts.ok_of (by simp [spec_copyInts.X]) fun xs h => ⟨0, by
  have hx := szB_le h
  rw [spec_copyInts.e, fitsOk (by simp; omega)]
  rfl⟩

namespace spec_make1
noncomputable def E : Entry := ⟨44, false, false, fun | [.d (.ints .i64 sh), .d (.ints .i64 da)] => szB sh && szB da | _ => false, fun | [.d (.ints .i64 sh), .d (.ints .i64 da)] => ([.agg [((.ints .i64 sh), true), ((.ints .i64 da), true)]], []) | _ => ([], []), fun _ => [], true, fun _ => none⟩
end spec_make1
namespace spec_make1
noncomputable def X : List Entry := [spec_copyInts.E]
noncomputable def I : List Inl := [⟨44, Try.f44, ⟨[6, 8], [], [], [], [], []⟩⟩]
theorem I_ok : ∀ i ∈ I, Try.prog.funcs[i.f]? = some i.fn ∧ (i.fn.name == "runtime.NumGoroutine") = false := by
  intro i hi
  simp only [I, List.mem_cons, List.not_mem_nil, or_false] at hi
  subst hi
  exact ⟨by kernel_rfl, by kernel_rfl⟩
theorem e (fuel : Nat) (p0 : List Int) (p1 : List Int) : runF Try.prog X I 0 fuel 44 Try.f44 [.d (.ints .i64 p0), .d (.ints .i64 p1)] =
  (bif szB p0 then
  (bif szB p1 then
  some ([.agg [((.ints .i64 p0), true), ((.ints .i64 p1), true)]], [])
  else
  none)
  else
  none) := by kernel_rfl
end spec_make1
theorem spec_make1.ok_of (hX : ∀ E ∈ spec_make1.X, CallSpec Try.prog E) (h : ∀ (sh : List Int) (da : List Int), (szB sh && szB da) = true → ∃ fuel, runF Try.prog spec_make1.X spec_make1.I 0 fuel 44 Try.f44 [.d (.ints .i64 sh), .d (.ints .i64 da)] = some ([.agg [((.ints .i64 sh), true), ((.ints .i64 da), true)]], [])) : CallSpec Try.prog spec_make1.E :=
  callSpec_of (d := 0) hX (by kernel_rfl) spec_make1.I_ok (by kernel_rfl) (by kernel_rfl) (by kernel_rfl) (fun _ _ _ _ h => by dsimp only [spec_make1.E] at h; cases h) (fun xs hp => by
    dsimp only [spec_make1.E] at hp ⊢
    split at hp
    · exact h _ _ hp
    · cases hp)
theorem spec_make1.ok : CallSpec Try.prog spec_make1.E := spec_make1.ok_of (by simp [spec_make1.X, spec_copyInts.ok]) fun sh da h => ⟨0, by
  simp only [Bool.and_eq_true] at h
  rw [spec_make1.e, h.1, h.2]
  rfl⟩

namespace spec_fill
noncomputable def E : Entry := ⟨111, false, false, fun | [.box [(.ints .u8 bs), (.int .i64 p)], .d (.ints .i64 sh)] => rdOk bs p && decide ((p : Int) ≤ 2000000) && validS sh | _ => false, fun | [.box [(.ints .u8 bs), (.int .i64 p)], .d (.ints .i64 sh)] => ([.agg [((.ints .i64 sh), true), ((.ints .i64 (fillV bs p sh)), true)]], [[(.ints .u8 bs), (.int .i64 (p + volW sh))]]) | _ => ([], []), fun _ => [], false, fun _ => none⟩
end spec_fill
namespace spec_fill
noncomputable def X : List Entry := [spec_volume.E, spec_someNum.E, spec_make1.E]
noncomputable def I : List Inl := [⟨111, Try.f111, ⟨[21], [(1000003, [2, 3, 7, 8, 9, 10, 11, 12, 13, 14, 15, 16, 17, 18, 19, 20, 21])], [], [], [], []⟩⟩]
theorem I_ok : ∀ i ∈ I, Try.prog.funcs[i.f]? = some i.fn ∧ (i.fn.name == "runtime.NumGoroutine") = false := by
  intro i hi
  simp only [I, List.mem_cons, List.not_mem_nil, or_false] at hi
  subst hi
  exact ⟨by kernel_rfl, by kernel_rfl⟩
noncomputable abbrev L0 (fuel n : Nat) (s : St) (k : Kont) := lAt Try.prog X I fuel false 0 false 111 (bodyOf Try.f111) [1, 1, 0, 1, 0] n s k
noncomputable abbrev k0  (fuel : Nat) : Kont := (kAt Try.prog X I fuel false 0 false 111 (bodyOf Try.f111) [1, 1, 0, 1, 0] [] (endK Try.prog Try.f111))
noncomputable def t0 (p1 : List Int) (p0q0 : List Int) (x0q1 : Int) (x0q3 : Int) (x0q4 : List Int) : St := ⟨[(.ptr 1000000000 0 0), (.imm (.ints .i64 p1)), .dead, .dead, (.ptr 1000000001 0 0), (.all 1000000002 1), (.imm (.int .i64 x0q1)), .dead, .dead, .dead, .dead, .dead, .dead, .dead, .dead, .dead, .dead, .dead, .dead, .dead, .dead, .dead], hOf [(1000000000, (.box [(.imm (.ints .u8 p0q0)), (.imm (.int .i64 x0q3))])), (1000000001, (.box [(.imm .nils), (.imm .nils)])), (1000000002, (.ints .i64 x0q4))], [(.ptr 1000000000 0 0)], []⟩
theorem e (fuel : Nat) (p0q0 : List Int) (p0q1 : Int) (p1 : List Int) : runF Try.prog X I 0 fuel 111 Try.f111 [.box [(.ints .u8 p0q0), (.int .i64 p0q1)], .d (.ints .i64 p1)] =
  L0 fuel fuel (t0 p1 p0q0 0 p0q1 ([])) (k0  fuel) := by kernel_rfl
theorem s0 (fuel n0 : Nat) (p1 : List Int) (p0q0 : List Int) (x0q1 : Int) (x0q3 : Int) (x0q4 : List Int) : L0 fuel (n0 + 1) (t0 p1 p0q0 x0q1 x0q3 x0q4) (k0  fuel) =
  (bif decide (p1.length < 9223372036854775808) then
  (bif (decide ((x0q1 : Int) < (volW p1))) then
  (bif rdOk p0q0 x0q3 then
  (bif fits (x0q4.length + ([(oneV p0q0 x0q3 someL)] : List Int).length) 8 then
  L0 fuel n0 (t0 p1 p0q0 ((IntKind.wrap .i64 (x0q1 + 1))) ((x0q3 + 1)) ((x0q4 ++ [(oneV p0q0 x0q3 someL)]))) (k0  fuel)
  else
  none)
  else
  none)
  else
  (bif szB p1 && szB x0q4 then
  some ([.agg [((.ints .i64 p1), true), ((.ints .i64 x0q4), true)]], [[(.ints .u8 p0q0), (.int .i64 x0q3)]])
  else
  none))
  else
  none) := by kernel_rfl
end spec_fill
theorem spec_fill.ok_of (hX : ∀ E ∈ spec_fill.X, CallSpec Try.prog E) (h : ∀ (bs : List Int) (p : Int) (sh : List Int), (rdOk bs p && decide ((p : Int) ≤ 2000000) && validS sh) = true → ∃ fuel, runF Try.prog spec_fill.X spec_fill.I 0 fuel 111 Try.f111 [.box [(.ints .u8 bs), (.int .i64 p)], .d (.ints .i64 sh)] = some ([.agg [((.ints .i64 sh), true), ((.ints .i64 (fillV bs p sh)), true)]], [[(.ints .u8 bs), (.int .i64 (p + volW sh))]])) : CallSpec Try.prog spec_fill.E :=
  callSpec_of (d := 0) hX (by kernel_rfl) spec_fill.I_ok (by kernel_rfl) (by kernel_rfl) (by kernel_rfl) (fun _ _ _ _ h => by dsimp only [spec_fill.E] at h; cases h) (fun xs hp => by
    dsimp only [spec_fill.E] at hp ⊢
    split at hp
    · exact h _ _ _ hp
    · cases hp)
theorem spec_fill.loop (fuel : Nat) (bs : List Int) (p : Int) (sh : List Int) (h : rdOk bs p = true) (hp : p ≤ 2000000) (hv : validS sh = true) : ∀ (m n j : Nat) (out : List Int), (volW sh).toNat - j = m → m < n → j ≤ (volW sh).toNat → out = tab j (fun i => oneV bs (p + ((i : Nat) : Int)) someL) →
    spec_fill.L0 fuel n (spec_fill.t0 sh bs (j : Int) (p + (j : Int)) out) (spec_fill.k0 fuel) = some ([.agg [(.ints .i64 sh, true), (.ints .i64 (fillV bs p sh), true)]], [[(.ints .u8 bs), (.int .i64 (p + volW sh))]]) := by
  have hl := (validS_inv hv).1
  have hb := vol_bd hv
  intro m
  induction m with
  | zero =>
    intro n j out h1 h2 h3 h4
    obtain ⟨n, rfl⟩ : ∃ n', n = n' + 1 := ⟨n - 1, by omega⟩
    have ho : out.length = j := by rw [h4, tab_length]
    rw [spec_fill.s0, decide_eq_true (p := sh.length < 9223372036854775808) (by omega), decide_eq_false (p := (j : Int) < volW sh) (by omega), szB_of (xs := sh) (by omega), szB_of (xs := out) (by omega), h4, show p + (j : Int) = p + volW sh by omega, show j = (volW sh).toNat by omega]
    rfl
  | succ m ih =>
    intro n j out h1 h2 h3 h4
    obtain ⟨n, rfl⟩ : ∃ n', n = n' + 1 := ⟨n - 1, by omega⟩
    have ho : out.length = j := by rw [h4, tab_length]
    rw [spec_fill.s0, decide_eq_true (p := sh.length < 9223372036854775808) (by omega), decide_eq_true (p := (j : Int) < volW sh) (by omega), rd_le (q := p + (j : Int)) h (by omega) (by omega), fitsOk (by simp; omega), w1 (by omega), show p + (j : Int) + 1 = p + ((j + 1 : Nat) : Int) by omega]
    exact ih n (j + 1) _ (by omega) (by omega) (by omega) (by rw [tab_succ, h4])
theorem spec_fill.ok : CallSpec Try.prog spec_fill.E := spec_fill.ok_of (by simp [spec_fill.X, spec_volume.ok, spec_someNum.ok, spec_make1.ok]) fun bs p sh h => by
  simp only [Bool.and_eq_true, decide_eq_true_eq] at h
  have hb := vol_bd h.2
  obtain ⟨F, hF⟩ : ∃ F : Nat, 60 < F := ⟨61, by omega⟩
  refine ⟨F, ?_⟩
  have := spec_fill.loop F bs p sh h.1.1 h.1.2 h.2 _ F 0 [] rfl (by omega) (by omega) rfl
  rw [spec_fill.e]
  rw [show p + ((0 : Nat) : Int) = p by omega] at this
  exact this

namespace spec_someArray
noncomputable def E : Entry := ⟨102, false, false, fun | [.box [(.ints .u8 bs), (.int .i64 p)]] => rdOk bs p && decide ((p : Int) ≤ 1000000) | _ => false, fun | [.box [(.ints .u8 bs), (.int .i64 p)]] => ([.agg [((.ints .i64 (sShV bs p)), true), ((.ints .i64 (sDaV bs p)), true)]], [[(.ints .u8 bs), (.int .i64 (sDaP bs p))]]) | _ => ([], []), fun _ => [], false, fun _ => none⟩
end spec_someArray
namespace spec_someArray
noncomputable def X : List Entry := [spec_someShape.E, spec_fill.E]
noncomputable def I : List Inl := [⟨102, Try.f102, ⟨[6], [], [], [], [], []⟩⟩]
theorem I_ok : ∀ i ∈ I, Try.prog.funcs[i.f]? = some i.fn ∧ (i.fn.name == "runtime.NumGoroutine") = false := by
  intro i hi
  simp only [I, List.mem_cons, List.not_mem_nil, or_false] at hi
  subst hi
  exact ⟨by kernel_rfl, by kernel_rfl⟩
theorem e (fuel : Nat) (p0q0 : List Int) (p0q1 : Int) : runF Try.prog X I 0 fuel 102 Try.f102 [.box [(.ints .u8 p0q0), (.int .i64 p0q1)]] =
  (bif rdOk p0q0 p0q1 && decide ((p0q1 : Int) ≤ 2000000) then
  (bif rdOk p0q0 ((sShP p0q0 p0q1)) && decide ((((sShP p0q0 p0q1)) : Int) ≤ 2000000) && validS ((sShV p0q0 p0q1)) then
  some ([.agg [((.ints .i64 ((sShV p0q0 p0q1))), true), ((.ints .i64 (fillV p0q0 ((sShP p0q0 p0q1)) ((sShV p0q0 p0q1)))), true)]], [[(.ints .u8 p0q0), (.int .i64 (((sShP p0q0 p0q1)) + volW ((sShV p0q0 p0q1))))]])
  else
  none)
  else
  none) := by kernel_rfl
end spec_someArray
theorem spec_someArray.ok_of (hX : ∀ E ∈ spec_someArray.X, CallSpec Try.prog E) (h : ∀ (bs : List Int) (p : Int), (rdOk bs p && decide ((p : Int) ≤ 1000000)) = true → ∃ fuel, runF Try.prog spec_someArray.X spec_someArray.I 0 fuel 102 Try.f102 [.box [(.ints .u8 bs), (.int .i64 p)]] = some ([.agg [((.ints .i64 (sShV bs p)), true), ((.ints .i64 (sDaV bs p)), true)]], [[(.ints .u8 bs), (.int .i64 (sDaP bs p))]])) : CallSpec Try.prog spec_someArray.E :=
  callSpec_of (d := 0) hX (by kernel_rfl) spec_someArray.I_ok (by kernel_rfl) (by kernel_rfl) (by kernel_rfl) (fun _ _ _ _ h => by dsimp only [spec_someArray.E] at h; cases h) (fun xs hp => by
    dsimp only [spec_someArray.E] at hp ⊢
    split at hp
    · exact h _ _ hp
    · cases hp)
theorem spec_someArray.ok : CallSpec Try.prog spec_someArray.E := spec_someArray.ok_of (by simp [spec_someArray.X, spec_someShape.ok, spec_fill.ok]) fun bs p h => ⟨0, by
  simp only [Bool.and_eq_true, decide_eq_true_eq] at h
  have b := sShP_bd bs p
  have hs := sShV_ok h.1 (by omega)
  rw [spec_someArray.e, h.1, rd_le (q := sShP bs p) h.1 (by omega) (by omega), decide_eq_true (p := p ≤ 2000000) (by omega), decide_eq_true (p := sShP bs p ≤ 2000000) (by omega), hs]
  rfl⟩

namespace spec_anyShape
noncomputable def E : Entry := ⟨103, false, false, fun | [.box [(.ints .u8 bs), (.int .i64 p)]] => rdOk bs p && decide ((p : Int) ≤ 2000000) | _ => false, fun | [.box [(.ints .u8 bs), (.int .i64 p)]] => ([.one ((.ints .i64 (aShV bs p)), true)], [[(.ints .u8 bs), (.int .i64 (sShP bs p + 1))]]) | _ => ([], []), fun _ => [], false, fun _ => none⟩
end spec_anyShape
namespace spec_anyShape
noncomputable def X : List Entry := [spec_someShape.E, spec_reader_pick.E]
noncomputable def I : List Inl := [⟨103, Try.f103, ⟨[5], [], [], [], [], []⟩⟩]
theorem I_ok : ∀ i ∈ I, Try.prog.funcs[i.f]? = some i.fn ∧ (i.fn.name == "runtime.NumGoroutine") = false := by
  intro i hi
  simp only [I, List.mem_cons, List.not_mem_nil, or_false] at hi
  subst hi
  exact ⟨by kernel_rfl, by kernel_rfl⟩
theorem e (fuel : Nat) (p0q0 : List Int) (p0q1 : Int) : runF Try.prog X I 0 fuel 103 Try.f103 [.box [(.ints .u8 p0q0), (.int .i64 p0q1)]] =
  (bif rdOk p0q0 p0q1 && decide ((p0q1 : Int) ≤ 2000000) then
  (bif rdOk p0q0 ((sShP p0q0 p0q1)) && decide ((24 : Int) ≤ 1048576) then
  (bif (((pickV p0q0 ((sShP p0q0 p0q1)) 24) : Int) == 0) then
  (bif fits ((sShV p0q0 p0q1).length + ([61] : List Int).length) 8 then
  some ([.one ((.ints .i64 ((sShV p0q0 p0q1) ++ [61])), true)], [[(.ints .u8 p0q0), (.int .i64 (((sShP p0q0 p0q1)) + 1))]])
  else
  none)
  else
  (bif (((pickV p0q0 ((sShP p0q0 p0q1)) 24) : Int) == 1) then
  some ([.one ((.ints .i64 [4, 4, 4]), true)], [[(.ints .u8 p0q0), (.int .i64 (((sShP p0q0 p0q1)) + 1))]])
  else
  (bif (((pickV p0q0 ((sShP p0q0 p0q1)) 24) : Int) == 2) then
  some ([.one ((.ints .i64 [1, 1, 1, 1]), true)], [[(.ints .u8 p0q0), (.int .i64 (((sShP p0q0 p0q1)) + 1))]])
  else
  (bif (((pickV p0q0 ((sShP p0q0 p0q1)) 24) : Int) == 3) then
  (bif fits ((sShV p0q0 p0q1).length + ([(-1)] : List Int).length) 8 then
  some ([.one ((.ints .i64 ((sShV p0q0 p0q1) ++ [(-1)])), true)], [[(.ints .u8 p0q0), (.int .i64 (((sShP p0q0 p0q1)) + 1))]])
  else
  none)
  else
  some ([.one ((.ints .i64 (sShV p0q0 p0q1)), true)], [[(.ints .u8 p0q0), (.int .i64 (((sShP p0q0 p0q1)) + 1))]])))))
  else
  none)
  else
  none) := by kernel_rfl
end spec_anyShape
theorem spec_anyShape.ok_of (hX : ∀ E ∈ spec_anyShape.X, CallSpec Try.prog E) (h : ∀ (bs : List Int) (p : Int), (rdOk bs p && decide ((p : Int) ≤ 2000000)) = true → ∃ fuel, runF Try.prog spec_anyShape.X spec_anyShape.I 0 fuel 103 Try.f103 [.box [(.ints .u8 bs), (.int .i64 p)]] = some ([.one ((.ints .i64 (aShV bs p)), true)], [[(.ints .u8 bs), (.int .i64 (sShP bs p + 1))]])) : CallSpec Try.prog spec_anyShape.E :=
  callSpec_of (d := 0) hX (by kernel_rfl) spec_anyShape.I_ok (by kernel_rfl) (by kernel_rfl) (by kernel_rfl) (fun _ _ _ _ h => by dsimp only [spec_anyShape.E] at h; cases h) (fun xs hp => by
    dsimp only [spec_anyShape.E] at hp ⊢
    split at hp
    · exact h _ _ hp
    · cases hp)
theorem spec_anyShape.ok : CallSpec Try.prog spec_anyShape.E := spec_anyShape.ok_of (by simp [spec_anyShape.X, spec_someShape.ok, spec_reader_pick.ok]) fun bs p h => ⟨0, by
  have h' := h
  simp only [Bool.and_eq_true, decide_eq_true_eq] at h'
  have b := sShP_bd bs p
  have r1 := rd_le (q := sShP bs p) h'.1 (by omega) (by omega)
  have l := (validS_inv (sShV_ok h'.1 h'.2)).1
  rw [spec_anyShape.e, h, r1, fitsOk (by simp; omega), fitsOk (by simp; omega)]
  unfold aShV
  cases pickV bs (sShP bs p) 24 == 0 <;> cases pickV bs (sShP bs p) 24 == 1 <;> cases pickV bs (sShP bs p) 24 == 2 <;> cases pickV bs (sShP bs p) 24 == 3 <;> rfl⟩

namespace spec_reader_spoil
noncomputable def E : Entry := ⟨104, false, false, fun | [.box [(.ints .u8 bs), (.int .i64 p)], .d (.ints .i64 xs), .d (.int .i64 n)] => rdOk bs p && decide ((p : Int) ≤ 2000000) && decide ((xs : List Int).length ≤ 1000000) | _ => false, fun | [.box [(.ints .u8 bs), (.int .i64 p)], .d (.ints .i64 xs), .d (.int .i64 n)] => ([.one ((.ints .i64 (spV bs p xs n)), false)], [[(.ints .u8 bs), (.int .i64 (spP bs p xs))]]) | _ => ([], []), fun _ => [], false, fun _ => none⟩
end spec_reader_spoil
namespace spec_reader_spoil
noncomputable def X : List Entry := [spec_copyInts.E, spec_reader_pick.E, spec_reader_one.E]
noncomputable def I : List Inl := [⟨104, Try.f104, ⟨[9], [], [(7, [7]), (11, [7])], [], [37], []⟩⟩]
theorem I_ok : ∀ i ∈ I, Try.prog.funcs[i.f]? = some i.fn ∧ (i.fn.name == "runtime.NumGoroutine") = false := by
  intro i hi
  simp only [I, List.mem_cons, List.not_mem_nil, or_false] at hi
  subst hi
  exact ⟨by kernel_rfl, by kernel_rfl⟩
theorem e (fuel : Nat) (p0q0 : List Int) (p0q1 : Int) (p1 : List Int) (p2 : Int) : runF Try.prog X I 0 fuel 104 Try.f104 [.box [(.ints .u8 p0q0), (.int .i64 p0q1)], .d (.ints .i64 p1), .d (.int .i64 p2)] =
  (bif szB p1 then
  (bif rdOk p0q0 p0q1 && decide ((20 : Int) ≤ 1048576) then
  (bif (((pickV p0q0 p0q1 20) : Int) == 0) then
  (bif fits (p1.length + ([p2] : List Int).length) 8 then
  some ([.one ((.ints .i64 (p1 ++ [p2])), false)], [[(.ints .u8 p0q0), (.int .i64 (p0q1 + 1))]])
  else
  none)
  else
  (bif (((pickV p0q0 p0q1 20) : Int) == 1) then
  (bif (decide ((((p1.length : Nat) : Int) : Int) > 0)) then
  (cutEnds p1.length (some (.imm (.int .i64 1))) (none)).bind fun cq1 =>
  some ([.one ((.ints .i64 ((p1.drop cq1.1).take (cq1.2 - cq1.1))), false)], [[(.ints .u8 p0q0), (.int .i64 (p0q1 + 1))]])
  else
  some ([.one ((.ints .i64 p1), false)], [[(.ints .u8 p0q0), (.int .i64 (p0q1 + 1))]]))
  else
  (bif (((pickV p0q0 p0q1 20) : Int) == 2) then
  (bif (decide ((((p1.length : Nat) : Int) : Int) > 0)) then
  (bif rdOk p0q0 ((p0q1 + 1)) && decide (((((p1.length : Nat) : Int)) : Int) ≤ 1048576) then
  (bif rdOk p0q0 ((((p0q1 + 1)) + 1)) && decide (0 < ((([(-1), p2, 0, 1] : List Int)) : List Int).length) && decide (((([(-1), p2, 0, 1] : List Int)) : List Int).length ≤ 1048576) then
  (idx (pickV p0q0 ((p0q1 + 1)) (((p1.length : Nat) : Int))) p1.length).bind fun j2 =>
  (bif decide (j2 < p1.length) then
  some ([.one ((.ints .i64 (p1.set j2 (oneV p0q0 ((((p0q1 + 1)) + 1)) (([(-1), p2, 0, 1] : List Int))))), false)], [[(.ints .u8 p0q0), (.int .i64 (((((p0q1 + 1)) + 1)) + 1))]])
  else
  none)
  else
  none)
  else
  none)
  else
  some ([.one ((.ints .i64 p1), false)], [[(.ints .u8 p0q0), (.int .i64 (p0q1 + 1))]]))
  else
  some ([.one ((.ints .i64 p1), false)], [[(.ints .u8 p0q0), (.int .i64 (p0q1 + 1))]]))))
  else
  none)
  else
  none) := by kernel_rfl
end spec_reader_spoil
theorem spec_reader_spoil.ok_of (hX : ∀ E ∈ spec_reader_spoil.X, CallSpec Try.prog E) (h : ∀ (bs : List Int) (p : Int) (xs : List Int) (n : Int), (rdOk bs p && decide ((p : Int) ≤ 2000000) && decide ((xs : List Int).length ≤ 1000000)) = true → ∃ fuel, runF Try.prog spec_reader_spoil.X spec_reader_spoil.I 0 fuel 104 Try.f104 [.box [(.ints .u8 bs), (.int .i64 p)], .d (.ints .i64 xs), .d (.int .i64 n)] = some ([.one ((.ints .i64 (spV bs p xs n)), false)], [[(.ints .u8 bs), (.int .i64 (spP bs p xs))]])) : CallSpec Try.prog spec_reader_spoil.E :=
  callSpec_of (d := 0) hX (by kernel_rfl) spec_reader_spoil.I_ok (by kernel_rfl) (by kernel_rfl) (by kernel_rfl) (fun _ _ _ _ h => by dsimp only [spec_reader_spoil.E] at h; cases h) (fun xs hp => by
    dsimp only [spec_reader_spoil.E] at hp ⊢
    split at hp
    · exact h _ _ _ _ hp
    · cases hp)
theorem spec_reader_spoil.ok : CallSpec Try.prog spec_reader_spoil.E := spec_reader_spoil.ok_of (by simp [spec_reader_spoil.X, spec_copyInts.ok, spec_reader_pick.ok, spec_reader_one.ok]) fun bs p xs n h => ⟨0, by
  simp only [Bool.and_eq_true, decide_eq_true_eq] at h
  obtain ⟨⟨h1, h2⟩, h3⟩ := h
  have r1 := rd_le (q := p + 1) h1 (by omega) (by omega)
  have r2 := rd_le (q := p + 1 + 1) h1 (by omega) (by omega)
  rw [spec_reader_spoil.e, szB_of (by omega), h1]
  unfold spV spP
  simp only [Bool.true_and, cond_true]
  rw [decide_eq_true (p := (20 : Int) ≤ 1048576) (by omega), cond_true]
  cases pickV bs p 20 == 0 with
  | true => rw [fitsOk (by simp only [List.length_cons, List.length_nil]; omega)]; rfl
  | false =>
    cases pickV bs p 20 == 1 with
    | true =>
      simp only [cond_true, cond_false]
      by_cases h0 : xs.length = 0
      · have e := List.length_eq_zero_iff.mp h0
        subst e
        rfl
      · rw [decide_eq_true (p := ((xs.length : Nat) : Int) > 0) (by omega), cond_true, cut_one (by omega)]
        simp only [Option.bind_some]
        rw [drop_take]
    | false =>
      cases pickV bs p 20 == 2 with
      | false => rfl
      | true =>
        simp only [cond_true, cond_false]
        by_cases h0 : xs.length = 0
        · have e := List.length_eq_zero_iff.mp h0
          subst e
          rfl
        · have pb := pick_bd (n := ((xs.length : Nat) : Int)) r1 (by omega)
          have hi : idx (pickV bs (p + 1) ((xs.length : Nat) : Int)) xs.length = some (pickV bs (p + 1) ((xs.length : Nat) : Int)).toNat := by
            simp only [idx]
            rw [if_pos (by omega)]
          rw [decide_eq_true (p := ((xs.length : Nat) : Int) > 0) (by omega), cond_true, r1, r2, decide_eq_true (p := ((xs.length : Nat) : Int) ≤ 1048576) (by omega), hi, decide_eq_true (p := 0 < xs.length) (by omega)]
          simp only [Bool.true_and, cond_true, Option.bind_some]
          rw [decide_eq_true (p := (pickV bs (p + 1) ((xs.length : Nat) : Int)).toNat < xs.length) (by omega)]
          rfl⟩

namespace spec_anyArray
noncomputable def E : Entry := ⟨69, false, false, fun | [.box [(.ints .u8 bs), (.int .i64 p)]] => rdOk bs p && decide ((p : Int) ≤ 1000000) | _ => false, fun | [.box [(.ints .u8 bs), (.int .i64 p)]] => ([.agg [((.ints .i64 (aArS bs p)), false), ((.ints .i64 (aArD bs p)), false)]], [[(.ints .u8 bs), (.int .i64 (aArP bs p))]]) | _ => ([], []), fun _ => [], false, fun _ => none⟩
end spec_anyArray
namespace spec_anyArray
noncomputable def X : List Entry := [spec_someArray.E, spec_reader_pick.E, spec_anyShape.E, spec_reader_spoil.E]
noncomputable def I : List Inl := [⟨69, Try.f69, ⟨[5, 11, 20], [], [(7, [3, 3]), (3000020, [19])], [], [], [20]⟩⟩]
theorem I_ok : ∀ i ∈ I, Try.prog.funcs[i.f]? = some i.fn ∧ (i.fn.name == "runtime.NumGoroutine") = false := by
  intro i hi
  simp only [I, List.mem_cons, List.not_mem_nil, or_false] at hi
  subst hi
  exact ⟨by kernel_rfl, by kernel_rfl⟩
theorem e (fuel : Nat) (p0q0 : List Int) (p0q1 : Int) : runF Try.prog X I 0 fuel 69 Try.f69 [.box [(.ints .u8 p0q0), (.int .i64 p0q1)]] =
  (bif rdOk p0q0 p0q1 && decide ((p0q1 : Int) ≤ 1000000) then
  (bif rdOk p0q0 ((sDaP p0q0 p0q1)) && decide ((30 : Int) ≤ 1048576) then
  (bif (((pickV p0q0 ((sDaP p0q0 p0q1)) 30) : Int) == 0) then
  (bif rdOk p0q0 ((((sDaP p0q0 p0q1)) + 1)) && decide ((((((sDaP p0q0 p0q1)) + 1)) : Int) ≤ 2000000) then
  some ([.agg [((.ints .i64 (aShV p0q0 ((((sDaP p0q0 p0q1)) + 1)))), false), ((.ints .i64 (sDaV p0q0 p0q1)), false)]], [[(.ints .u8 p0q0), (.int .i64 (sShP p0q0 ((((sDaP p0q0 p0q1)) + 1)) + 1))]])
  else
  none)
  else
  (bif (((pickV p0q0 ((sDaP p0q0 p0q1)) 30) : Int) == 1) then
  (bif fits ((sDaV p0q0 p0q1).length + ([5] : List Int).length) 8 then
  (bif rdOk p0q0 ((((sDaP p0q0 p0q1)) + 1)) && decide ((((((sDaP p0q0 p0q1)) + 1)) : Int) ≤ 2000000) && decide (((((sDaV p0q0 p0q1) ++ [5])) : List Int).length ≤ 1000000) then
  some ([.agg [((.ints .i64 (sShV p0q0 p0q1)), false), ((.ints .i64 (spV p0q0 ((((sDaP p0q0 p0q1)) + 1)) (((sDaV p0q0 p0q1) ++ [5])) 1000001)), false)]], [[(.ints .u8 p0q0), (.int .i64 (spP p0q0 ((((sDaP p0q0 p0q1)) + 1)) (((sDaV p0q0 p0q1) ++ [5]))))]])
  else
  none)
  else
  none)
  else
  some ([.agg [((.ints .i64 (sShV p0q0 p0q1)), false), ((.ints .i64 (sDaV p0q0 p0q1)), false)]], [[(.ints .u8 p0q0), (.int .i64 (((sDaP p0q0 p0q1)) + 1))]])))
  else
  none)
  else
  none) := by kernel_rfl
end spec_anyArray
theorem spec_anyArray.ok_of (hX : ∀ E ∈ spec_anyArray.X, CallSpec Try.prog E) (h : ∀ (bs : List Int) (p : Int), (rdOk bs p && decide ((p : Int) ≤ 1000000)) = true → ∃ fuel, runF Try.prog spec_anyArray.X spec_anyArray.I 0 fuel 69 Try.f69 [.box [(.ints .u8 bs), (.int .i64 p)]] = some ([.agg [((.ints .i64 (aArS bs p)), false), ((.ints .i64 (aArD bs p)), false)]], [[(.ints .u8 bs), (.int .i64 (aArP bs p))]])) : CallSpec Try.prog spec_anyArray.E :=
  callSpec_of (d := 0) hX (by kernel_rfl) spec_anyArray.I_ok (by kernel_rfl) (by kernel_rfl) (by kernel_rfl) (fun _ _ _ _ h => by dsimp only [spec_anyArray.E] at h; cases h) (fun xs hp => by
    dsimp only [spec_anyArray.E] at hp ⊢
    split at hp
    · exact h _ _ hp
    · cases hp)
theorem spec_anyArray.ok : CallSpec Try.prog spec_anyArray.E := spec_anyArray.ok_of (by simp [spec_anyArray.X, spec_someArray.ok, spec_reader_pick.ok, spec_anyShape.ok, spec_reader_spoil.ok]) fun bs p h => ⟨0, by
  simp only [Bool.and_eq_true, decide_eq_true_eq] at h
  obtain ⟨h1, h2, h3⟩ := sDa_bd h.1 (by omega)
  have r1 := rd_le (q := sDaP bs p) h.1 (by omega) (by omega)
  have r2 := rd_le (q := sDaP bs p + 1) h.1 (by omega) (by omega)
  have hz : (sDaV bs p ++ [5]).length ≤ 1000000 := by rw [List.length_append]; simp; omega
  rw [spec_anyArray.e, h.1, r1, r2, decide_eq_true (p := p ≤ 1000000) h.2, decide_eq_true (p := (30 : Int) ≤ 1048576) (by omega), decide_eq_true (p := sDaP bs p + 1 ≤ 2000000) (by omega), fitsOk (by simp only [List.length_cons, List.length_nil]; omega), decide_eq_true hz]
  unfold aArS aArD aArP
  cases pickV bs (sDaP bs p) 30 == 0 with
  | true => rfl
  | false =>
    cases pickV bs (sDaP bs p) 30 == 1 with
    | true => rfl
    | false => rfl⟩

namespace spec_smallNum
noncomputable def E : Entry := ⟨79, false, false, fun | [.box [(.ints .u8 bs), (.int .i64 p)]] => rdOk bs p | _ => false, fun | [.box [(.ints .u8 bs), (.int .i64 p)]] => ([.one ((.int .i64 (oneV bs p smallL)), false)], [[(.ints .u8 bs), (.int .i64 (p + 1))]]) | _ => ([], []), fun _ => [], false, fun _ => none⟩
end spec_smallNum
namespace spec_smallNum
noncomputable def X : List Entry := [spec_reader_one.E]
noncomputable def I : List Inl := [⟨79, Try.f79, ⟨[], [], [], [], [4], []⟩⟩]
theorem I_ok : ∀ i ∈ I, Try.prog.funcs[i.f]? = some i.fn ∧ (i.fn.name == "runtime.NumGoroutine") = false := by
  intro i hi
  simp only [I, List.mem_cons, List.not_mem_nil, or_false] at hi
  subst hi
  exact ⟨by kernel_rfl, by kernel_rfl⟩
theorem e (fuel : Nat) (p0q0 : List Int) (p0q1 : Int) : runF Try.prog X I 0 fuel 79 Try.f79 [.box [(.ints .u8 p0q0), (.int .i64 p0q1)]] =
  (bif rdOk p0q0 p0q1 && decide (0 < ((([0, 1, 2, 3, (-1), 5, (-2), 4] : List Int)) : List Int).length) && decide (((([0, 1, 2, 3, (-1), 5, (-2), 4] : List Int)) : List Int).length ≤ 1048576) then
  some ([.one ((.int .i64 (oneV p0q0 p0q1 (([0, 1, 2, 3, (-1), 5, (-2), 4] : List Int)))), false)], [[(.ints .u8 p0q0), (.int .i64 (p0q1 + 1))]])
  else
  none) := by kernel_rfl
end spec_smallNum
theorem spec_smallNum.ok_of (hX : ∀ E ∈ spec_smallNum.X, CallSpec Try.prog E) (h : ∀ (bs : List Int) (p : Int), (rdOk bs p) = true → ∃ fuel, runF Try.prog spec_smallNum.X spec_smallNum.I 0 fuel 79 Try.f79 [.box [(.ints .u8 bs), (.int .i64 p)]] = some ([.one ((.int .i64 (oneV bs p smallL)), false)], [[(.ints .u8 bs), (.int .i64 (p + 1))]])) : CallSpec Try.prog spec_smallNum.E :=
  callSpec_of (d := 0) hX (by kernel_rfl) spec_smallNum.I_ok (by kernel_rfl) (by kernel_rfl) (by kernel_rfl) (fun _ _ _ _ h => by dsimp only [spec_smallNum.E] at h; cases h) (fun xs hp => by
    dsimp only [spec_smallNum.E] at hp ⊢
    split at hp
    · exact h _ _ hp
    · cases hp)
theorem spec_smallNum.ok : CallSpec Try.prog spec_smallNum.E := spec_smallNum.ok_of (by simp [spec_smallNum.X, spec_reader_one.ok]) fun bs p h => ⟨0, by
  rw [spec_smallNum.e, h]
  rfl⟩

namespace spec_vector
noncomputable def E : Entry := ⟨54, false, false, fun | [.d (.ints .i64 xs)] => szB xs | _ => false, fun | [.d (.ints .i64 xs)] => ([.agg [((.ints .i64 [((xs.length : Nat) : Int)]), true), ((.ints .i64 xs), true)]], []) | _ => ([], []), fun _ => [], true, fun _ => none⟩
end spec_vector
namespace spec_vector
noncomputable def X : List Entry := [spec_make1.E]
noncomputable def I : List Inl := [⟨54, Try.f54, ⟨[7], [], [], [], [5], []⟩⟩]
theorem I_ok : ∀ i ∈ I, Try.prog.funcs[i.f]? = some i.fn ∧ (i.fn.name == "runtime.NumGoroutine") = false := by
  intro i hi
  simp only [I, List.mem_cons, List.not_mem_nil, or_false] at hi
  subst hi
  exact ⟨by kernel_rfl, by kernel_rfl⟩
theorem e (fuel : Nat) (p0 : List Int) : runF Try.prog X I 0 fuel 54 Try.f54 [.d (.ints .i64 p0)] =
  (bif szB (([((p0.length : Nat) : Int)] : List Int)) && szB p0 then
  some ([.agg [((.ints .i64 (([((p0.length : Nat) : Int)] : List Int))), true), ((.ints .i64 p0), true)]], [])
  else
  none) := by kernel_rfl
end spec_vector
theorem spec_vector.ok_of (hX : ∀ E ∈ spec_vector.X, CallSpec Try.prog E) (h : ∀ (xs : List Int), (szB xs) = true → ∃ fuel, runF Try.prog spec_vector.X spec_vector.I 0 fuel 54 Try.f54 [.d (.ints .i64 xs)] = some ([.agg [((.ints .i64 [((xs.length : Nat) : Int)]), true), ((.ints .i64 xs), true)]], [])) : CallSpec Try.prog spec_vector.E :=
  callSpec_of (d := 0) hX (by kernel_rfl) spec_vector.I_ok (by kernel_rfl) (by kernel_rfl) (by kernel_rfl) (fun _ _ _ _ h => by dsimp only [spec_vector.E] at h; cases h) (fun xs hp => by
    dsimp only [spec_vector.E] at hp ⊢
    split at hp
    · exact h _ hp
    · cases hp)
theorem spec_vector.ok : CallSpec Try.prog spec_vector.E := spec_vector.ok_of (by simp [spec_vector.X, spec_make1.ok]) fun xs h => ⟨0, by
  rw [spec_vector.e, h, szB_of (by simp)]
  rfl⟩

namespace spec_anyVector
noncomputable def E : Entry := ⟨37, false, false, fun | [.box [(.ints .u8 bs), (.int .i64 p)]] => rdOk bs p && decide ((p : Int) ≤ 900000) | _ => false, fun | [.box [(.ints .u8 bs), (.int .i64 p)]] => ([.agg [((.ints .i64 (avS bs p)), false), ((.ints .i64 (avD bs p)), false)]], [[(.ints .u8 bs), (.int .i64 (avP bs p))]]) | _ => ([], []), fun _ => [], false, fun _ => none⟩
end spec_anyVector
namespace spec_anyVector
noncomputable def X : List Entry := [spec_reader_pick.E, spec_anyArray.E, spec_reader_one.E, spec_smallNum.E, spec_vector.E]
noncomputable def I : List Inl := [⟨37, Try.f37, ⟨[9], [(1000005, [1, 5, 6, 7, 8, 9, 10, 11, 12, 13, 14, 15, 16, 17, 18, 19, 20, 21, 22, 23, 24])], [], [], [12], []⟩⟩]
theorem I_ok : ∀ i ∈ I, Try.prog.funcs[i.f]? = some i.fn ∧ (i.fn.name == "runtime.NumGoroutine") = false := by
  intro i hi
  simp only [I, List.mem_cons, List.not_mem_nil, or_false] at hi
  subst hi
  exact ⟨by kernel_rfl, by kernel_rfl⟩
noncomputable abbrev L0 (fuel n : Nat) (s : St) (k : Kont) := lAt Try.prog X I fuel false 0 false 37 (bodyOf Try.f37) [1, 1, 1, 0, 1, 0] n s k
noncomputable abbrev k0  (fuel : Nat) : Kont := (kAt Try.prog X I fuel false 0 false 37 (bodyOf Try.f37) [1, 1, 1, 0, 1, 0] [] (endK Try.prog Try.f37))
noncomputable def t0 (p0q0 : List Int) (x0q0 : Int) (x0q2 : Int) (x0q3 : List Int) : St := ⟨[(.ptr 1000000000 0 0), .dead, (.ptr 1000000001 0 0), (.all 1000000002 1), (.imm (.int .i64 x0q0)), .dead, .dead, .dead, .dead, .dead, .dead, .dead, .dead, .dead, .dead, .dead, .dead, .dead, .dead, .dead, .dead, .dead, .dead, .dead, .dead], hOf [(1000000000, (.box [(.imm (.ints .u8 p0q0)), (.imm (.int .i64 x0q2))])), (1000000001, (.box [(.imm .nils), (.imm .nils)])), (1000000002, (.ints .i64 x0q3))], [(.ptr 1000000000 0 0)], []⟩
theorem e (fuel : Nat) (p0q0 : List Int) (p0q1 : Int) : runF Try.prog X I 0 fuel 37 Try.f37 [.box [(.ints .u8 p0q0), (.int .i64 p0q1)]] =
  (bif rdOk p0q0 p0q1 && decide ((10 : Int) ≤ 1048576) then
  (bif (((pickV p0q0 p0q1 10) : Int) == 0) then
  (bif rdOk p0q0 ((p0q1 + 1)) && decide ((((p0q1 + 1)) : Int) ≤ 1000000) then
  some ([.agg [((.ints .i64 (aArS p0q0 ((p0q1 + 1)))), false), ((.ints .i64 (aArD p0q0 ((p0q1 + 1)))), false)]], [[(.ints .u8 p0q0), (.int .i64 (aArP p0q0 ((p0q1 + 1))))]])
  else
  none)
  else
  (bif rdOk p0q0 ((p0q1 + 1)) && decide (0 < ((([4, 5, 3, 6, 2, 1, 0, 9] : List Int)) : List Int).length) && decide (((([4, 5, 3, 6, 2, 1, 0, 9] : List Int)) : List Int).length ≤ 1048576) then
  L0 fuel fuel (t0 p0q0 ((oneV p0q0 ((p0q1 + 1)) (([4, 5, 3, 6, 2, 1, 0, 9] : List Int)))) ((((p0q1 + 1)) + 1)) ([])) (k0  fuel)
  else
  none))
  else
  none) := by kernel_rfl
theorem s0 (fuel n0 : Nat) (p0q0 : List Int) (x0q0 : Int) (x0q2 : Int) (x0q3 : List Int) : L0 fuel (n0 + 1) (t0 p0q0 x0q0 x0q2 x0q3) (k0  fuel) =
  (bif (decide ((x0q0 : Int) > 0)) then
  (bif rdOk p0q0 x0q2 then
  (bif fits (x0q3.length + ([(oneV p0q0 x0q2 smallL)] : List Int).length) 8 then
  L0 fuel n0 (t0 p0q0 ((IntKind.wrap .i64 (x0q0 - 1))) ((x0q2 + 1)) ((x0q3 ++ [(oneV p0q0 x0q2 smallL)]))) (k0  fuel)
  else
  none)
  else
  none)
  else
  (bif szB x0q3 then
  some ([.agg [((.ints .i64 [((x0q3.length : Nat) : Int)]), false), ((.ints .i64 x0q3), false)]], [[(.ints .u8 p0q0), (.int .i64 x0q2)]])
  else
  none)) := by kernel_rfl
end spec_anyVector
theorem spec_anyVector.ok_of (hX : ∀ E ∈ spec_anyVector.X, CallSpec Try.prog E) (h : ∀ (bs : List Int) (p : Int), (rdOk bs p && decide ((p : Int) ≤ 900000)) = true → ∃ fuel, runF Try.prog spec_anyVector.X spec_anyVector.I 0 fuel 37 Try.f37 [.box [(.ints .u8 bs), (.int .i64 p)]] = some ([.agg [((.ints .i64 (avS bs p)), false), ((.ints .i64 (avD bs p)), false)]], [[(.ints .u8 bs), (.int .i64 (avP bs p))]])) : CallSpec Try.prog spec_anyVector.E :=
  callSpec_of (d := 0) hX (by kernel_rfl) spec_anyVector.I_ok (by kernel_rfl) (by kernel_rfl) (by kernel_rfl) (fun _ _ _ _ h => by dsimp only [spec_anyVector.E] at h; cases h) (fun xs hp => by
    dsimp only [spec_anyVector.E] at hp ⊢
    split at hp
    · exact h _ _ hp
    · cases hp)
theorem spec_anyVector.ok : CallSpec Try.prog spec_anyVector.E := spec_anyVector.ok_of (by simp [spec_anyVector.X, spec_reader_pick.ok, spec_anyArray.ok, spec_reader_one.ok, spec_smallNum.ok, spec_vector.ok]) fun bs p h => by
  obtain ⟨F, hF⟩ : ∃ F : Nat, 1000 < F := ⟨1001, by omega⟩
  refine ⟨F, ?_⟩
  simp only [Bool.and_eq_true, decide_eq_true_eq] at h
  have r1 := rd_le (q := p + 1) h.1 (by omega) (by omega)
  rw [spec_anyVector.e, h.1, r1, decide_eq_true (p := p + 1 ≤ 1000000) (by omega)]
  unfold avS avD avP avC
  cases pickV bs p 10 == 0 with
  | true => rfl
  | false =>
    obtain ⟨n1, n2⟩ := avN_bd h.1 h.2
    have hlen : (avV bs p).length = avN bs p := tab_length _ _
    have hz : (decide (0 < ([4, 5, 3, 6, 2, 1, 0, 9] : List Int).length) && decide (([4, 5, 3, 6, 2, 1, 0, 9] : List Int).length ≤ 1048576)) = true := rfl
    simp only [cond_false]
    rw [n2]
    show (bif (true && decide (0 < ([4, 5, 3, 6, 2, 1, 0, 9] : List Int).length) && decide (([4, 5, 3, 6, 2, 1, 0, 9] : List Int).length ≤ 1048576)) then _ else none) = _
    rw [show (true && decide (0 < ([4, 5, 3, 6, 2, 1, 0, 9] : List Int).length) && decide (([4, 5, 3, 6, 2, 1, 0, 9] : List Int).length ≤ 1048576)) = true from rfl, cond_true]
    refine run_loop (N := avN bs p) (fun n j (st : Int × Int × List Int) => spec_anyVector.L0 F n (spec_anyVector.t0 bs st.1 st.2.1 st.2.2) (spec_anyVector.k0 F)) (fun j st => st.1 = ((avN bs p - j : Nat) : Int) ∧ st.2.1 = p + 1 + 1 + ((j : Nat) : Int) ∧ st.2.2 = (avV bs p).take j) ?_ ?_ F 0 (_, p + 1 + 1, []) (by omega) (by omega) ⟨rfl, by simp, by simp⟩
    · rintro n ⟨c, q, out⟩ ⟨e0, e1, e2⟩
      simp only at e0 e1 e2
      rw [← hlen, List.take_length] at e2
      subst e0
      subst e1
      subst e2
      dsimp only
      rw [spec_anyVector.s0, decide_eq_false (by omega), cond_false, szB_of (by omega), hlen]
      rfl
    · rintro n j ⟨c, q, out⟩ hj ⟨e0, e1, e2⟩
      simp only at e0 e1 e2
      subst e0
      subst e1
      have hol : out.length = j := by rw [e2, take_len (by omega)]
      have r2 := rd_le (q := p + 1 + 1 + ((j : Nat) : Int)) h.1 (by omega) (by omega)
      rw [spec_anyVector.s0, decide_eq_true (by omega), cond_true, r2, cond_true, fitsOk (by simp only [List.length_cons, List.length_nil]; omega), cond_true]
      refine ⟨(((avN bs p - (j + 1) : Nat) : Int), p + 1 + 1 + ((j + 1 : Nat) : Int), out ++ [oneV bs (p + 1 + 1 + ((j : Nat) : Int)) smallL]), ⟨rfl, rfl, ?_⟩, ?_⟩
      · simp only
        rw [e2]
        refine take_push (by omega) ?_
        simp only [avV]
        rw [tab_getD hj]
      · rw [wS (by omega) (by omega), show ((avN bs p - j : Nat) : Int) - 1 = ((avN bs p - (j + 1) : Nat) : Int) by omega, show p + 1 + 1 + ((j + 1 : Nat) : Int) = p + 1 + 1 + ((j : Nat) : Int) + 1 by omega]

namespace spec_DrawNeighboursOf
noncomputable def E : Entry := ⟨19, false, false, fun | [.d (.ints .u8 bs)] => bytesB bs | _ => false, fun | [.d (.ints .u8 bs)] => ([.one ((.int .i64 (anyOpV (cutC bs) 0)), false), .agg [((.ints .i64 (avS (cutC bs) 2)), false), ((.ints .i64 (avD (cutC bs) 2)), false)]], []) | _ => ([], []), fun _ => [], true, fun _ => none⟩
end spec_DrawNeighboursOf
namespace spec_DrawNeighboursOf
noncomputable def X : List Entry := [spec_newReader.E, spec_anyOp.E, spec_anyVector.E]
noncomputable def I : List Inl := [⟨19, Try.f19, ⟨[12], [], [], [], [], []⟩⟩]
theorem I_ok : ∀ i ∈ I, Try.prog.funcs[i.f]? = some i.fn ∧ (i.fn.name == "runtime.NumGoroutine") = false := by
  intro i hi
  simp only [I, List.mem_cons, List.not_mem_nil, or_false] at hi
  subst hi
  exact ⟨by kernel_rfl, by kernel_rfl⟩
theorem e (fuel : Nat) (p0 : List Int) : runF Try.prog X I 0 fuel 19 Try.f19 [.d (.ints .u8 p0)] =
  (bif rdOk ((cutC p0)) (0 + 1) && rdOk ((cutC p0)) 0 then
  (bif rdOk (((cutC p0))) ((0 + 2)) && decide ((((0 + 2)) : Int) ≤ 900000) then
  some ([.one ((.int .i64 (anyOpV ((cutC p0)) 0)), false), .agg [((.ints .i64 (avS (((cutC p0))) ((0 + 2)))), false), ((.ints .i64 (avD (((cutC p0))) ((0 + 2)))), false)]], [])
  else
  none)
  else
  none) := by kernel_rfl
end spec_DrawNeighboursOf
theorem spec_DrawNeighboursOf.ok_of (hX : ∀ E ∈ spec_DrawNeighboursOf.X, CallSpec Try.prog E) (h : ∀ (bs : List Int), (bytesB bs) = true → ∃ fuel, runF Try.prog spec_DrawNeighboursOf.X spec_DrawNeighboursOf.I 0 fuel 19 Try.f19 [.d (.ints .u8 bs)] = some ([.one ((.int .i64 (anyOpV (cutC bs) 0)), false), .agg [((.ints .i64 (avS (cutC bs) 2)), false), ((.ints .i64 (avD (cutC bs) 2)), false)]], [])) : CallSpec Try.prog spec_DrawNeighboursOf.E :=
  callSpec_of (d := 0) hX (by kernel_rfl) spec_DrawNeighboursOf.I_ok (by kernel_rfl) (by kernel_rfl) (by kernel_rfl) (fun _ _ _ _ h => by dsimp only [spec_DrawNeighboursOf.E] at h; cases h) (fun xs hp => by
    dsimp only [spec_DrawNeighboursOf.E] at hp ⊢
    split at hp
    · exact h _ hp
    · cases hp)
theorem spec_DrawNeighboursOf.ok : CallSpec Try.prog spec_DrawNeighboursOf.E := spec_DrawNeighboursOf.ok_of (by simp [spec_DrawNeighboursOf.X, spec_newReader.ok, spec_anyOp.ok, spec_anyVector.ok]) fun bs h => ⟨0, by
  have r0 := cut_ok h (p := 0) (by omega) (by omega)
  rw [spec_DrawNeighboursOf.e, r0, rd_le (q := 0 + 1) r0 (by omega) (by omega), rd_le (q := 0 + 2) r0 (by omega) (by omega)]
  rfl⟩

namespace impl_limited
noncomputable def E : Entry := ⟨83, true, false, fun | [.d (.int .i64 n)] => true | _ => false, fun | [.d (.int .i64 n)] => ([.one ((.int .i64 (limV n)), false)], []) | _ => ([], []), fun _ => [], false, fun _ => none⟩
end impl_limited
namespace impl_limited
noncomputable def X : List Entry := []
noncomputable def I : List Inl := [⟨83, Try.f83, ⟨[], [], [], [], [], []⟩⟩]
theorem I_ok : ∀ i ∈ I, Try.prog.funcs[i.f]? = some i.fn ∧ (i.fn.name == "runtime.NumGoroutine") = false := by
  intro i hi
  simp only [I, List.mem_cons, List.not_mem_nil, or_false] at hi
  subst hi
  exact ⟨by kernel_rfl, by kernel_rfl⟩
theorem e (fuel : Nat) (p0 : Int) : runF Try.prog X I 0 fuel 83 Try.f83 [.d (.int .i64 p0)] =
  some ([.one ((.int .i64 (minI (maxI p0 (-1000000)) 1000000)), false)], []) := by kernel_rfl
end impl_limited
theorem impl_limited.ok_of (hX : ∀ E ∈ impl_limited.X, CallSpec Try.prog E) (h : ∀ (n : Int), (true) = true → ∃ fuel, runF Try.prog impl_limited.X impl_limited.I 0 fuel 83 Try.f83 [.d (.int .i64 n)] = some ([.one ((.int .i64 (limV n)), false)], [])) : CallSpec Try.prog impl_limited.E :=
  callSpec_of (d := 0) hX (by kernel_rfl) impl_limited.I_ok (by kernel_rfl) (by kernel_rfl) (by kernel_rfl) (fun _ _ _ _ h => by dsimp only [impl_limited.E] at h; cases h) (fun xs hp => by
    dsimp only [impl_limited.E] at hp ⊢
    split at hp
    · exact h _ hp
    · cases hp)
theorem impl_limited.ok : CallSpec Try.prog impl_limited.E := impl_limited.ok_of (by simp [impl_limited.X]) fun n _ => ⟨0, by rw [impl_limited.e]; rfl⟩

namespace impl_functionOfTwo_1
noncomputable def E : Entry := ⟨82, true, false, fun | [.d (.int .i64 a), .d (.int .i64 b)] => true | _ => false, fun | [.d (.int .i64 a), .d (.int .i64 b)] => ([.one ((.int .i64 (limV (IntKind.wrap .i64 (a + b)))), false)], []) | _ => ([], []), fun _ => [], false, fun | [] => some (false, q2, (q2v (operF 1))) | _ => none⟩
end impl_functionOfTwo_1
namespace impl_functionOfTwo_1
noncomputable def X : List Entry := [impl_limited.E]
noncomputable def I : List Inl := [⟨82, Try.f82, ⟨[], [], [], [], [], []⟩⟩]
theorem I_ok : ∀ i ∈ I, Try.prog.funcs[i.f]? = some i.fn ∧ (i.fn.name == "runtime.NumGoroutine") = false := by
  intro i hi
  simp only [I, List.mem_cons, List.not_mem_nil, or_false] at hi
  subst hi
  exact ⟨by kernel_rfl, by kernel_rfl⟩
theorem e (fuel : Nat) (p0 : Int) (p1 : Int) : runF Try.prog X I 0 fuel 82 Try.f82 [.d (.int .i64 p0), .d (.int .i64 p1)] =
  some ([.one ((.int .i64 (limV ((IntKind.wrap .i64 (p0 + p1))))), false)], []) := by kernel_rfl
end impl_functionOfTwo_1
theorem impl_functionOfTwo_1.ok_of (hX : ∀ E ∈ impl_functionOfTwo_1.X, CallSpec Try.prog E) (hfn : ∀ ds rb dom G, impl_functionOfTwo_1.E.fnOf ds = some (rb, dom, G) → ∀ qs, dom qs = true → impl_functionOfTwo_1.E.m ((qs.map fun q => .d q.d) ++ ds.map .d) = some ([.one (fnD rb (G qs), false)], [])) (h : ∀ (a : Int) (b : Int), (true) = true → ∃ fuel, runF Try.prog impl_functionOfTwo_1.X impl_functionOfTwo_1.I 0 fuel 82 Try.f82 [.d (.int .i64 a), .d (.int .i64 b)] = some ([.one ((.int .i64 (limV (IntKind.wrap .i64 (a + b)))), false)], [])) : CallSpec Try.prog impl_functionOfTwo_1.E :=
  callSpec_of (d := 0) hX (by kernel_rfl) impl_functionOfTwo_1.I_ok (by kernel_rfl) (by kernel_rfl) (by kernel_rfl) hfn (fun xs hp => by
    dsimp only [impl_functionOfTwo_1.E] at hp ⊢
    split at hp
    · exact h _ _ hp
    · cases hp)
theorem impl_functionOfTwo_1.ok : CallSpec Try.prog impl_functionOfTwo_1.E := impl_functionOfTwo_1.ok_of (by simp [impl_functionOfTwo_1.X, impl_limited.ok]) (fun ds rb dom G h qs hq => by
  dsimp only [impl_functionOfTwo_1.E] at h
  split at h
  case h_2 => cases h
  cases h
  match qs, hq with
  | [.i a, .i b], _ => rfl) fun a b _ => ⟨0, by rw [impl_functionOfTwo_1.e]⟩

namespace impl_functionOfTwo_2
noncomputable def E : Entry := ⟨84, true, false, fun | [.d (.int .i64 a), .d (.int .i64 b)] => true | _ => false, fun | [.d (.int .i64 a), .d (.int .i64 b)] => ([.one ((.int .i64 (limV (IntKind.wrap .i64 (a - b)))), false)], []) | _ => ([], []), fun _ => [], false, fun | [] => some (false, q2, (q2v (operF 2))) | _ => none⟩
end impl_functionOfTwo_2
namespace impl_functionOfTwo_2
noncomputable def X : List Entry := [impl_limited.E]
noncomputable def I : List Inl := [⟨84, Try.f84, ⟨[], [], [], [], [], []⟩⟩]
theorem I_ok : ∀ i ∈ I, Try.prog.funcs[i.f]? = some i.fn ∧ (i.fn.name == "runtime.NumGoroutine") = false := by
  intro i hi
  simp only [I, List.mem_cons, List.not_mem_nil, or_false] at hi
  subst hi
  exact ⟨by kernel_rfl, by kernel_rfl⟩
theorem e (fuel : Nat) (p0 : Int) (p1 : Int) : runF Try.prog X I 0 fuel 84 Try.f84 [.d (.int .i64 p0), .d (.int .i64 p1)] =
  some ([.one ((.int .i64 (limV ((IntKind.wrap .i64 (p0 - p1))))), false)], []) := by kernel_rfl
end impl_functionOfTwo_2
theorem impl_functionOfTwo_2.ok_of (hX : ∀ E ∈ impl_functionOfTwo_2.X, CallSpec Try.prog E) (hfn : ∀ ds rb dom G, impl_functionOfTwo_2.E.fnOf ds = some (rb, dom, G) → ∀ qs, dom qs = true → impl_functionOfTwo_2.E.m ((qs.map fun q => .d q.d) ++ ds.map .d) = some ([.one (fnD rb (G qs), false)], [])) (h : ∀ (a : Int) (b : Int), (true) = true → ∃ fuel, runF Try.prog impl_functionOfTwo_2.X impl_functionOfTwo_2.I 0 fuel 84 Try.f84 [.d (.int .i64 a), .d (.int .i64 b)] = some ([.one ((.int .i64 (limV (IntKind.wrap .i64 (a - b)))), false)], [])) : CallSpec Try.prog impl_functionOfTwo_2.E :=
  callSpec_of (d := 0) hX (by kernel_rfl) impl_functionOfTwo_2.I_ok (by kernel_rfl) (by kernel_rfl) (by kernel_rfl) hfn (fun xs hp => by
    dsimp only [impl_functionOfTwo_2.E] at hp ⊢
    split at hp
    · exact h _ _ hp
    · cases hp)
theorem impl_functionOfTwo_2.ok : CallSpec Try.prog impl_functionOfTwo_2.E := impl_functionOfTwo_2.ok_of (by simp [impl_functionOfTwo_2.X, impl_limited.ok]) (fun ds rb dom G h qs hq => by
  dsimp only [impl_functionOfTwo_2.E] at h
  split at h
  case h_2 => cases h
  cases h
  match qs, hq with
  | [.i a, .i b], _ => rfl) fun a b _ => ⟨0, by rw [impl_functionOfTwo_2.e]⟩

namespace impl_functionOfTwo_3
noncomputable def E : Entry := ⟨85, true, false, fun | [.d (.int .i64 a), .d (.int .i64 b)] => true | _ => false, fun | [.d (.int .i64 a), .d (.int .i64 b)] => ([.one ((.int .i64 (limV (IntKind.wrap .i64 (a * b)))), false)], []) | _ => ([], []), fun _ => [], false, fun | [] => some (false, q2, (q2v (operF 3))) | _ => none⟩
end impl_functionOfTwo_3
namespace impl_functionOfTwo_3
noncomputable def X : List Entry := [impl_limited.E]
noncomputable def I : List Inl := [⟨85, Try.f85, ⟨[], [], [], [], [], []⟩⟩]
theorem I_ok : ∀ i ∈ I, Try.prog.funcs[i.f]? = some i.fn ∧ (i.fn.name == "runtime.NumGoroutine") = false := by
  intro i hi
  simp only [I, List.mem_cons, List.not_mem_nil, or_false] at hi
  subst hi
  exact ⟨by kernel_rfl, by kernel_rfl⟩
theorem e (fuel : Nat) (p0 : Int) (p1 : Int) : runF Try.prog X I 0 fuel 85 Try.f85 [.d (.int .i64 p0), .d (.int .i64 p1)] =
  some ([.one ((.int .i64 (limV ((IntKind.wrap .i64 (p0 * p1))))), false)], []) := by kernel_rfl
end impl_functionOfTwo_3
theorem impl_functionOfTwo_3.ok_of (hX : ∀ E ∈ impl_functionOfTwo_3.X, CallSpec Try.prog E) (hfn : ∀ ds rb dom G, impl_functionOfTwo_3.E.fnOf ds = some (rb, dom, G) → ∀ qs, dom qs = true → impl_functionOfTwo_3.E.m ((qs.map fun q => .d q.d) ++ ds.map .d) = some ([.one (fnD rb (G qs), false)], [])) (h : ∀ (a : Int) (b : Int), (true) = true → ∃ fuel, runF Try.prog impl_functionOfTwo_3.X impl_functionOfTwo_3.I 0 fuel 85 Try.f85 [.d (.int .i64 a), .d (.int .i64 b)] = some ([.one ((.int .i64 (limV (IntKind.wrap .i64 (a * b)))), false)], [])) : CallSpec Try.prog impl_functionOfTwo_3.E :=
  callSpec_of (d := 0) hX (by kernel_rfl) impl_functionOfTwo_3.I_ok (by kernel_rfl) (by kernel_rfl) (by kernel_rfl) hfn (fun xs hp => by
    dsimp only [impl_functionOfTwo_3.E] at hp ⊢
    split at hp
    · exact h _ _ hp
    · cases hp)
theorem impl_functionOfTwo_3.ok : CallSpec Try.prog impl_functionOfTwo_3.E := impl_functionOfTwo_3.ok_of (by simp [impl_functionOfTwo_3.X, impl_limited.ok]) (fun ds rb dom G h qs hq => by
  dsimp only [impl_functionOfTwo_3.E] at h
  split at h
  case h_2 => cases h
  cases h
  match qs, hq with
  | [.i a, .i b], _ => rfl) fun a b _ => ⟨0, by rw [impl_functionOfTwo_3.e]⟩

namespace impl_functionOfTwo_4
noncomputable def E : Entry := ⟨86, true, false, fun | [.d (.int .i64 a), .d (.int .i64 b)] => true | _ => false, fun | [.d (.int .i64 a), .d (.int .i64 b)] => ([.one ((.int .i64 (minI a b)), false)], []) | _ => ([], []), fun _ => [], false, fun | [] => some (false, q2, (q2v (operF 4))) | _ => none⟩
end impl_functionOfTwo_4
namespace impl_functionOfTwo_4
noncomputable def X : List Entry := []
noncomputable def I : List Inl := [⟨86, Try.f86, ⟨[], [], [], [], [], []⟩⟩]
theorem I_ok : ∀ i ∈ I, Try.prog.funcs[i.f]? = some i.fn ∧ (i.fn.name == "runtime.NumGoroutine") = false := by
  intro i hi
  simp only [I, List.mem_cons, List.not_mem_nil, or_false] at hi
  subst hi
  exact ⟨by kernel_rfl, by kernel_rfl⟩
theorem e (fuel : Nat) (p0 : Int) (p1 : Int) : runF Try.prog X I 0 fuel 86 Try.f86 [.d (.int .i64 p0), .d (.int .i64 p1)] =
  some ([.one ((.int .i64 (minI p0 p1)), false)], []) := by kernel_rfl
end impl_functionOfTwo_4
theorem impl_functionOfTwo_4.ok_of (hX : ∀ E ∈ impl_functionOfTwo_4.X, CallSpec Try.prog E) (hfn : ∀ ds rb dom G, impl_functionOfTwo_4.E.fnOf ds = some (rb, dom, G) → ∀ qs, dom qs = true → impl_functionOfTwo_4.E.m ((qs.map fun q => .d q.d) ++ ds.map .d) = some ([.one (fnD rb (G qs), false)], [])) (h : ∀ (a : Int) (b : Int), (true) = true → ∃ fuel, runF Try.prog impl_functionOfTwo_4.X impl_functionOfTwo_4.I 0 fuel 86 Try.f86 [.d (.int .i64 a), .d (.int .i64 b)] = some ([.one ((.int .i64 (minI a b)), false)], [])) : CallSpec Try.prog impl_functionOfTwo_4.E :=
  callSpec_of (d := 0) hX (by kernel_rfl) impl_functionOfTwo_4.I_ok (by kernel_rfl) (by kernel_rfl) (by kernel_rfl) hfn (fun xs hp => by
    dsimp only [impl_functionOfTwo_4.E] at hp ⊢
    split at hp
    · exact h _ _ hp
    · cases hp)
theorem impl_functionOfTwo_4.ok : CallSpec Try.prog impl_functionOfTwo_4.E := impl_functionOfTwo_4.ok_of (by simp [impl_functionOfTwo_4.X]) (fun ds rb dom G h qs hq => by
  dsimp only [impl_functionOfTwo_4.E] at h
  split at h
  case h_2 => cases h
  cases h
  match qs, hq with
  | [.i a, .i b], _ => rfl) fun a b _ => ⟨0, by rw [impl_functionOfTwo_4.e]⟩

namespace impl_functionOfTwo_5
noncomputable def E : Entry := ⟨87, true, false, fun | [.d (.int .i64 a), .d (.int .i64 b)] => true | _ => false, fun | [.d (.int .i64 a), .d (.int .i64 b)] => ([.one ((.int .i64 (maxI a b)), false)], []) | _ => ([], []), fun _ => [], false, fun | [] => some (false, q2, (q2v (operF 5))) | _ => none⟩
end impl_functionOfTwo_5
namespace impl_functionOfTwo_5
noncomputable def X : List Entry := []
noncomputable def I : List Inl := [⟨87, Try.f87, ⟨[], [], [], [], [], []⟩⟩]
theorem I_ok : ∀ i ∈ I, Try.prog.funcs[i.f]? = some i.fn ∧ (i.fn.name == "runtime.NumGoroutine") = false := by
  intro i hi
  simp only [I, List.mem_cons, List.not_mem_nil, or_false] at hi
  subst hi
  exact ⟨by kernel_rfl, by kernel_rfl⟩
theorem e (fuel : Nat) (p0 : Int) (p1 : Int) : runF Try.prog X I 0 fuel 87 Try.f87 [.d (.int .i64 p0), .d (.int .i64 p1)] =
  some ([.one ((.int .i64 (maxI p0 p1)), false)], []) := by kernel_rfl
end impl_functionOfTwo_5
theorem impl_functionOfTwo_5.ok_of (hX : ∀ E ∈ impl_functionOfTwo_5.X, CallSpec Try.prog E) (hfn : ∀ ds rb dom G, impl_functionOfTwo_5.E.fnOf ds = some (rb, dom, G) → ∀ qs, dom qs = true → impl_functionOfTwo_5.E.m ((qs.map fun q => .d q.d) ++ ds.map .d) = some ([.one (fnD rb (G qs), false)], [])) (h : ∀ (a : Int) (b : Int), (true) = true → ∃ fuel, runF Try.prog impl_functionOfTwo_5.X impl_functionOfTwo_5.I 0 fuel 87 Try.f87 [.d (.int .i64 a), .d (.int .i64 b)] = some ([.one ((.int .i64 (maxI a b)), false)], [])) : CallSpec Try.prog impl_functionOfTwo_5.E :=
  callSpec_of (d := 0) hX (by kernel_rfl) impl_functionOfTwo_5.I_ok (by kernel_rfl) (by kernel_rfl) (by kernel_rfl) hfn (fun xs hp => by
    dsimp only [impl_functionOfTwo_5.E] at hp ⊢
    split at hp
    · exact h _ _ hp
    · cases hp)
theorem impl_functionOfTwo_5.ok : CallSpec Try.prog impl_functionOfTwo_5.E := impl_functionOfTwo_5.ok_of (by simp [impl_functionOfTwo_5.X]) (fun ds rb dom G h qs hq => by
  dsimp only [impl_functionOfTwo_5.E] at h
  split at h
  case h_2 => cases h
  cases h
  match qs, hq with
  | [.i a, .i b], _ => rfl) fun a b _ => ⟨0, by rw [impl_functionOfTwo_5.e]⟩

namespace impl_truth
noncomputable def E : Entry := ⟨73, true, false, fun | [.d (.bool b)] => true | _ => false, fun | [.d (.bool b)] => ([.one ((.int .i64 (tInt b)), false)], []) | _ => ([], []), fun _ => [], false, fun _ => none⟩
end impl_truth
namespace impl_truth
noncomputable def X : List Entry := []
noncomputable def I : List Inl := [⟨73, Try.f73, ⟨[], [], [], [], [], []⟩⟩]
theorem I_ok : ∀ i ∈ I, Try.prog.funcs[i.f]? = some i.fn ∧ (i.fn.name == "runtime.NumGoroutine") = false := by
  intro i hi
  simp only [I, List.mem_cons, List.not_mem_nil, or_false] at hi
  subst hi
  exact ⟨by kernel_rfl, by kernel_rfl⟩
theorem e (fuel : Nat) (p0 : Bool) : runF Try.prog X I 0 fuel 73 Try.f73 [.d (.bool p0)] =
  (bif p0 then
  some ([.one ((.int .i64 1), false)], [])
  else
  some ([.one ((.int .i64 0), false)], [])) := by kernel_rfl
end impl_truth
theorem impl_truth.ok_of (hX : ∀ E ∈ impl_truth.X, CallSpec Try.prog E) (h : ∀ (b : Bool), (true) = true → ∃ fuel, runF Try.prog impl_truth.X impl_truth.I 0 fuel 73 Try.f73 [.d (.bool b)] = some ([.one ((.int .i64 (tInt b)), false)], [])) : CallSpec Try.prog impl_truth.E :=
  callSpec_of (d := 0) hX (by kernel_rfl) impl_truth.I_ok (by kernel_rfl) (by kernel_rfl) (by kernel_rfl) (fun _ _ _ _ h => by dsimp only [impl_truth.E] at h; cases h) (fun xs hp => by
    dsimp only [impl_truth.E] at hp ⊢
    split at hp
    · exact h _ hp
    · cases hp)
theorem impl_truth.ok : CallSpec Try.prog impl_truth.E := impl_truth.ok_of (by simp [impl_truth.X]) fun b _ => ⟨0, by rw [impl_truth.e]; cases b <;> rfl⟩

namespace impl_functionOfTwo_6
noncomputable def E : Entry := ⟨88, true, false, fun | [.d (.int .i64 a), .d (.int .i64 b)] => true | _ => false, fun | [.d (.int .i64 a), .d (.int .i64 b)] => ([.one ((.int .i64 (tInt (a == b))), false)], []) | _ => ([], []), fun _ => [], false, fun | [] => some (false, q2, (q2v (operF 6))) | _ => none⟩
end impl_functionOfTwo_6
namespace impl_functionOfTwo_6
noncomputable def X : List Entry := [impl_truth.E]
noncomputable def I : List Inl := [⟨88, Try.f88, ⟨[], [], [], [], [], []⟩⟩]
theorem I_ok : ∀ i ∈ I, Try.prog.funcs[i.f]? = some i.fn ∧ (i.fn.name == "runtime.NumGoroutine") = false := by
  intro i hi
  simp only [I, List.mem_cons, List.not_mem_nil, or_false] at hi
  subst hi
  exact ⟨by kernel_rfl, by kernel_rfl⟩
theorem e (fuel : Nat) (p0 : Int) (p1 : Int) : runF Try.prog X I 0 fuel 88 Try.f88 [.d (.int .i64 p0), .d (.int .i64 p1)] =
  some ([.one ((.int .i64 (tInt (((p0 : Int) == p1)))), false)], []) := by kernel_rfl
end impl_functionOfTwo_6
theorem impl_functionOfTwo_6.ok_of (hX : ∀ E ∈ impl_functionOfTwo_6.X, CallSpec Try.prog E) (hfn : ∀ ds rb dom G, impl_functionOfTwo_6.E.fnOf ds = some (rb, dom, G) → ∀ qs, dom qs = true → impl_functionOfTwo_6.E.m ((qs.map fun q => .d q.d) ++ ds.map .d) = some ([.one (fnD rb (G qs), false)], [])) (h : ∀ (a : Int) (b : Int), (true) = true → ∃ fuel, runF Try.prog impl_functionOfTwo_6.X impl_functionOfTwo_6.I 0 fuel 88 Try.f88 [.d (.int .i64 a), .d (.int .i64 b)] = some ([.one ((.int .i64 (tInt (a == b))), false)], [])) : CallSpec Try.prog impl_functionOfTwo_6.E :=
  callSpec_of (d := 0) hX (by kernel_rfl) impl_functionOfTwo_6.I_ok (by kernel_rfl) (by kernel_rfl) (by kernel_rfl) hfn (fun xs hp => by
    dsimp only [impl_functionOfTwo_6.E] at hp ⊢
    split at hp
    · exact h _ _ hp
    · cases hp)
theorem impl_functionOfTwo_6.ok : CallSpec Try.prog impl_functionOfTwo_6.E := impl_functionOfTwo_6.ok_of (by simp [impl_functionOfTwo_6.X, impl_truth.ok]) (fun ds rb dom G h qs hq => by
  dsimp only [impl_functionOfTwo_6.E] at h
  split at h
  case h_2 => cases h
  cases h
  match qs, hq with
  | [.i a, .i b], _ => rfl) fun a b _ => ⟨0, by rw [impl_functionOfTwo_6.e]⟩

namespace impl_functionOfTwo_7
noncomputable def E : Entry := ⟨89, true, false, fun | [.d (.int .i64 a), .d (.int .i64 b)] => true | _ => false, fun | [.d (.int .i64 a), .d (.int .i64 b)] => ([.one ((.int .i64 (tInt (decide (a < b)))), false)], []) | _ => ([], []), fun _ => [], false, fun | [] => some (false, q2, (q2v (operF 7))) | _ => none⟩
end impl_functionOfTwo_7
namespace impl_functionOfTwo_7
noncomputable def X : List Entry := [impl_truth.E]
noncomputable def I : List Inl := [⟨89, Try.f89, ⟨[], [], [], [], [], []⟩⟩]
theorem I_ok : ∀ i ∈ I, Try.prog.funcs[i.f]? = some i.fn ∧ (i.fn.name == "runtime.NumGoroutine") = false := by
  intro i hi
  simp only [I, List.mem_cons, List.not_mem_nil, or_false] at hi
  subst hi
  exact ⟨by kernel_rfl, by kernel_rfl⟩
theorem e (fuel : Nat) (p0 : Int) (p1 : Int) : runF Try.prog X I 0 fuel 89 Try.f89 [.d (.int .i64 p0), .d (.int .i64 p1)] =
  some ([.one ((.int .i64 (tInt ((decide ((p0 : Int) < p1))))), false)], []) := by kernel_rfl
end impl_functionOfTwo_7
theorem impl_functionOfTwo_7.ok_of (hX : ∀ E ∈ impl_functionOfTwo_7.X, CallSpec Try.prog E) (hfn : ∀ ds rb dom G, impl_functionOfTwo_7.E.fnOf ds = some (rb, dom, G) → ∀ qs, dom qs = true → impl_functionOfTwo_7.E.m ((qs.map fun q => .d q.d) ++ ds.map .d) = some ([.one (fnD rb (G qs), false)], [])) (h : ∀ (a : Int) (b : Int), (true) = true → ∃ fuel, runF Try.prog impl_functionOfTwo_7.X impl_functionOfTwo_7.I 0 fuel 89 Try.f89 [.d (.int .i64 a), .d (.int .i64 b)] = some ([.one ((.int .i64 (tInt (decide (a < b)))), false)], [])) : CallSpec Try.prog impl_functionOfTwo_7.E :=
  callSpec_of (d := 0) hX (by kernel_rfl) impl_functionOfTwo_7.I_ok (by kernel_rfl) (by kernel_rfl) (by kernel_rfl) hfn (fun xs hp => by
    dsimp only [impl_functionOfTwo_7.E] at hp ⊢
    split at hp
    · exact h _ _ hp
    · cases hp)
theorem impl_functionOfTwo_7.ok : CallSpec Try.prog impl_functionOfTwo_7.E := impl_functionOfTwo_7.ok_of (by simp [impl_functionOfTwo_7.X, impl_truth.ok]) (fun ds rb dom G h qs hq => by
  dsimp only [impl_functionOfTwo_7.E] at h
  split at h
  case h_2 => cases h
  cases h
  match qs, hq with
  | [.i a, .i b], _ => rfl) fun a b _ => ⟨0, by rw [impl_functionOfTwo_7.e]⟩

namespace impl_restOf
noncomputable def E : Entry := ⟨90, true, false, fun | [.d (.int .i64 d), .d (.int .i64 n)] => true | _ => false, fun | [.d (.int .i64 d), .d (.int .i64 n)] => ([.one ((.int .i64 (restV d n)), false)], []) | _ => ([], []), fun _ => [], false, fun | [] => some (false, q2, (q2v (operF 8))) | _ => none⟩
end impl_restOf
namespace impl_restOf
noncomputable def X : List Entry := []
noncomputable def I : List Inl := [⟨90, Try.f90, ⟨[], [], [], [], [], []⟩⟩]
theorem I_ok : ∀ i ∈ I, Try.prog.funcs[i.f]? = some i.fn ∧ (i.fn.name == "runtime.NumGoroutine") = false := by
  intro i hi
  simp only [I, List.mem_cons, List.not_mem_nil, or_false] at hi
  subst hi
  exact ⟨by kernel_rfl, by kernel_rfl⟩
theorem e (fuel : Nat) (p0 : Int) (p1 : Int) : runF Try.prog X I 0 fuel 90 Try.f90 [.d (.int .i64 p0), .d (.int .i64 p1)] =
  (bif (decide ((p0 : Int) ≤ 0)) then
  some ([.one ((.int .i64 p1), false)], [])
  else
  (bif decide ((p0 : Int) = 0) then
  none
  else
  (bif decide ((p0 : Int) = 0) then
  none
  else
  some ([.one ((.int .i64 (Int.tmod (IntKind.wrap .i64 ((Int.tmod p1 p0) + p0)) p0)), false)], [])))) := by kernel_rfl
end impl_restOf
theorem impl_restOf.ok_of (hX : ∀ E ∈ impl_restOf.X, CallSpec Try.prog E) (hfn : ∀ ds rb dom G, impl_restOf.E.fnOf ds = some (rb, dom, G) → ∀ qs, dom qs = true → impl_restOf.E.m ((qs.map fun q => .d q.d) ++ ds.map .d) = some ([.one (fnD rb (G qs), false)], [])) (h : ∀ (d : Int) (n : Int), (true) = true → ∃ fuel, runF Try.prog impl_restOf.X impl_restOf.I 0 fuel 90 Try.f90 [.d (.int .i64 d), .d (.int .i64 n)] = some ([.one ((.int .i64 (restV d n)), false)], [])) : CallSpec Try.prog impl_restOf.E :=
  callSpec_of (d := 0) hX (by kernel_rfl) impl_restOf.I_ok (by kernel_rfl) (by kernel_rfl) (by kernel_rfl) hfn (fun xs hp => by
    dsimp only [impl_restOf.E] at hp ⊢
    split at hp
    · exact h _ _ hp
    · cases hp)
theorem impl_restOf.ok : CallSpec Try.prog impl_restOf.E := impl_restOf.ok_of (by simp [impl_restOf.X]) (fun ds rb dom G h qs hq => by
  dsimp only [impl_restOf.E] at h
  split at h
  case h_2 => cases h
  cases h
  match qs, hq with
  | [.i a, .i b], _ => rfl) fun d n _ => ⟨0, by
  rw [impl_restOf.e]
  unfold restV
  by_cases h : d ≤ 0
  · rw [decide_eq_true h]; rfl
  · rw [decide_eq_false h, decide_eq_false (p := d = 0) (by omega)]; rfl⟩

namespace impl_functionOfTwo
noncomputable def E : Entry := ⟨48, true, false, fun | [.d (.int .i64 op)] => true | _ => false, fun | [.d (.int .i64 op)] => ([.one (.nilf, false)], []) | _ => ([], []), fun | [.d (.int .i64 op)] => [(decide (op = 1), ([.one ((.clo 82 []), false)], [])), (decide (op = 2), ([.one ((.clo 84 []), false)], [])), (decide (op = 3), ([.one ((.clo 85 []), false)], [])), (decide (op = 4), ([.one ((.clo 86 []), false)], [])), (decide (op = 5), ([.one ((.clo 87 []), false)], [])), (decide (op = 6), ([.one ((.clo 88 []), false)], [])), (decide (op = 7), ([.one ((.clo 89 []), false)], [])), (decide (op = 8), ([.one ((.clo 90 []), false)], []))] | _ => [], false, fun _ => none⟩
end impl_functionOfTwo
namespace impl_functionOfTwo
noncomputable def X : List Entry := []
noncomputable def I : List Inl := [⟨48, Try.f48, ⟨[], [], [], [], [], []⟩⟩]
theorem I_ok : ∀ i ∈ I, Try.prog.funcs[i.f]? = some i.fn ∧ (i.fn.name == "runtime.NumGoroutine") = false := by
  intro i hi
  simp only [I, List.mem_cons, List.not_mem_nil, or_false] at hi
  subst hi
  exact ⟨by kernel_rfl, by kernel_rfl⟩
theorem e (fuel : Nat) (p0 : Int) : runF Try.prog X I 0 fuel 48 Try.f48 [.d (.int .i64 p0)] =
  (bif (decide ((p0 : Int) < 0)) then
  some ([.one (.nilf, false)], [])
  else
  (bif (decide ((p0 : Int) ≥ 9)) then
  some ([.one (.nilf, false)], [])
  else
  (bif decide (p0 = ((0 : Nat) : Int)) then
  some ([.one (.nilf, false)], [])
  else
  (bif decide (p0 = ((1 : Nat) : Int)) then
  some ([.one ((.clo 82 []), false)], [])
  else
  (bif decide (p0 = ((2 : Nat) : Int)) then
  some ([.one ((.clo 84 []), false)], [])
  else
  (bif decide (p0 = ((3 : Nat) : Int)) then
  some ([.one ((.clo 85 []), false)], [])
  else
  (bif decide (p0 = ((4 : Nat) : Int)) then
  some ([.one ((.clo 86 []), false)], [])
  else
  (bif decide (p0 = ((5 : Nat) : Int)) then
  some ([.one ((.clo 87 []), false)], [])
  else
  (bif decide (p0 = ((6 : Nat) : Int)) then
  some ([.one ((.clo 88 []), false)], [])
  else
  (bif decide (p0 = ((7 : Nat) : Int)) then
  some ([.one ((.clo 89 []), false)], [])
  else
  (bif decide (p0 = ((8 : Nat) : Int)) then
  some ([.one ((.clo 90 []), false)], [])
  else
  none))))))))))) := by kernel_rfl
end impl_functionOfTwo
theorem impl_functionOfTwo.ok_of (hX : ∀ E ∈ impl_functionOfTwo.X, CallSpec Try.prog E) (h : ∀ (op : Int), (true) = true → ∃ fuel, runF Try.prog impl_functionOfTwo.X impl_functionOfTwo.I 0 fuel 48 Try.f48 [.d (.int .i64 op)] = some (bif decide (op = 1) then ([.one ((.clo 82 []), false)], []) else (bif decide (op = 2) then ([.one ((.clo 84 []), false)], []) else (bif decide (op = 3) then ([.one ((.clo 85 []), false)], []) else (bif decide (op = 4) then ([.one ((.clo 86 []), false)], []) else (bif decide (op = 5) then ([.one ((.clo 87 []), false)], []) else (bif decide (op = 6) then ([.one ((.clo 88 []), false)], []) else (bif decide (op = 7) then ([.one ((.clo 89 []), false)], []) else (bif decide (op = 8) then ([.one ((.clo 90 []), false)], []) else ([.one (.nilf, false)], [])))))))))) : CallSpec Try.prog impl_functionOfTwo.E :=
  callSpec_of (d := 0) hX (by kernel_rfl) impl_functionOfTwo.I_ok (by kernel_rfl) (by kernel_rfl) (by kernel_rfl) (fun _ _ _ _ h => by dsimp only [impl_functionOfTwo.E] at h; cases h) (fun xs hp => by
    dsimp only [impl_functionOfTwo.E] at hp ⊢
    split at hp
    · exact h _ hp
    · cases hp)
theorem impl_functionOfTwo.ok : CallSpec Try.prog impl_functionOfTwo.E := impl_functionOfTwo.ok_of (by simp [impl_functionOfTwo.X]) fun op _ => ⟨0, by
  rw [impl_functionOfTwo.e]
  cases ho : opOk op with
  | true => rcases opOk_cases ho with rfl | rfl | rfl | rfl | rfl | rfl | rfl | rfl <;> rfl
  | false =>
    have h := opOk_no ho
    rw [decide_eq_false (p := op = 1) (by omega), decide_eq_false (p := op = 2) (by omega), decide_eq_false (p := op = 3) (by omega), decide_eq_false (p := op = 4) (by omega),
      decide_eq_false (p := op = 5) (by omega), decide_eq_false (p := op = 6) (by omega), decide_eq_false (p := op = 7) (by omega), decide_eq_false (p := op = 8) (by omega)]
    by_cases h1 : op < 0
    · rw [decide_eq_true h1]; rfl
    · by_cases h2 : op ≥ 9
      · rw [decide_eq_false h1, decide_eq_true h2]; rfl
      · have : op = 0 := by omega
        subst this
        rfl⟩

namespace impl_functionOfTwo_f
noncomputable def E : Entry := ⟨48, true, false, fun | [.d (.int .i64 op)] => true | _ => false, fun | [.d (.int .i64 op)] => ([.one (.nilf, false)], []) | _ => ([], []), fun | [.d (.int .i64 op)] => [(opOk op, ([.one ((.fn false q2 ((q2v (operF op)))), false)], []))] | _ => [], false, fun _ => none⟩
end impl_functionOfTwo_f
theorem impl_functionOfTwo_f.ok : CallSpec Try.prog impl_functionOfTwo_f.E := CallSpec.le impl_functionOfTwo.ok rfl (fun _ _ _ _ h => by dsimp only [impl_functionOfTwo_f.E] at h; cases h) fun xs h => by
  dsimp only [impl_functionOfTwo_f.E] at h
  split at h
  case h_2 => simp at h
  rename_i op
  refine ⟨rfl, ?_⟩
  simp only [Entry.r, impl_functionOfTwo_f.E, impl_functionOfTwo.E, pickR]
  cases ho : opOk op with
  | true =>
    rcases opOk_cases ho with rfl | rfl | rfl | rfl | rfl | rfl | rfl | rfl
    · exact ⟨.one (.inr (.inr (.inr ⟨impl_functionOfTwo_1.E, [], false, q2, q2v (operF 1), impl_functionOfTwo_1.ok, rfl, rfl, rfl⟩))) .nil, rfl⟩
    · exact ⟨.one (.inr (.inr (.inr ⟨impl_functionOfTwo_2.E, [], false, q2, q2v (operF 2), impl_functionOfTwo_2.ok, rfl, rfl, rfl⟩))) .nil, rfl⟩
    · exact ⟨.one (.inr (.inr (.inr ⟨impl_functionOfTwo_3.E, [], false, q2, q2v (operF 3), impl_functionOfTwo_3.ok, rfl, rfl, rfl⟩))) .nil, rfl⟩
    · exact ⟨.one (.inr (.inr (.inr ⟨impl_functionOfTwo_4.E, [], false, q2, q2v (operF 4), impl_functionOfTwo_4.ok, rfl, rfl, rfl⟩))) .nil, rfl⟩
    · exact ⟨.one (.inr (.inr (.inr ⟨impl_functionOfTwo_5.E, [], false, q2, q2v (operF 5), impl_functionOfTwo_5.ok, rfl, rfl, rfl⟩))) .nil, rfl⟩
    · exact ⟨.one (.inr (.inr (.inr ⟨impl_functionOfTwo_6.E, [], false, q2, q2v (operF 6), impl_functionOfTwo_6.ok, rfl, rfl, rfl⟩))) .nil, rfl⟩
    · exact ⟨.one (.inr (.inr (.inr ⟨impl_functionOfTwo_7.E, [], false, q2, q2v (operF 7), impl_functionOfTwo_7.ok, rfl, rfl, rfl⟩))) .nil, rfl⟩
    · exact ⟨.one (.inr (.inr (.inr ⟨impl_restOf.E, [], false, q2, q2v (operF 8), impl_restOf.ok, rfl, rfl, rfl⟩))) .nil, rfl⟩
  | false =>
    have h := opOk_no ho
    rw [decide_eq_false (p := op = 1) (by omega), decide_eq_false (p := op = 2) (by omega), decide_eq_false (p := op = 3) (by omega), decide_eq_false (p := op = 4) (by omega),
      decide_eq_false (p := op = 5) (by omega), decide_eq_false (p := op = 6) (by omega), decide_eq_false (p := op = 7) (by omega), decide_eq_false (p := op = 8) (by omega)]
    exact ⟨.same .nil, rfl⟩

namespace impl_layoutOf
noncomputable def E : Entry := ⟨63, false, false, fun | [.d (.ints .i64 sh)] => decide (sh.length < 9223372036854775808) | _ => false, fun | [.d (.ints .i64 sh)] => ([.agg [((.ints .i64 nilI), true), ((.int .i64 0), false), ((.int .i64 0), false), ((.int .i64 0), false), ((.int .i64 0), false)], .one ((.bool false), false)], []) | _ => ([], []), fun | [.d (.ints .i64 sh)] => [(validS sh, ([.agg [((.ints .i64 sh), false), ((.int .i64 (strd sh 0)), false), ((.int .i64 (strd sh 1)), false), ((.int .i64 (strd sh 2)), false), ((.int .i64 (volW sh)), false)], .one ((.bool true), false)], []))] | _ => [], true, fun _ => none⟩
end impl_layoutOf
namespace impl_layoutOf
noncomputable def X : List Entry := []
noncomputable def I : List Inl := [⟨63, Try.f63, ⟨[], [(1000005, [1, 3, 6, 7, 8, 9, 10, 11, 12, 13, 14, 15, 16, 17, 18, 19, 20, 21, 22, 23, 24, 25, 26, 27, 28, 29, 30, 31, 32, 33, 34, 35, 36, 37, 38, 39, 40, 41, 42, 43, 44, 45, 46, 47, 48, 49])], [], [(10, [0, 2, 3, 1, 4, 5, 6, 7, 8])], [], []⟩⟩]
theorem I_ok : ∀ i ∈ I, Try.prog.funcs[i.f]? = some i.fn ∧ (i.fn.name == "runtime.NumGoroutine") = false := by
  intro i hi
  simp only [I, List.mem_cons, List.not_mem_nil, or_false] at hi
  subst hi
  exact ⟨by kernel_rfl, by kernel_rfl⟩
noncomputable abbrev L0 (fuel n : Nat) (s : St) (k : Kont) := lAt Try.prog X I fuel true 0 false 63 (bodyOf Try.f63) [1, 1, 1, 0, 1, 0] n s k
noncomputable abbrev k0  (fuel : Nat) : Kont := (kAt Try.prog X I fuel true 0 false 63 (bodyOf Try.f63) [1, 1, 1, 0, 1, 0] [] (endK Try.prog Try.f63))
noncomputable def t0 (p0 : List Int) (x0q1 : Int) (x0q7 : Int) (x0q8 : Int) (x0q9 : Int) (x0q10 : Int) : St := ⟨[(.imm (.ints .i64 p0)), .dead, (.ptr 1000000000 0 0), .dead, (.ptr 1000000001 0 0), (.imm (.int .i64 x0q1)), .dead, .dead, .dead, .dead, .dead, .dead, .dead, .dead, .dead, .dead, .dead, .dead, .dead, .dead, .dead, .dead, .dead, .dead, .dead, .dead, .dead, .dead, .dead, .dead, .dead, .dead, .dead, .dead, .dead, .dead, .dead, .dead, .dead, .dead, .dead, .dead, .dead, .dead, .dead, .dead, .dead, .dead, .dead, .dead], hOf [(1000000000, (.box [(.imm .nils), (.imm (.int .i64 0)), (.imm (.int .i64 0)), (.imm (.int .i64 0)), (.imm (.int .i64 0))])), (1000000001, (.box [(.imm (.ints .i64 p0)), (.imm (.int .i64 x0q7)), (.imm (.int .i64 x0q8)), (.imm (.int .i64 x0q9)), (.imm (.int .i64 x0q10))]))], [], []⟩
theorem e (fuel : Nat) (p0 : List Int) : runF Try.prog X I 0 fuel 63 Try.f63 [.d (.ints .i64 p0)] =
  (bif (decide ((((p0.length : Nat) : Int) : Int) > 3)) then
  some ([.agg [((.ints .i64 []), true), ((.int .i64 0), false), ((.int .i64 0), false), ((.int .i64 0), false), ((.int .i64 0), false)], .one ((.bool false), false)], [])
  else
  L0 fuel fuel (t0 p0 ((IntKind.wrap .i64 (((p0.length : Nat) : Int) - 1))) 0 0 0 1) (k0  fuel)) := by kernel_rfl
theorem s0 (fuel n0 : Nat) (p0 : List Int) (x0q1 : Int) (x0q7 : Int) (x0q8 : Int) (x0q9 : Int) (x0q10 : Int) : L0 fuel (n0 + 1) (t0 p0 x0q1 x0q7 x0q8 x0q9 x0q10) (k0  fuel) =
  (bif (decide ((x0q1 : Int) ≥ 0)) then
  (idx x0q1 p0.length).bind fun j21 =>
  (p0[j21]?).bind fun v22 =>
  (bif (decide ((v22 : Int) < 0)) then
  some ([.agg [((.ints .i64 []), true), ((.int .i64 0), false), ((.int .i64 0), false), ((.int .i64 0), false), ((.int .i64 0), false)], .one ((.bool false), false)], [])
  else
  (idx x0q1 p0.length).bind fun j23 =>
  (p0[j23]?).bind fun v24 =>
  (bif (decide ((v24 : Int) > 60)) then
  some ([.agg [((.ints .i64 []), true), ((.int .i64 0), false), ((.int .i64 0), false), ((.int .i64 0), false), ((.int .i64 0), false)], .one ((.bool false), false)], [])
  else
  (bif decide (x0q1 = ((0 : Nat) : Int)) then
  (idx x0q1 p0.length).bind fun j29 =>
  (p0[j29]?).bind fun v30 =>
  L0 fuel n0 (t0 p0 ((IntKind.wrap .i64 (x0q1 - 1))) x0q10 x0q8 x0q9 ((IntKind.wrap .i64 (x0q10 * v30)))) (k0  fuel)
  else
  (bif decide (x0q1 = ((1 : Nat) : Int)) then
  (idx x0q1 p0.length).bind fun j27 =>
  (p0[j27]?).bind fun v28 =>
  L0 fuel n0 (t0 p0 ((IntKind.wrap .i64 (x0q1 - 1))) x0q7 x0q10 x0q9 ((IntKind.wrap .i64 (x0q10 * v28)))) (k0  fuel)
  else
  (bif decide (x0q1 = ((2 : Nat) : Int)) then
  (idx x0q1 p0.length).bind fun j25 =>
  (p0[j25]?).bind fun v26 =>
  L0 fuel n0 (t0 p0 ((IntKind.wrap .i64 (x0q1 - 1))) x0q7 x0q8 x0q10 ((IntKind.wrap .i64 (x0q10 * v26)))) (k0  fuel)
  else
  none)))))
  else
  (bif (decide ((x0q10 : Int) > 60)) then
  some ([.agg [((.ints .i64 []), true), ((.int .i64 0), false), ((.int .i64 0), false), ((.int .i64 0), false), ((.int .i64 0), false)], .one ((.bool false), false)], [])
  else
  some ([.agg [((.ints .i64 p0), false), ((.int .i64 x0q7), false), ((.int .i64 x0q8), false), ((.int .i64 x0q9), false), ((.int .i64 x0q10), false)], .one ((.bool true), false)], []))) := by kernel_rfl
end impl_layoutOf
theorem impl_layoutOf.ok_of (hX : ∀ E ∈ impl_layoutOf.X, CallSpec Try.prog E) (h : ∀ (sh : List Int), (decide (sh.length < 9223372036854775808)) = true → ∃ fuel, runF Try.prog impl_layoutOf.X impl_layoutOf.I 0 fuel 63 Try.f63 [.d (.ints .i64 sh)] = some (bif validS sh then ([.agg [((.ints .i64 sh), false), ((.int .i64 (strd sh 0)), false), ((.int .i64 (strd sh 1)), false), ((.int .i64 (strd sh 2)), false), ((.int .i64 (volW sh)), false)], .one ((.bool true), false)], []) else ([.agg [((.ints .i64 nilI), true), ((.int .i64 0), false), ((.int .i64 0), false), ((.int .i64 0), false), ((.int .i64 0), false)], .one ((.bool false), false)], []))) : CallSpec Try.prog impl_layoutOf.E :=
  callSpec_of (d := 0) hX (by kernel_rfl) impl_layoutOf.I_ok (by kernel_rfl) (by kernel_rfl) (by kernel_rfl) (fun _ _ _ _ h => by dsimp only [impl_layoutOf.E] at h; cases h) (fun xs hp => by
    dsimp only [impl_layoutOf.E] at hp ⊢
    split at hp
    · exact h _ hp
    · cases hp)
theorem impl_layoutOf.bad (fuel n : Nat) (sh : List Int) (k : Nat) (v : Int) (s0 s1 s2 z : Int) (hk : k < sh.length) (hv : sh[k]? = some v) (h : ¬ (0 ≤ v ∧ v ≤ 60)) :
    impl_layoutOf.L0 fuel (n + 1) (impl_layoutOf.t0 sh (k : Int) s0 s1 s2 z) (impl_layoutOf.k0 fuel) = some ([.agg [(.ints .i64 [], true), (.int .i64 0, false), (.int .i64 0, false), (.int .i64 0, false), (.int .i64 0, false)], .one (.bool false, false)], []) := by
  rw [impl_layoutOf.s0, decide_eq_true (by omega), idx_nat hk]
  simp only [cond_true, Option.bind_some, hv]
  by_cases h0 : v < 0
  · rw [decide_eq_true h0]; rfl
  · rw [decide_eq_false h0, decide_eq_true (by omega)]; rfl
theorem impl_layoutOf.good (fuel n : Nat) (sh : List Int) (k : Nat) (v : Int) (s0 s1 s2 z : Int) (hk : k < sh.length) (hv : sh[k]? = some v) (h : 0 ≤ v ∧ v ≤ 60) (hk3 : k < 3) :
    impl_layoutOf.L0 fuel (n + 1) (impl_layoutOf.t0 sh (k : Int) s0 s1 s2 z) (impl_layoutOf.k0 fuel) =
      impl_layoutOf.L0 fuel n (impl_layoutOf.t0 sh ((k : Int) - 1) (bif k == 0 then z else s0) (bif k == 1 then z else s1) (bif k == 2 then z else s2) (IntKind.wrap .i64 (z * v))) (impl_layoutOf.k0 fuel) := by
  rw [impl_layoutOf.s0, decide_eq_true (by omega), idx_nat hk]
  simp only [cond_true, Option.bind_some, hv]
  rw [decide_eq_false (p := v < 0) (by omega), decide_eq_false (p := v > 60) (by omega), wS (x := (k : Int) - 1) (by omega) (by omega)]
  simp only [cond_false]
  match k, hk3 with
  | 0, _ => rfl
  | 1, _ => rfl
  | 2, _ => rfl
theorem impl_layoutOf.last (fuel n : Nat) (sh : List Int) (i : Int) (s0 s1 s2 z : Int) (hi : i < 0) :
    impl_layoutOf.L0 fuel (n + 1) (impl_layoutOf.t0 sh i s0 s1 s2 z) (impl_layoutOf.k0 fuel) = 
      bif decide (z ≤ 60) then some ([.agg [(.ints .i64 sh, false), (.int .i64 s0, false), (.int .i64 s1, false), (.int .i64 s2, false), (.int .i64 z, false)], .one (.bool true, false)], [])
      else some ([.agg [(.ints .i64 [], true), (.int .i64 0, false), (.int .i64 0, false), (.int .i64 0, false), (.int .i64 0, false)], .one (.bool false, false)], []) := by
  rw [impl_layoutOf.s0, decide_eq_false (by omega)]
  simp only [cond_false]
  by_cases hz : z ≤ 60
  · rw [decide_eq_true hz, decide_eq_false (by omega)]; rfl
  · rw [decide_eq_false hz, decide_eq_true (by omega)]; rfl
theorem rng_dec {v : Int} (h : 0 ≤ v ∧ v ≤ 60) : (decide (0 ≤ v) && decide (v ≤ 60)) = true := by simp [h.1, h.2]
theorem rng_bad {v : Int} (h : ¬ (0 ≤ v ∧ v ≤ 60)) : (decide (0 ≤ v) && decide (v ≤ 60)) = false := by
  cases hb : (decide (0 ≤ v) && decide (v ≤ 60)) with
  | false => rfl
  | true => simp at hb; exact absurd hb h
theorem validS1 (a : Int) : validS [a] = ((decide (0 ≤ a) && decide (a ≤ 60)) && decide (IntKind.wrap .i64 (1 * a) ≤ 60)) := by
  simp only [validS, allB_cons, allB_nil, Bool.and_true, volW, volFrom]; rfl
theorem validS2 (a b : Int) : validS [a, b] = ((decide (0 ≤ a) && decide (a ≤ 60)) && (decide (0 ≤ b) && decide (b ≤ 60)) && decide (IntKind.wrap .i64 (IntKind.wrap .i64 (1 * a) * b) ≤ 60)) := by
  simp only [validS, allB_cons, allB_nil, Bool.and_true, volW, volFrom]; rfl
theorem validS3 (a b c : Int) : validS [a, b, c] = ((decide (0 ≤ a) && decide (a ≤ 60)) && ((decide (0 ≤ b) && decide (b ≤ 60)) && (decide (0 ≤ c) && decide (c ≤ 60))) && decide (IntKind.wrap .i64 (IntKind.wrap .i64 (IntKind.wrap .i64 (1 * a) * b) * c) ≤ 60)) := by
  simp only [validS, allB_cons, allB_nil, Bool.and_true, volW, volFrom]; rfl
theorem impl_layoutOf.ok : CallSpec Try.prog impl_layoutOf.E := impl_layoutOf.ok_of (by simp [impl_layoutOf.X]) fun sh h => by
  refine ⟨5, ?_⟩
  rw [impl_layoutOf.e]
  match sh with
  | [] => rw [show decide (((([] : List Int).length : Nat) : Int) > 3) = false from rfl, cond_false, impl_layoutOf.last _ _ _ _ _ _ _ _ (by decide)]; rfl
  | [a] =>
    rw [show decide (((([a] : List Int).length : Nat) : Int) > 3) = false from rfl, cond_false, show IntKind.wrap .i64 ((([a] : List Int).length : Nat) - 1) = ((0 : Nat) : Int) from rfl, validS1]
    by_cases h1 : 0 ≤ a ∧ a ≤ 60
    · rw [impl_layoutOf.good _ _ _ _ a _ _ _ _ (by simp) rfl h1 (by omega), impl_layoutOf.last _ _ _ _ _ _ _ _ (by decide), rng_dec h1, Int.one_mul, wS (x := a) (by omega) (by omega)]
      simp only [strd, volW, volFrom, Int.one_mul, wS (x := a) (by omega) (by omega)]
      cases decide (a ≤ 60) <;> rfl
    · rw [impl_layoutOf.bad _ _ _ _ a _ _ _ _ (by simp) rfl h1, rng_bad h1]; rfl
  | [a, b] =>
    rw [show decide (((([a, b] : List Int).length : Nat) : Int) > 3) = false from rfl, cond_false, show IntKind.wrap .i64 ((([a, b] : List Int).length : Nat) - 1) = ((1 : Nat) : Int) from rfl, validS2]
    by_cases h1 : 0 ≤ b ∧ b ≤ 60
    case neg => rw [impl_layoutOf.bad _ _ _ _ b _ _ _ _ (by simp) rfl h1, rng_bad h1, Bool.and_false]; rfl
    rw [impl_layoutOf.good _ _ _ _ b _ _ _ _ (by simp) rfl h1 (by omega), show (((1 : Nat) : Int) - 1) = ((0 : Nat) : Int) from rfl]
    by_cases h2 : 0 ≤ a ∧ a ≤ 60
    case neg => rw [impl_layoutOf.bad _ _ _ _ a _ _ _ _ (by simp) rfl h2, rng_bad h2]; rfl
    have hm := mul60 h2.1 h2.2 h1.1 h1.2
    rw [impl_layoutOf.good _ _ _ _ a _ _ _ _ (by simp) rfl h2 (by omega), impl_layoutOf.last _ _ _ _ _ _ _ _ (by decide), rng_dec h1, rng_dec h2, Int.one_mul, Int.one_mul, wS (x := a) (by omega) (by omega), wS (x := b) (by omega) (by omega), Int.mul_comm b a, wS (x := a * b) (by omega) (by omega)]
    simp only [strd, volW, volFrom, Int.one_mul, wS (x := a) (by omega) (by omega), wS (x := b) (by omega) (by omega), wS (x := a * b) (by omega) (by omega), List.drop_succ_cons, List.drop_zero]
    cases decide (a * b ≤ 60) <;> rfl
  | [a, b, c] =>
    rw [show decide (((([a, b, c] : List Int).length : Nat) : Int) > 3) = false from rfl, cond_false, show IntKind.wrap .i64 ((([a, b, c] : List Int).length : Nat) - 1) = ((2 : Nat) : Int) from rfl, validS3]
    by_cases h0 : 0 ≤ c ∧ c ≤ 60
    case neg => rw [impl_layoutOf.bad _ _ _ _ c _ _ _ _ (by simp) rfl h0, rng_bad h0, Bool.and_false, Bool.and_false]; rfl
    rw [impl_layoutOf.good _ _ _ _ c _ _ _ _ (by simp) rfl h0 (by omega), show (((2 : Nat) : Int) - 1) = ((1 : Nat) : Int) from rfl]
    by_cases h1 : 0 ≤ b ∧ b ≤ 60
    case neg => rw [impl_layoutOf.bad _ _ _ _ b _ _ _ _ (by simp) rfl h1, rng_bad h1, Bool.false_and, Bool.and_false]; rfl
    rw [impl_layoutOf.good _ _ _ _ b _ _ _ _ (by simp) rfl h1 (by omega), show (((1 : Nat) : Int) - 1) = ((0 : Nat) : Int) from rfl]
    by_cases h2 : 0 ≤ a ∧ a ≤ 60
    case neg => rw [impl_layoutOf.bad _ _ _ _ a _ _ _ _ (by simp) rfl h2, rng_bad h2]; rfl
    have hm := mul60 h2.1 h2.2 h1.1 h1.2
    have hm1 := mul60 h1.1 h1.2 h0.1 h0.2
    have hm3 := mul3600 hm.1 hm.2 h0.1 h0.2
    have hc : b * c * a = a * b * c := by rw [Int.mul_comm (b * c) a, Int.mul_assoc]
    rw [impl_layoutOf.good _ _ _ _ a _ _ _ _ (by simp) rfl h2 (by omega), impl_layoutOf.last _ _ _ _ _ _ _ _ (by decide), rng_dec h0, rng_dec h1, rng_dec h2, Int.one_mul, Int.one_mul, wS (x := a) (by omega) (by omega), wS (x := c) (by omega) (by omega), Int.mul_comm c b, wS (x := a * b) (by omega) (by omega), wS (x := b * c) (by omega) (by omega), hc, wS (x := a * b * c) (by omega) (by omega)]
    simp only [strd, volW, volFrom, Int.one_mul, wS (x := a) (by omega) (by omega), wS (x := b) (by omega) (by omega), wS (x := c) (by omega) (by omega), wS (x := a * b) (by omega) (by omega), wS (x := b * c) (by omega) (by omega), wS (x := a * b * c) (by omega) (by omega), List.drop_succ_cons, List.drop_zero]
    cases decide (a * b * c ≤ 60) <;> rfl
  | a :: b :: c :: d :: t =>
    have h1 : ((((a :: b :: c :: d :: t).length : Nat) : Int) > 3) := by simp; omega
    have h2 : ¬ ((((a :: b :: c :: d :: t).length : Nat) : Int) ≤ 3) := by omega
    have h3 : validS (a :: b :: c :: d :: t) = false := by unfold validS; rw [decide_eq_false h2]; rfl
    rw [decide_eq_true h1, h3]
    rfl

namespace impl_isNumber
noncomputable def E : Entry := ⟨93, true, false, fun | [.d (.int .i64 v)] => true | _ => false, fun | [.d (.int .i64 v)] => ([.one ((.bool (numB v)), false)], []) | _ => ([], []), fun _ => [], false, fun _ => none⟩
end impl_isNumber
namespace impl_isNumber
noncomputable def X : List Entry := []
noncomputable def I : List Inl := [⟨93, Try.f93, ⟨[], [], [], [], [], []⟩⟩]
theorem I_ok : ∀ i ∈ I, Try.prog.funcs[i.f]? = some i.fn ∧ (i.fn.name == "runtime.NumGoroutine") = false := by
  intro i hi
  simp only [I, List.mem_cons, List.not_mem_nil, or_false] at hi
  subst hi
  exact ⟨by kernel_rfl, by kernel_rfl⟩
theorem e (fuel : Nat) (p0 : Int) : runF Try.prog X I 0 fuel 93 Try.f93 [.d (.int .i64 p0)] =
  (bif (decide (((-1000000) : Int) ≤ p0)) then
  some ([.one ((.bool (decide ((p0 : Int) ≤ 1000000))), false)], [])
  else
  some ([.one ((.bool false), false)], [])) := by kernel_rfl
end impl_isNumber
theorem impl_isNumber.ok_of (hX : ∀ E ∈ impl_isNumber.X, CallSpec Try.prog E) (h : ∀ (v : Int), (true) = true → ∃ fuel, runF Try.prog impl_isNumber.X impl_isNumber.I 0 fuel 93 Try.f93 [.d (.int .i64 v)] = some ([.one ((.bool (numB v)), false)], [])) : CallSpec Try.prog impl_isNumber.E :=
  callSpec_of (d := 0) hX (by kernel_rfl) impl_isNumber.I_ok (by kernel_rfl) (by kernel_rfl) (by kernel_rfl) (fun _ _ _ _ h => by dsimp only [impl_isNumber.E] at h; cases h) (fun xs hp => by
    dsimp only [impl_isNumber.E] at hp ⊢
    split at hp
    · exact h _ hp
    · cases hp)
theorem impl_isNumber.ok : CallSpec Try.prog impl_isNumber.E := impl_isNumber.ok_of (by simp [impl_isNumber.X]) fun v _ => ⟨0, by
  rw [impl_isNumber.e]
  unfold numB
  cases decide (-1000000 ≤ v) <;> rfl⟩

namespace impl_ValidArray
noncomputable def E : Entry := ⟨55, true, false, fun | [.d (.agg [(.ints .i64 sh), (.ints .i64 da)])] => decide (sh.length < 9223372036854775808) && decide (da.length < 9223372036854775808) | _ => false, fun | [.d (.agg [(.ints .i64 sh), (.ints .i64 da)])] => ([.one ((.bool (validA sh da)), false)], []) | _ => ([], []), fun _ => [], false, fun _ => none⟩
end impl_ValidArray
namespace impl_ValidArray
noncomputable def X : List Entry := [impl_layoutOf.E, impl_isNumber.E]
noncomputable def I : List Inl := [⟨55, Try.f55, ⟨[10], [(1000005, [0, 1, 2, 3, 4, 5, 6, 7, 8, 9, 10, 11, 12, 13, 14, 15, 16, 17, 18, 19, 20, 21, 22, 23, 27, 28, 29, 30, 31, 32, 33])], [], [], [], []⟩⟩]
theorem I_ok : ∀ i ∈ I, Try.prog.funcs[i.f]? = some i.fn ∧ (i.fn.name == "runtime.NumGoroutine") = false := by
  intro i hi
  simp only [I, List.mem_cons, List.not_mem_nil, or_false] at hi
  subst hi
  exact ⟨by kernel_rfl, by kernel_rfl⟩
noncomputable abbrev L0 (fuel n : Nat) (s : St) (k : Kont) := lAt Try.prog X I fuel true 0 false 55 (bodyOf Try.f55) [1, 1, 1, 0, 1, 0] n s k
noncomputable abbrev k0  (fuel : Nat) : Kont := (kAt Try.prog X I fuel true 0 false 55 (bodyOf Try.f55) [1, 1, 1, 0, 1, 0] [] (endK Try.prog Try.f55))
noncomputable def t0 (p0q1 : List Int) (x0q2 : Int) : St := ⟨[.dead, .dead, .dead, .dead, .dead, .dead, .dead, .dead, .dead, .dead, .dead, .dead, .dead, .dead, .dead, .dead, .dead, .dead, .dead, .dead, .dead, .dead, .dead, .dead, (.imm (.ints .i64 p0q1)), (.imm (.int .i64 ((p0q1.length : Nat) : Int))), (.imm (.int .i64 x0q2)), .dead, .dead, .dead, .dead, .dead, .dead, .dead], hOf [], [], []⟩
theorem e (fuel : Nat) (p0q0 : List Int) (p0q1 : List Int) : runF Try.prog X I 0 fuel 55 Try.f55 [.d (.agg [(.ints .i64 p0q0), (.ints .i64 p0q1)])] =
  (bif decide (p0q0.length < 9223372036854775808) then
  (bif validS p0q0 then
  (bif ((((p0q1.length : Nat) : Int) : Int) != (volW p0q0)) then
  some ([.one ((.bool false), false)], [])
  else
  L0 fuel fuel (t0 p0q1 0) (k0  fuel))
  else
  some ([.one ((.bool false), false)], []))
  else
  none) := by kernel_rfl
theorem s0 (fuel n0 : Nat) (p0q1 : List Int) (x0q2 : Int) : L0 fuel (n0 + 1) (t0 p0q1 x0q2) (k0  fuel) =
  (bif (decide ((x0q2 : Int) < ((p0q1.length : Nat) : Int))) then
  (idx x0q2 p0q1.length).bind fun j5 =>
  (p0q1[j5]?).bind fun v6 =>
  (bif (!(numB v6)) then
  some ([.one ((.bool false), false)], [])
  else
  L0 fuel n0 (t0 p0q1 ((IntKind.wrap .i64 (x0q2 + 1)))) (k0  fuel))
  else
  some ([.one ((.bool true), false)], [])) := by kernel_rfl
end impl_ValidArray
theorem impl_ValidArray.ok_of (hX : ∀ E ∈ impl_ValidArray.X, CallSpec Try.prog E) (h : ∀ (sh : List Int) (da : List Int), (decide (sh.length < 9223372036854775808) && decide (da.length < 9223372036854775808)) = true → ∃ fuel, runF Try.prog impl_ValidArray.X impl_ValidArray.I 0 fuel 55 Try.f55 [.d (.agg [(.ints .i64 sh), (.ints .i64 da)])] = some ([.one ((.bool (validA sh da)), false)], [])) : CallSpec Try.prog impl_ValidArray.E :=
  callSpec_of (d := 0) hX (by kernel_rfl) impl_ValidArray.I_ok (by kernel_rfl) (by kernel_rfl) (by kernel_rfl) (fun _ _ _ _ h => by dsimp only [impl_ValidArray.E] at h; cases h) (fun xs hp => by
    dsimp only [impl_ValidArray.E] at hp ⊢
    split at hp
    · exact h _ _ hp
    · cases hp)
theorem impl_ValidArray.loop (fuel : Nat) (xs : List Int) (hx : xs.length < 9223372036854775808) : ∀ (m n j : Nat), xs.length - j = m → m < n → j ≤ xs.length →
    impl_ValidArray.L0 fuel n (impl_ValidArray.t0 xs (j : Int)) (impl_ValidArray.k0 fuel) = some ([.one (.bool (allB (xs.drop j) (-1000000) 1000000), false)], []) := by
  intro m
  induction m with
  | zero =>
    intro n j h1 h2 h3
    obtain ⟨n, rfl⟩ : ∃ n', n = n' + 1 := ⟨n - 1, by omega⟩
    have hj : ¬ j < xs.length := by omega
    rw [impl_ValidArray.s0, dge hj, dropE hj]
    rfl
  | succ m ih =>
    intro n j h1 h2 h3
    obtain ⟨n, rfl⟩ : ∃ n', n = n' + 1 := ⟨n - 1, by omega⟩
    have hj : j < xs.length := by omega
    rw [impl_ValidArray.s0, dlt hj, idx_nat hj, w1 (by omega), dropS hj]
    simp only [cond_true, Option.bind_some, getS hj, allB_cons, numB_eq]
    rw [ih n (j + 1) (by omega) (by omega) (by omega)]
    cases decide (-1000000 ≤ xs[j]) && decide (xs[j] ≤ 1000000) <;> rfl

theorem impl_ValidArray.ok : CallSpec Try.prog impl_ValidArray.E := impl_ValidArray.ok_of (by simp [impl_ValidArray.X, impl_layoutOf.ok, impl_isNumber.ok]) fun sh da h => by
  simp only [Bool.and_eq_true, decide_eq_true_eq] at h
  refine ⟨da.length + 1, ?_⟩
  rw [impl_ValidArray.e, lt_of h.1]
  have := impl_ValidArray.loop (da.length + 1) da h.2 da.length (da.length + 1) 0 (by omega) (by omega) (by omega)
  simp only [cond_true, List.drop_zero] at this ⊢
  rw [show ((0 : Nat) : Int) = 0 from rfl] at this
  rw [this]
  unfold validA
  cases validS sh
  · rfl
  · cases hb : (((da.length : Nat) : Int) == volW sh) with
    | true => simp [bne, hb]
    | false => simp [bne, hb]

namespace impl_isVector
noncomputable def E : Entry := ⟨49, true, false, fun | [.d (.agg [(.ints .i64 sh), (.ints .i64 da)])] => decide (sh.length < 9223372036854775808) && decide (da.length < 9223372036854775808) | _ => false, fun | [.d (.agg [(.ints .i64 sh), (.ints .i64 da)])] => ([.one ((.bool (vcB sh da)), false)], []) | _ => ([], []), fun _ => [], false, fun _ => none⟩
end impl_isVector
namespace impl_isVector
noncomputable def X : List Entry := [impl_ValidArray.E]
noncomputable def I : List Inl := [⟨49, Try.f49, ⟨[], [], [], [], [], []⟩⟩]
theorem I_ok : ∀ i ∈ I, Try.prog.funcs[i.f]? = some i.fn ∧ (i.fn.name == "runtime.NumGoroutine") = false := by
  intro i hi
  simp only [I, List.mem_cons, List.not_mem_nil, or_false] at hi
  subst hi
  exact ⟨by kernel_rfl, by kernel_rfl⟩
theorem e (fuel : Nat) (p0q0 : List Int) (p0q1 : List Int) : runF Try.prog X I 0 fuel 49 Try.f49 [.d (.agg [(.ints .i64 p0q0), (.ints .i64 p0q1)])] =
  (bif decide (p0q0.length < 9223372036854775808) && decide (p0q1.length < 9223372036854775808) then
  (bif (validA p0q0 p0q1) then
  some ([.one ((.bool ((((p0q0.length : Nat) : Int) : Int) == 1)), false)], [])
  else
  some ([.one ((.bool false), false)], []))
  else
  none) := by kernel_rfl
end impl_isVector
theorem impl_isVector.ok_of (hX : ∀ E ∈ impl_isVector.X, CallSpec Try.prog E) (h : ∀ (sh : List Int) (da : List Int), (decide (sh.length < 9223372036854775808) && decide (da.length < 9223372036854775808)) = true → ∃ fuel, runF Try.prog impl_isVector.X impl_isVector.I 0 fuel 49 Try.f49 [.d (.agg [(.ints .i64 sh), (.ints .i64 da)])] = some ([.one ((.bool (vcB sh da)), false)], [])) : CallSpec Try.prog impl_isVector.E :=
  callSpec_of (d := 0) hX (by kernel_rfl) impl_isVector.I_ok (by kernel_rfl) (by kernel_rfl) (by kernel_rfl) (fun _ _ _ _ h => by dsimp only [impl_isVector.E] at h; cases h) (fun xs hp => by
    dsimp only [impl_isVector.E] at hp ⊢
    split at hp
    · exact h _ _ hp
    · cases hp)
theorem impl_isVector.ok : CallSpec Try.prog impl_isVector.E := impl_isVector.ok_of (by simp [impl_isVector.X, impl_ValidArray.ok]) fun sh da h => ⟨0, by
  rw [impl_isVector.e, h]
  unfold vcB
  cases validA sh da with
  | false => rfl
  | true =>
    rw [show ((((sh.length : Nat) : Int)) == 1) = decide (sh.length = 1) by by_cases h : sh.length = 1 <;> simp [h]; omega]
    rfl⟩

namespace impl_pairwise
noncomputable def E : Entry := ⟨51, false, false, fun | [.d (.fn false dom G), .d (.ints .i64 xs), .d (.ints .i64 ys)] => szB xs && decide (xs.length ≤ ys.length) && pwB dom xs ys | _ => false, fun | [.d (.fn false dom G), .d (.ints .i64 xs), .d (.ints .i64 ys)] => ([.one ((.ints .i64 (pwD G xs ys)), true)], []) | _ => ([], []), fun _ => [], true, fun _ => none⟩
end impl_pairwise
namespace impl_pairwise
noncomputable def X : List Entry := []
noncomputable def I : List Inl := [⟨51, Try.f51, ⟨[], [(1000003, [3, 4, 5, 6, 8, 9, 10, 11, 12, 15, 16, 17, 18, 19, 20, 21, 22, 23, 24, 25, 26, 27, 28, 29, 30, 31])], [], [(5, [0, 1, 2, 3, 4, 7, 8, 5, 6, 9, 10, 11, 12, 13])], [], []⟩⟩]
theorem I_ok : ∀ i ∈ I, Try.prog.funcs[i.f]? = some i.fn ∧ (i.fn.name == "runtime.NumGoroutine") = false := by
  intro i hi
  simp only [I, List.mem_cons, List.not_mem_nil, or_false] at hi
  subst hi
  exact ⟨by kernel_rfl, by kernel_rfl⟩
noncomputable abbrev L0 (fuel n : Nat) (s : St) (k : Kont) := lAt Try.prog X I fuel true 0 false 51 (bodyOf Try.f51) [1, 1, 0, 1, 0] n s k
noncomputable abbrev k0  (fuel : Nat) : Kont := (kAt Try.prog X I fuel true 0 false 51 (bodyOf Try.f51) [1, 1, 0, 1, 0] [] (endK Try.prog Try.f51))
noncomputable def t0 (p0d : List Q → Bool) (p0g : List Q → Int) (p1 : List Int) (p2 : List Int) (x0q5 : Int) (x0q6 : List Int) : St := ⟨[(.imm (.fn false p0d p0g)), (.imm (.ints .i64 p1)), (.imm (.ints .i64 p2)), .dead, .dead, .dead, .dead, (.all 1000000000 1), .dead, .dead, .dead, .dead, .dead, (.imm (.int .i64 (((List.replicate (((p1.length : Nat) : Int)).toNat (0 : Int)).length : Nat) : Int))), (.imm (.int .i64 x0q5)), .dead, .dead, .dead, .dead, .dead, .dead, .dead, .dead, .dead, .dead, .dead, .dead, .dead, .dead, .dead, .dead, .dead], hOf [(1000000000, (.ints .i64 x0q6))], [], []⟩
theorem e (fuel : Nat) (p0d : List Q → Bool) (p0g : List Q → Int) (p1 : List Int) (p2 : List Int) : runF Try.prog X I 0 fuel 51 Try.f51 [.d (.fn false p0d p0g), .d (.ints .i64 p1), .d (.ints .i64 p2)] =
  (bif decide (0 ≤ (((p1.length : Nat) : Int) : Int)) && decide ((((p1.length : Nat) : Int) : Int) ≤ ((p1.length : Nat) : Int)) && decide ((((p1.length : Nat) : Int) : Int) ≤ 1152921504606846976) && decide (((8 : Nat) : Int) * ((p1.length : Nat) : Int) ≤ 281474976710656) then
  L0 fuel fuel (t0 p0d p0g p1 p2 0 ((List.replicate (((p1.length : Nat) : Int)).toNat (0 : Int)))) (k0  fuel)
  else
  none) := by kernel_rfl
theorem s0 (fuel n0 : Nat) (p0d : List Q → Bool) (p0g : List Q → Int) (p1 : List Int) (p2 : List Int) (x0q5 : Int) (x0q6 : List Int) : L0 fuel (n0 + 1) (t0 p0d p0g p1 p2 x0q5 x0q6) (k0  fuel) =
  (bif (decide ((x0q5 : Int) < (((List.replicate (((p1.length : Nat) : Int)).toNat (0 : Int)).length : Nat) : Int))) then
  (idx x0q5 p1.length).bind fun j11 =>
  (p1[j11]?).bind fun v12 =>
  (idx x0q5 p2.length).bind fun j13 =>
  (p2[j13]?).bind fun v14 =>
  (bif (p0d [Q.i v12, Q.i v14]) then
  (idx x0q5 x0q6.length).bind fun j15 =>
  (bif decide (j15 < x0q6.length) then
  L0 fuel n0 (t0 p0d p0g p1 p2 ((IntKind.wrap .i64 (x0q5 + 1))) ((x0q6.set j15 (p0g [Q.i v12, Q.i v14])))) (k0  fuel)
  else
  none)
  else
  none)
  else
  some ([.one ((.ints .i64 x0q6), true)], [])) := by kernel_rfl
end impl_pairwise
theorem impl_pairwise.ok_of (hX : ∀ E ∈ impl_pairwise.X, CallSpec Try.prog E) (h : ∀ (dom : List Q → Bool) (G : List Q → Int) (xs : List Int) (ys : List Int), (szB xs && decide (xs.length ≤ ys.length) && pwB dom xs ys) = true → ∃ fuel, runF Try.prog impl_pairwise.X impl_pairwise.I 0 fuel 51 Try.f51 [.d (.fn false dom G), .d (.ints .i64 xs), .d (.ints .i64 ys)] = some ([.one ((.ints .i64 (pwD G xs ys)), true)], [])) : CallSpec Try.prog impl_pairwise.E :=
  callSpec_of (d := 0) hX (by kernel_rfl) impl_pairwise.I_ok (by kernel_rfl) (by kernel_rfl) (by kernel_rfl) (fun _ _ _ _ h => by dsimp only [impl_pairwise.E] at h; cases h) (fun xs hp => by
    dsimp only [impl_pairwise.E] at hp ⊢
    split at hp
    · exact h _ _ _ _ hp
    · cases hp)
theorem impl_pairwise.ok : CallSpec Try.prog impl_pairwise.E := impl_pairwise.ok_of (by simp [impl_pairwise.X]) fun dom G xs ys h => ⟨xs.length + 1, by
  simp only [Bool.and_eq_true, decide_eq_true_eq] at h
  have hx := szB_le h.1.1
  have hA : (pwD G xs ys).length = xs.length := tab_length _ _
  rw [impl_pairwise.e, mkOk (by omega) (by omega), cond_true]
  refine run_loop (N := xs.length) (fun n j out => impl_pairwise.L0 (xs.length + 1) n (impl_pairwise.t0 dom G xs ys (j : Int) out) (impl_pairwise.k0 (xs.length + 1))) (fun j out => out = part (pwD G xs ys) j) ?_ ?_ (xs.length + 1) 0 _ (by omega) (by omega) (by rw [part_zero, hA]; rfl)
  · intro n out ho
    rw [← hA, part_all] at ho
    rw [impl_pairwise.s0, List.length_replicate, Int.toNat_natCast, dge (by omega), ho]
    rfl
  · intro n j out hj ho
    have hol : out.length = xs.length := by rw [ho, part_length (by omega), hA]
    have hy : j < ys.length := by omega
    rw [impl_pairwise.s0, List.length_replicate, Int.toNat_natCast, dlt hj, idx_nat hj, idx_nat hy, idx_nat (by omega), w1 (by omega)]
    simp only [cond_true, Option.bind_some, getD_get hj, getD_get hy]
    rw [pwB_get h.2 hj, decide_eq_true (by omega)]
    refine ⟨_, ?_, rfl⟩
    rw [ho, part_set (by omega)]
    exact tab_getD hj⟩

namespace impl_copyList
noncomputable def E : Entry := ⟨46, false, false, fun | [.d (.ints .i64 xs)] => szB xs | _ => false, fun | [.d (.ints .i64 xs)] => ([.one ((.ints .i64 xs), true)], []) | _ => ([], []), fun _ => [], true, fun _ => none⟩
end impl_copyList
namespace impl_copyList
noncomputable def X : List Entry := []
noncomputable def I : List Inl := [⟨46, Try.f46, ⟨[], [], [], [], [], []⟩⟩]
theorem I_ok : ∀ i ∈ I, Try.prog.funcs[i.f]? = some i.fn ∧ (i.fn.name == "runtime.NumGoroutine") = false := by
  intro i hi
  simp only [I, List.mem_cons, List.not_mem_nil, or_false] at hi
  subst hi
  exact ⟨by kernel_rfl, by kernel_rfl⟩
theorem e (fuel : Nat) (p0 : List Int) : runF Try.prog X I 0 fuel 46 Try.f46 [.d (.ints .i64 p0)] =
  (bif decide (0 ≤ (((p0.length : Nat) : Int) : Int)) && decide ((((p0.length : Nat) : Int) : Int) ≤ ((p0.length : Nat) : Int)) && decide ((((p0.length : Nat) : Int) : Int) ≤ 1152921504606846976) && decide (((8 : Nat) : Int) * ((p0.length : Nat) : Int) ≤ 281474976710656) then
  some ([.one ((.ints .i64 (copyL (List.replicate (((p0.length : Nat) : Int)).toNat (0 : Int)) 0 (List.replicate (((p0.length : Nat) : Int)).toNat (0 : Int)).length p0)), true)], [])
  else
  none) := by kernel_rfl
end impl_copyList
theorem impl_copyList.ok_of (hX : ∀ E ∈ impl_copyList.X, CallSpec Try.prog E) (h : ∀ (xs : List Int), (szB xs) = true → ∃ fuel, runF Try.prog impl_copyList.X impl_copyList.I 0 fuel 46 Try.f46 [.d (.ints .i64 xs)] = some ([.one ((.ints .i64 xs), true)], [])) : CallSpec Try.prog impl_copyList.E :=
  callSpec_of (d := 0) hX (by kernel_rfl) impl_copyList.I_ok (by kernel_rfl) (by kernel_rfl) (by kernel_rfl) (fun _ _ _ _ h => by dsimp only [impl_copyList.E] at h; cases h) (fun xs hp => by
    dsimp only [impl_copyList.E] at hp ⊢
    split at hp
    · exact h _ hp
    · cases hp)
theorem impl_copyList.ok : CallSpec Try.prog impl_copyList.E := impl_copyList.ok_of (by simp [impl_copyList.X]) fun xs h => ⟨0, by
  have hx := szB_le h
  rw [impl_copyList.e, mkOk (by omega) (by omega)]
  simp only [cond_true, Int.toNat_natCast, copyL_all]⟩

namespace impl_VectorOf
noncomputable def E : Entry := ⟨50, false, false, fun | [.d (.ints .i64 xs)] => szB xs | _ => false, fun | [.d (.ints .i64 xs)] => ([.agg [((.ints .i64 (vecS xs)), true), ((.ints .i64 (vecD xs)), true)]], []) | _ => ([], []), fun _ => [], true, fun _ => none⟩
end impl_VectorOf
namespace impl_VectorOf
noncomputable def X : List Entry := [impl_ValidArray.E, impl_copyList.E]
noncomputable def I : List Inl := [⟨50, Try.f50, ⟨[15], [], [], [], [], []⟩⟩]
theorem I_ok : ∀ i ∈ I, Try.prog.funcs[i.f]? = some i.fn ∧ (i.fn.name == "runtime.NumGoroutine") = false := by
  intro i hi
  simp only [I, List.mem_cons, List.not_mem_nil, or_false] at hi
  subst hi
  exact ⟨by kernel_rfl, by kernel_rfl⟩
theorem e (fuel : Nat) (p0 : List Int) : runF Try.prog X I 0 fuel 50 Try.f50 [.d (.ints .i64 p0)] =
  (bif decide (([((p0.length : Nat) : Int)]).length < 9223372036854775808) && decide (p0.length < 9223372036854775808) then
  (bif (!(validA ([((p0.length : Nat) : Int)]) p0)) then
  some ([.agg [((.ints .i64 []), true), ((.ints .i64 []), true)]], [])
  else
  (bif szB p0 then
  some ([.agg [((.ints .i64 [((p0.length : Nat) : Int)]), true), ((.ints .i64 p0), true)]], [])
  else
  none))
  else
  none) := by kernel_rfl
end impl_VectorOf
theorem impl_VectorOf.ok_of (hX : ∀ E ∈ impl_VectorOf.X, CallSpec Try.prog E) (h : ∀ (xs : List Int), (szB xs) = true → ∃ fuel, runF Try.prog impl_VectorOf.X impl_VectorOf.I 0 fuel 50 Try.f50 [.d (.ints .i64 xs)] = some ([.agg [((.ints .i64 (vecS xs)), true), ((.ints .i64 (vecD xs)), true)]], [])) : CallSpec Try.prog impl_VectorOf.E :=
  callSpec_of (d := 0) hX (by kernel_rfl) impl_VectorOf.I_ok (by kernel_rfl) (by kernel_rfl) (by kernel_rfl) (fun _ _ _ _ h => by dsimp only [impl_VectorOf.E] at h; cases h) (fun xs hp => by
    dsimp only [impl_VectorOf.E] at hp ⊢
    split at hp
    · exact h _ hp
    · cases hp)
theorem validA_vec0 (xs : List Int) (hx : xs.length < 9223372036854775808) : validA [((xs.length : Nat) : Int)] xs = vecOk xs := by
  have e1 := @wS ((xs.length : Nat) : Int) (by omega) (by omega)
  by_cases h1 : xs.length ≤ 60
  · have h2 : ((xs.length : Nat) : Int) ≤ 60 := by omega
    simp [validA, validS, vecOk, allB_cons, allB_nil, volW, volFrom, e1, h1, h2]
  · have h2 : ¬ ((xs.length : Nat) : Int) ≤ 60 := by omega
    simp [validA, validS, vecOk, allB_cons, allB_nil, volW, volFrom, e1, h1, h2]

theorem impl_VectorOf.ok : CallSpec Try.prog impl_VectorOf.E := impl_VectorOf.ok_of (by simp [impl_VectorOf.X, impl_ValidArray.ok, impl_copyList.ok]) fun xs h => ⟨0, by
  rw [impl_VectorOf.e, lt_of (szB_lt h), h, validA_vec0 xs (szB_lt h), lt_of (by simp)]
  unfold vecS vecD
  cases vecOk xs <;> rfl⟩

namespace impl_NeighboursOf
noncomputable def E : Entry := ⟨20, false, false, fun | [.d (.int .i64 op), .d (.agg [(.ints .i64 sh), (.ints .i64 da)])] => decide (sh.length < 9223372036854775808) && decide (da.length < 9223372036854775808) | _ => false, fun | [.d (.int .i64 op), .d (.agg [(.ints .i64 sh), (.ints .i64 da)])] => ([.agg [((.ints .i64 (nbS op sh da)), true), ((.ints .i64 (nbD op sh da)), true)], .one ((.bool (nbB op sh da)), false)], []) | _ => ([], []), fun _ => [], true, fun _ => none⟩
end impl_NeighboursOf
namespace impl_NeighboursOf
noncomputable def X : List Entry := [impl_functionOfTwo_f.E, impl_isVector.E, impl_pairwise.E, impl_VectorOf.E]
noncomputable def I : List Inl := [⟨20, Try.f20, ⟨[36, 37], [], [], [(5, [0, 1, 3, 5, 2, 4, 6, 7, 8, 9, 10, 11])], [], []⟩⟩]
theorem I_ok : ∀ i ∈ I, Try.prog.funcs[i.f]? = some i.fn ∧ (i.fn.name == "runtime.NumGoroutine") = false := by
  intro i hi
  simp only [I, List.mem_cons, List.not_mem_nil, or_false] at hi
  subst hi
  exact ⟨by kernel_rfl, by kernel_rfl⟩
theorem e (fuel : Nat) (p0 : Int) (p1q0 : List Int) (p1q1 : List Int) : runF Try.prog X I 0 fuel 20 Try.f20 [.d (.int .i64 p0), .d (.agg [(.ints .i64 p1q0), (.ints .i64 p1q1)])] =
  (bif opOk p0 then
  (bif decide (p1q0.length < 9223372036854775808) && decide (p1q1.length < 9223372036854775808) then
  (bif (!(vcB p1q0 p1q1)) then
  some ([.agg [((.ints .i64 []), true), ((.ints .i64 []), true)], .one ((.bool false), false)], [])
  else
  (bif ((((p1q1.length : Nat) : Int) : Int) == 0) then
  some ([.agg [((.ints .i64 []), true), ((.ints .i64 []), true)], .one ((.bool false), false)], [])
  else
  (cutEnds p1q1.length (none) (some (.imm (.int .i64 (IntKind.wrap .i64 (((p1q1.length : Nat) : Int) - 1)))))).bind fun cq1 =>
  (cutEnds p1q1.length (some (.imm (.int .i64 1))) (none)).bind fun cq2 =>
  (bif szB (((p1q1.drop cq1.1).take (cq1.2 - cq1.1))) && decide ((((p1q1.drop cq1.1).take (cq1.2 - cq1.1))).length ≤ (((p1q1.drop cq2.1).take (cq2.2 - cq2.1))).length) && pwB q2 (((p1q1.drop cq1.1).take (cq1.2 - cq1.1))) (((p1q1.drop cq2.1).take (cq2.2 - cq2.1))) then
  (bif szB ((pwD ((q2v (operF p0))) (((p1q1.drop cq1.1).take (cq1.2 - cq1.1))) (((p1q1.drop cq2.1).take (cq2.2 - cq2.1))))) then
  some ([.agg [((.ints .i64 (vecS ((pwD ((q2v (operF p0))) (((p1q1.drop cq1.1).take (cq1.2 - cq1.1))) (((p1q1.drop cq2.1).take (cq2.2 - cq2.1))))))), true), ((.ints .i64 (vecD ((pwD ((q2v (operF p0))) (((p1q1.drop cq1.1).take (cq1.2 - cq1.1))) (((p1q1.drop cq2.1).take (cq2.2 - cq2.1))))))), true)], .one ((.bool true), false)], [])
  else
  none)
  else
  none)))
  else
  none)
  else
  some ([.agg [((.ints .i64 []), true), ((.ints .i64 []), true)], .one ((.bool false), false)], [])) := by kernel_rfl
end impl_NeighboursOf
theorem impl_NeighboursOf.ok_of (hX : ∀ E ∈ impl_NeighboursOf.X, CallSpec Try.prog E) (h : ∀ (op : Int) (sh : List Int) (da : List Int), (decide (sh.length < 9223372036854775808) && decide (da.length < 9223372036854775808)) = true → ∃ fuel, runF Try.prog impl_NeighboursOf.X impl_NeighboursOf.I 0 fuel 20 Try.f20 [.d (.int .i64 op), .d (.agg [(.ints .i64 sh), (.ints .i64 da)])] = some ([.agg [((.ints .i64 (nbS op sh da)), true), ((.ints .i64 (nbD op sh da)), true)], .one ((.bool (nbB op sh da)), false)], [])) : CallSpec Try.prog impl_NeighboursOf.E :=
  callSpec_of (d := 0) hX (by kernel_rfl) impl_NeighboursOf.I_ok (by kernel_rfl) (by kernel_rfl) (by kernel_rfl) (fun _ _ _ _ h => by dsimp only [impl_NeighboursOf.E] at h; cases h) (fun xs hp => by
    dsimp only [impl_NeighboursOf.E] at hp ⊢
    split at hp
    · exact h _ _ _ hp
    · cases hp)
theorem impl_NeighboursOf.ok : CallSpec Try.prog impl_NeighboursOf.E := impl_NeighboursOf.ok_of (by simp [impl_NeighboursOf.X, impl_functionOfTwo_f.ok, impl_isVector.ok, impl_pairwise.ok, impl_VectorOf.ok]) fun op sh da h => ⟨0, by
  rw [impl_NeighboursOf.e, h]
  cases ho : opOk op with
  | false => simp only [nbS, nbD, nbB, ho]; rfl
  | true =>
    cases hb : vcB sh da with
    | false => simp only [nbS, nbD, nbB, ho, hb]; rfl
    | true =>
      obtain ⟨_, _, hl, _⟩ := vcB_inv hb
      by_cases h0 : 0 < da.length
      · have hB : nbB op sh da = true := by simp only [nbB, ho, hb, decide_eq_true h0, Bool.and_self]
        have hv := nb_vec hB
        obtain ⟨e1, e2⟩ := vecOk_eq hv
        obtain ⟨k, hk⟩ : ∃ k, da.length = k + 1 := ⟨da.length - 1, by omega⟩
        have hc1 : cutEnds da.length none (some (.imm (.int .i64 (IntKind.wrap .i64 (((da.length : Nat) : Int) - 1))))) = some (0, k) := by
          rw [hk, show IntKind.wrap .i64 (((k + 1 : Nat) : Int) - 1) = (k : Int) by rw [wS (by omega) (by omega)]; omega]
          exact cut_hi (by omega)
        have hc2 : cutEnds da.length (some (.imm (.int .i64 1))) none = some (1, k + 1) := by
          rw [hk]; exact cut_one (by omega)
        have hpw : pwD (q2v (operF op)) ((da.drop 0).take (k - 0)) ((da.drop 1).take (k + 1 - 1)) = nbN op da := by
          rw [pwD_q2]
          have : ((da.drop 0).take (k - 0)).length = da.length - 1 := by simp; omega
          rw [this]
          refine tab_congr fun i hi => ?_
          congr 1
          · simp [List.getD, List.getElem?_take, show i < k by omega]
          · simp [List.getD, List.getElem?_take, show i < k by omega, Nat.add_comm]
        rw [beq0 (by omega), hc1, hc2]
        simp only [Option.bind_some, Bool.not_true, cond_true, cond_false]
        rw [hpw, szB_of (by simp; omega), decide_eq_true (by simp; omega), pwB_q2, szB_of (by rw [nbN_length]; omega), e1, e2, nbN_length]
        simp only [nbS, nbD, hB, Bool.and_self, cond_true]
      · have e0 : ((((da.length : Nat) : Int) : Int) == 0) = true := by rw [beq_iff_eq]; omega
        rw [e0]
        simp only [nbS, nbD, nbB, ho, hb, decide_eq_false h0]
        rfl⟩

namespace spec_inRange
noncomputable def E : Entry := ⟨33, true, false, fun | [.d (.int .i64 v), .d (.int .i64 lo), .d (.int .i64 hi)] => true | _ => false, fun | [.d (.int .i64 v), .d (.int .i64 lo), .d (.int .i64 hi)] => ([.one ((.bool (decide (lo ≤ v) && decide (v ≤ hi))), false)], []) | _ => ([], []), fun _ => [], false, fun _ => none⟩
end spec_inRange
namespace spec_inRange
noncomputable def X : List Entry := []
noncomputable def I : List Inl := [⟨33, Try.f33, ⟨[], [], [], [], [], []⟩⟩]
theorem I_ok : ∀ i ∈ I, Try.prog.funcs[i.f]? = some i.fn ∧ (i.fn.name == "runtime.NumGoroutine") = false := by
  intro i hi
  simp only [I, List.mem_cons, List.not_mem_nil, or_false] at hi
  subst hi
  exact ⟨by kernel_rfl, by kernel_rfl⟩
theorem e (fuel : Nat) (p0 : Int) (p1 : Int) (p2 : Int) : runF Try.prog X I 0 fuel 33 Try.f33 [.d (.int .i64 p0), .d (.int .i64 p1), .d (.int .i64 p2)] =
  (bif (decide ((p1 : Int) ≤ p0)) then
  some ([.one ((.bool (decide ((p0 : Int) ≤ p2))), false)], [])
  else
  some ([.one ((.bool false), false)], [])) := by kernel_rfl
end spec_inRange
theorem spec_inRange.ok_of (hX : ∀ E ∈ spec_inRange.X, CallSpec Try.prog E) (h : ∀ (v : Int) (lo : Int) (hi : Int), (true) = true → ∃ fuel, runF Try.prog spec_inRange.X spec_inRange.I 0 fuel 33 Try.f33 [.d (.int .i64 v), .d (.int .i64 lo), .d (.int .i64 hi)] = some ([.one ((.bool (decide (lo ≤ v) && decide (v ≤ hi))), false)], [])) : CallSpec Try.prog spec_inRange.E :=
  callSpec_of (d := 0) hX (by kernel_rfl) spec_inRange.I_ok (by kernel_rfl) (by kernel_rfl) (by kernel_rfl) (fun _ _ _ _ h => by dsimp only [spec_inRange.E] at h; cases h) (fun xs hp => by
    dsimp only [spec_inRange.E] at hp ⊢
    split at hp
    · exact h _ _ _ hp
    · cases hp)
theorem spec_inRange.ok : CallSpec Try.prog spec_inRange.E := spec_inRange.ok_of (by simp [spec_inRange.X]) fun v lo hi _ => ⟨0, by
  rw [spec_inRange.e]
  cases decide (lo ≤ v) <;> rfl⟩

namespace spec_allIn
noncomputable def E : Entry := ⟨75, true, false, fun | [.d (.ints .i64 xs), .d (.int .i64 lo), .d (.int .i64 hi)] => decide (xs.length < 9223372036854775808) | _ => false, fun | [.d (.ints .i64 xs), .d (.int .i64 lo), .d (.int .i64 hi)] => ([.one ((.bool (allB xs lo hi)), false)], []) | _ => ([], []), fun _ => [], false, fun _ => none⟩
end spec_allIn
namespace spec_allIn
noncomputable def X : List Entry := [spec_inRange.E]
noncomputable def I : List Inl := [⟨75, Try.f75, ⟨[], [(1000002, [3, 4, 5, 6, 8, 9, 10, 11, 12, 13, 14, 15, 16, 17, 18, 19, 20, 21])], [], [], [], []⟩⟩]
theorem I_ok : ∀ i ∈ I, Try.prog.funcs[i.f]? = some i.fn ∧ (i.fn.name == "runtime.NumGoroutine") = false := by
  intro i hi
  simp only [I, List.mem_cons, List.not_mem_nil, or_false] at hi
  subst hi
  exact ⟨by kernel_rfl, by kernel_rfl⟩
noncomputable abbrev L0 (fuel n : Nat) (s : St) (k : Kont) := lAt Try.prog X I fuel true 0 false 75 (bodyOf Try.f75) [1, 0, 1, 0] n s k
noncomputable abbrev k0  (fuel : Nat) : Kont := (kAt Try.prog X I fuel true 0 false 75 (bodyOf Try.f75) [1, 0, 1, 0] [] (endK Try.prog Try.f75))
noncomputable def t0 (p0 : List Int) (p1 : Int) (p2 : Int) (x0q3 : Int) : St := ⟨[(.imm (.ints .i64 p0)), (.imm (.int .i64 p1)), (.imm (.int .i64 p2)), .dead, .dead, .dead, .dead, (.imm (.int .i64 x0q3)), .dead, .dead, .dead, .dead, .dead, .dead, .dead, .dead, .dead, .dead, .dead, .dead, .dead, .dead], hOf [], [], []⟩
theorem e (fuel : Nat) (p0 : List Int) (p1 : Int) (p2 : Int) : runF Try.prog X I 0 fuel 75 Try.f75 [.d (.ints .i64 p0), .d (.int .i64 p1), .d (.int .i64 p2)] =
  L0 fuel fuel (t0 p0 p1 p2 0) (k0  fuel) := by kernel_rfl
theorem s0 (fuel n0 : Nat) (p0 : List Int) (p1 : Int) (p2 : Int) (x0q3 : Int) : L0 fuel (n0 + 1) (t0 p0 p1 p2 x0q3) (k0  fuel) =
  (bif (decide ((x0q3 : Int) < ((p0.length : Nat) : Int))) then
  (idx x0q3 p0.length).bind fun j5 =>
  (p0[j5]?).bind fun v6 =>
  (bif (!(decide (p1 ≤ v6) && decide (v6 ≤ p2))) then
  some ([.one ((.bool false), false)], [])
  else
  L0 fuel n0 (t0 p0 p1 p2 ((IntKind.wrap .i64 (x0q3 + 1)))) (k0  fuel))
  else
  some ([.one ((.bool true), false)], [])) := by kernel_rfl
end spec_allIn
theorem spec_allIn.ok_of (hX : ∀ E ∈ spec_allIn.X, CallSpec Try.prog E) (h : ∀ (xs : List Int) (lo : Int) (hi : Int), (decide (xs.length < 9223372036854775808)) = true → ∃ fuel, runF Try.prog spec_allIn.X spec_allIn.I 0 fuel 75 Try.f75 [.d (.ints .i64 xs), .d (.int .i64 lo), .d (.int .i64 hi)] = some ([.one ((.bool (allB xs lo hi)), false)], [])) : CallSpec Try.prog spec_allIn.E :=
  callSpec_of (d := 0) hX (by kernel_rfl) spec_allIn.I_ok (by kernel_rfl) (by kernel_rfl) (by kernel_rfl) (fun _ _ _ _ h => by dsimp only [spec_allIn.E] at h; cases h) (fun xs hp => by
    dsimp only [spec_allIn.E] at hp ⊢
    split at hp
    · exact h _ _ _ hp
    · cases hp)
theorem spec_allIn.loop (fuel : Nat) (xs : List Int) (lo hi : Int) (hx : xs.length < 9223372036854775808) : ∀ (m n j : Nat), xs.length - j = m → m < n → j ≤ xs.length →
    spec_allIn.L0 fuel n (spec_allIn.t0 xs lo hi (j : Int)) (spec_allIn.k0 fuel) = some ([.one (.bool (allB (xs.drop j) lo hi), false)], []) := by
  intro m
  induction m with
  | zero =>
    intro n j h1 h2 h3
    obtain ⟨n, rfl⟩ : ∃ n', n = n' + 1 := ⟨n - 1, by omega⟩
    have hj : ¬ j < xs.length := by omega
    rw [spec_allIn.s0, dge hj, dropE hj]
    rfl
  | succ m ih =>
    intro n j h1 h2 h3
    obtain ⟨n, rfl⟩ : ∃ n', n = n' + 1 := ⟨n - 1, by omega⟩
    have hj : j < xs.length := by omega
    rw [spec_allIn.s0, dlt hj, idx_nat hj, w1 (by omega), dropS hj]
    simp only [cond_true, Option.bind_some, getS hj, allB_cons]
    rw [ih n (j + 1) (by omega) (by omega) (by omega)]
    cases decide (lo ≤ xs[j]) && decide (xs[j] ≤ hi) <;> rfl

theorem spec_allIn.ok : CallSpec Try.prog spec_allIn.E := spec_allIn.ok_of (by simp [spec_allIn.X, spec_inRange.ok]) fun xs lo hi h => by
  simp only [decide_eq_true_eq] at h
  refine ⟨xs.length + 1, ?_⟩
  rw [spec_allIn.e]
  exact spec_allIn.loop (xs.length + 1) xs lo hi h xs.length (xs.length + 1) 0 (by omega) (by omega) (by omega)

namespace spec_validShape
noncomputable def E : Entry := ⟨43, true, false, fun | [.d (.ints .i64 sh)] => decide (sh.length < 9223372036854775808) | _ => false, fun | [.d (.ints .i64 sh)] => ([.one ((.bool (validS sh)), false)], []) | _ => ([], []), fun _ => [], false, fun _ => none⟩
end spec_validShape
namespace spec_validShape
noncomputable def X : List Entry := [spec_allIn.E, spec_volume.E]
noncomputable def I : List Inl := [⟨43, Try.f43, ⟨[], [], [], [], [], []⟩⟩]
theorem I_ok : ∀ i ∈ I, Try.prog.funcs[i.f]? = some i.fn ∧ (i.fn.name == "runtime.NumGoroutine") = false := by
  intro i hi
  simp only [I, List.mem_cons, List.not_mem_nil, or_false] at hi
  subst hi
  exact ⟨by kernel_rfl, by kernel_rfl⟩
theorem e (fuel : Nat) (p0 : List Int) : runF Try.prog X I 0 fuel 43 Try.f43 [.d (.ints .i64 p0)] =
  (bif (decide ((((p0.length : Nat) : Int) : Int) ≤ 3)) then
  (bif decide (p0.length < 9223372036854775808) then
  (bif (allB p0 0 60) then
  (bif decide (p0.length < 9223372036854775808) then
  some ([.one ((.bool (decide (((volW p0) : Int) ≤ 60))), false)], [])
  else
  none)
  else
  some ([.one ((.bool false), false)], []))
  else
  none)
  else
  some ([.one ((.bool false), false)], [])) := by kernel_rfl
end spec_validShape
theorem spec_validShape.ok_of (hX : ∀ E ∈ spec_validShape.X, CallSpec Try.prog E) (h : ∀ (sh : List Int), (decide (sh.length < 9223372036854775808)) = true → ∃ fuel, runF Try.prog spec_validShape.X spec_validShape.I 0 fuel 43 Try.f43 [.d (.ints .i64 sh)] = some ([.one ((.bool (validS sh)), false)], [])) : CallSpec Try.prog spec_validShape.E :=
  callSpec_of (d := 0) hX (by kernel_rfl) spec_validShape.I_ok (by kernel_rfl) (by kernel_rfl) (by kernel_rfl) (fun _ _ _ _ h => by dsimp only [spec_validShape.E] at h; cases h) (fun xs hp => by
    dsimp only [spec_validShape.E] at hp ⊢
    split at hp
    · exact h _ hp
    · cases hp)
theorem spec_validShape.ok : CallSpec Try.prog spec_validShape.E := spec_validShape.ok_of (by simp [spec_validShape.X, spec_allIn.ok, spec_volume.ok]) fun sh h => ⟨0, by
  rw [spec_validShape.e, h]
  unfold validS
  cases decide (((sh.length : Nat) : Int) ≤ 3) <;> cases allB sh 0 60 <;> rfl⟩

namespace spec_valid
noncomputable def E : Entry := ⟨74, true, false, fun | [.d (.agg [(.ints .i64 sh), (.ints .i64 da)])] => decide (sh.length < 9223372036854775808) && decide (da.length < 9223372036854775808) | _ => false, fun | [.d (.agg [(.ints .i64 sh), (.ints .i64 da)])] => ([.one ((.bool (validA sh da)), false)], []) | _ => ([], []), fun _ => [], false, fun _ => none⟩
end spec_valid
namespace spec_valid
noncomputable def X : List Entry := [spec_validShape.E, spec_volume.E, spec_allIn.E]
noncomputable def I : List Inl := [⟨74, Try.f74, ⟨[], [], [], [(1, [0, 1, 2, 3, 4, 7, 5, 6, 8, 9, 10, 11, 12, 13, 14, 15, 16, 17])], [], []⟩⟩]
theorem I_ok : ∀ i ∈ I, Try.prog.funcs[i.f]? = some i.fn ∧ (i.fn.name == "runtime.NumGoroutine") = false := by
  intro i hi
  simp only [I, List.mem_cons, List.not_mem_nil, or_false] at hi
  subst hi
  exact ⟨by kernel_rfl, by kernel_rfl⟩
theorem e (fuel : Nat) (p0q0 : List Int) (p0q1 : List Int) : runF Try.prog X I 0 fuel 74 Try.f74 [.d (.agg [(.ints .i64 p0q0), (.ints .i64 p0q1)])] =
  (bif decide (p0q0.length < 9223372036854775808) then
  (bif (validS p0q0) then
  (bif decide (p0q0.length < 9223372036854775808) then
  (bif ((((p0q1.length : Nat) : Int) : Int) == (volW p0q0)) then
  (bif decide (p0q1.length < 9223372036854775808) then
  some ([.one ((.bool (allB p0q1 ((-1000000)) 1000000)), false)], [])
  else
  none)
  else
  some ([.one ((.bool false), false)], []))
  else
  none)
  else
  some ([.one ((.bool false), false)], []))
  else
  none) := by kernel_rfl
end spec_valid
theorem spec_valid.ok_of (hX : ∀ E ∈ spec_valid.X, CallSpec Try.prog E) (h : ∀ (sh : List Int) (da : List Int), (decide (sh.length < 9223372036854775808) && decide (da.length < 9223372036854775808)) = true → ∃ fuel, runF Try.prog spec_valid.X spec_valid.I 0 fuel 74 Try.f74 [.d (.agg [(.ints .i64 sh), (.ints .i64 da)])] = some ([.one ((.bool (validA sh da)), false)], [])) : CallSpec Try.prog spec_valid.E :=
  callSpec_of (d := 0) hX (by kernel_rfl) spec_valid.I_ok (by kernel_rfl) (by kernel_rfl) (by kernel_rfl) (fun _ _ _ _ h => by dsimp only [spec_valid.E] at h; cases h) (fun xs hp => by
    dsimp only [spec_valid.E] at hp ⊢
    split at hp
    · exact h _ _ hp
    · cases hp)
theorem spec_valid.ok : CallSpec Try.prog spec_valid.E := spec_valid.ok_of (by simp [spec_valid.X, spec_validShape.ok, spec_volume.ok, spec_allIn.ok]) fun sh da h => ⟨0, by
  simp only [Bool.and_eq_true] at h
  rw [spec_valid.e, h.1, h.2]
  unfold validA
  cases validS sh <;> cases (((da.length : Nat) : Int) == volW sh) <;> rfl⟩

namespace spec_isVector
noncomputable def E : Entry := ⟨42, true, false, fun | [.d (.agg [(.ints .i64 sh), (.ints .i64 da)])] => decide (sh.length < 9223372036854775808) && decide (da.length < 9223372036854775808) | _ => false, fun | [.d (.agg [(.ints .i64 sh), (.ints .i64 da)])] => ([.one ((.bool (vcB sh da)), false)], []) | _ => ([], []), fun _ => [], false, fun _ => none⟩
end spec_isVector
namespace spec_isVector
noncomputable def X : List Entry := [spec_valid.E]
noncomputable def I : List Inl := [⟨42, Try.f42, ⟨[], [], [], [], [], []⟩⟩]
theorem I_ok : ∀ i ∈ I, Try.prog.funcs[i.f]? = some i.fn ∧ (i.fn.name == "runtime.NumGoroutine") = false := by
  intro i hi
  simp only [I, List.mem_cons, List.not_mem_nil, or_false] at hi
  subst hi
  exact ⟨by kernel_rfl, by kernel_rfl⟩
theorem e (fuel : Nat) (p0q0 : List Int) (p0q1 : List Int) : runF Try.prog X I 0 fuel 42 Try.f42 [.d (.agg [(.ints .i64 p0q0), (.ints .i64 p0q1)])] =
  (bif decide (p0q0.length < 9223372036854775808) && decide (p0q1.length < 9223372036854775808) then
  (bif (validA p0q0 p0q1) then
  some ([.one ((.bool ((((p0q0.length : Nat) : Int) : Int) == 1)), false)], [])
  else
  some ([.one ((.bool false), false)], []))
  else
  none) := by kernel_rfl
end spec_isVector
theorem spec_isVector.ok_of (hX : ∀ E ∈ spec_isVector.X, CallSpec Try.prog E) (h : ∀ (sh : List Int) (da : List Int), (decide (sh.length < 9223372036854775808) && decide (da.length < 9223372036854775808)) = true → ∃ fuel, runF Try.prog spec_isVector.X spec_isVector.I 0 fuel 42 Try.f42 [.d (.agg [(.ints .i64 sh), (.ints .i64 da)])] = some ([.one ((.bool (vcB sh da)), false)], [])) : CallSpec Try.prog spec_isVector.E :=
  callSpec_of (d := 0) hX (by kernel_rfl) spec_isVector.I_ok (by kernel_rfl) (by kernel_rfl) (by kernel_rfl) (fun _ _ _ _ h => by dsimp only [spec_isVector.E] at h; cases h) (fun xs hp => by
    dsimp only [spec_isVector.E] at hp ⊢
    split at hp
    · exact h _ _ hp
    · cases hp)
theorem spec_isVector.ok : CallSpec Try.prog spec_isVector.E := spec_isVector.ok_of (by simp [spec_isVector.X, spec_valid.ok]) fun sh da h => ⟨0, by
  rw [spec_isVector.e, h]
  unfold vcB
  cases validA sh da with
  | false => rfl
  | true =>
    rw [show ((((sh.length : Nat) : Int)) == 1) = decide (sh.length = 1) by by_cases h : sh.length = 1 <;> simp [h]; omega]
    rfl⟩

namespace spec_validOp
noncomputable def E : Entry := ⟨52, true, false, fun | [.d (.int .i64 op)] => true | _ => false, fun | [.d (.int .i64 op)] => ([.one ((.bool (opOk op)), false)], []) | _ => ([], []), fun _ => [], false, fun _ => none⟩
end spec_validOp
namespace spec_validOp
noncomputable def X : List Entry := [spec_inRange.E]
noncomputable def I : List Inl := [⟨52, Try.f52, ⟨[], [], [], [], [], []⟩⟩]
theorem I_ok : ∀ i ∈ I, Try.prog.funcs[i.f]? = some i.fn ∧ (i.fn.name == "runtime.NumGoroutine") = false := by
  intro i hi
  simp only [I, List.mem_cons, List.not_mem_nil, or_false] at hi
  subst hi
  exact ⟨by kernel_rfl, by kernel_rfl⟩
theorem e (fuel : Nat) (p0 : Int) : runF Try.prog X I 0 fuel 52 Try.f52 [.d (.int .i64 p0)] =
  some ([.one ((.bool (decide (1 ≤ p0) && decide (p0 ≤ 8))), false)], []) := by kernel_rfl
end spec_validOp
theorem spec_validOp.ok_of (hX : ∀ E ∈ spec_validOp.X, CallSpec Try.prog E) (h : ∀ (op : Int), (true) = true → ∃ fuel, runF Try.prog spec_validOp.X spec_validOp.I 0 fuel 52 Try.f52 [.d (.int .i64 op)] = some ([.one ((.bool (opOk op)), false)], [])) : CallSpec Try.prog spec_validOp.E :=
  callSpec_of (d := 0) hX (by kernel_rfl) spec_validOp.I_ok (by kernel_rfl) (by kernel_rfl) (by kernel_rfl) (fun _ _ _ _ h => by dsimp only [spec_validOp.E] at h; cases h) (fun xs hp => by
    dsimp only [spec_validOp.E] at hp ⊢
    split at hp
    · exact h _ hp
    · cases hp)
theorem spec_validOp.ok : CallSpec Try.prog spec_validOp.E := spec_validOp.ok_of (by simp [spec_validOp.X, spec_inRange.ok]) fun op _ => ⟨0, by rw [spec_validOp.e]; rfl⟩

namespace spec_limit
noncomputable def E : Entry := ⟨91, true, false, fun | [.d (.int .i64 n)] => true | _ => false, fun | [.d (.int .i64 n)] => ([.one ((.int .i64 (limV n)), false)], []) | _ => ([], []), fun _ => [], false, fun _ => none⟩
end spec_limit
namespace spec_limit
noncomputable def X : List Entry := []
noncomputable def I : List Inl := [⟨91, Try.f91, ⟨[], [], [], [], [], []⟩⟩]
theorem I_ok : ∀ i ∈ I, Try.prog.funcs[i.f]? = some i.fn ∧ (i.fn.name == "runtime.NumGoroutine") = false := by
  intro i hi
  simp only [I, List.mem_cons, List.not_mem_nil, or_false] at hi
  subst hi
  exact ⟨by kernel_rfl, by kernel_rfl⟩
theorem e (fuel : Nat) (p0 : Int) : runF Try.prog X I 0 fuel 91 Try.f91 [.d (.int .i64 p0)] =
  some ([.one ((.int .i64 (maxI (-1000000) (minI 1000000 p0))), false)], []) := by kernel_rfl
end spec_limit
theorem spec_limit.ok_of (hX : ∀ E ∈ spec_limit.X, CallSpec Try.prog E) (h : ∀ (n : Int), (true) = true → ∃ fuel, runF Try.prog spec_limit.X spec_limit.I 0 fuel 91 Try.f91 [.d (.int .i64 n)] = some ([.one ((.int .i64 (limV n)), false)], [])) : CallSpec Try.prog spec_limit.E :=
  callSpec_of (d := 0) hX (by kernel_rfl) spec_limit.I_ok (by kernel_rfl) (by kernel_rfl) (by kernel_rfl) (fun _ _ _ _ h => by dsimp only [spec_limit.E] at h; cases h) (fun xs hp => by
    dsimp only [spec_limit.E] at hp ⊢
    split at hp
    · exact h _ hp
    · cases hp)
theorem spec_limit.ok : CallSpec Try.prog spec_limit.E := spec_limit.ok_of (by simp [spec_limit.X]) fun n _ => ⟨0, by rw [spec_limit.e, lim_spec]⟩

namespace spec_toInt
noncomputable def E : Entry := ⟨76, true, false, fun | [.d (.bool b)] => true | _ => false, fun | [.d (.bool b)] => ([.one ((.int .i64 (tInt b)), false)], []) | _ => ([], []), fun _ => [], false, fun _ => none⟩
end spec_toInt
namespace spec_toInt
noncomputable def X : List Entry := []
noncomputable def I : List Inl := [⟨76, Try.f76, ⟨[], [], [], [], [], []⟩⟩]
theorem I_ok : ∀ i ∈ I, Try.prog.funcs[i.f]? = some i.fn ∧ (i.fn.name == "runtime.NumGoroutine") = false := by
  intro i hi
  simp only [I, List.mem_cons, List.not_mem_nil, or_false] at hi
  subst hi
  exact ⟨by kernel_rfl, by kernel_rfl⟩
theorem e (fuel : Nat) (p0 : Bool) : runF Try.prog X I 0 fuel 76 Try.f76 [.d (.bool p0)] =
  (bif p0 then
  some ([.one ((.int .i64 1), false)], [])
  else
  some ([.one ((.int .i64 0), false)], [])) := by kernel_rfl
end spec_toInt
theorem spec_toInt.ok_of (hX : ∀ E ∈ spec_toInt.X, CallSpec Try.prog E) (h : ∀ (b : Bool), (true) = true → ∃ fuel, runF Try.prog spec_toInt.X spec_toInt.I 0 fuel 76 Try.f76 [.d (.bool b)] = some ([.one ((.int .i64 (tInt b)), false)], [])) : CallSpec Try.prog spec_toInt.E :=
  callSpec_of (d := 0) hX (by kernel_rfl) spec_toInt.I_ok (by kernel_rfl) (by kernel_rfl) (by kernel_rfl) (fun _ _ _ _ h => by dsimp only [spec_toInt.E] at h; cases h) (fun xs hp => by
    dsimp only [spec_toInt.E] at hp ⊢
    split at hp
    · exact h _ hp
    · cases hp)
theorem spec_toInt.ok : CallSpec Try.prog spec_toInt.E := spec_toInt.ok_of (by simp [spec_toInt.X]) fun b _ => ⟨0, by rw [spec_toInt.e]; cases b <;> rfl⟩

namespace spec_modulo
noncomputable def E : Entry := ⟨92, true, false, fun | [.d (.int .i64 a), .d (.int .i64 b)] => decide (0 < b) | _ => false, fun | [.d (.int .i64 a), .d (.int .i64 b)] => ([.one ((.int .i64 (modV a b)), false)], []) | _ => ([], []), fun _ => [], false, fun _ => none⟩
end spec_modulo
namespace spec_modulo
noncomputable def X : List Entry := []
noncomputable def I : List Inl := [⟨92, Try.f92, ⟨[], [], [], [], [], []⟩⟩]
theorem I_ok : ∀ i ∈ I, Try.prog.funcs[i.f]? = some i.fn ∧ (i.fn.name == "runtime.NumGoroutine") = false := by
  intro i hi
  simp only [I, List.mem_cons, List.not_mem_nil, or_false] at hi
  subst hi
  exact ⟨by kernel_rfl, by kernel_rfl⟩
theorem e (fuel : Nat) (p0 : Int) (p1 : Int) : runF Try.prog X I 0 fuel 92 Try.f92 [.d (.int .i64 p0), .d (.int .i64 p1)] =
  (bif decide ((p1 : Int) = 0) then
  none
  else
  (bif decide ((p1 : Int) = 0) then
  none
  else
  some ([.one ((.int .i64 (Int.tmod (IntKind.wrap .i64 ((Int.tmod p0 p1) + p1)) p1)), false)], []))) := by kernel_rfl
end spec_modulo
theorem spec_modulo.ok_of (hX : ∀ E ∈ spec_modulo.X, CallSpec Try.prog E) (h : ∀ (a : Int) (b : Int), (decide (0 < b)) = true → ∃ fuel, runF Try.prog spec_modulo.X spec_modulo.I 0 fuel 92 Try.f92 [.d (.int .i64 a), .d (.int .i64 b)] = some ([.one ((.int .i64 (modV a b)), false)], [])) : CallSpec Try.prog spec_modulo.E :=
  callSpec_of (d := 0) hX (by kernel_rfl) spec_modulo.I_ok (by kernel_rfl) (by kernel_rfl) (by kernel_rfl) (fun _ _ _ _ h => by dsimp only [spec_modulo.E] at h; cases h) (fun xs hp => by
    dsimp only [spec_modulo.E] at hp ⊢
    split at hp
    · exact h _ _ hp
    · cases hp)
theorem spec_modulo.ok : CallSpec Try.prog spec_modulo.E := spec_modulo.ok_of (by simp [spec_modulo.X]) fun a b h => ⟨0, by
  have := of_decide_eq_true h
  rw [spec_modulo.e, decide_eq_false (p := b = 0) (by omega)]
  rfl⟩

namespace spec_operate
noncomputable def E : Entry := ⟨53, true, false, fun | [.d (.int .i64 op), .d (.int .i64 a), .d (.int .i64 b)] => true | _ => false, fun | [.d (.int .i64 op), .d (.int .i64 a), .d (.int .i64 b)] => ([.one ((.int .i64 (operF op a b)), false)], []) | _ => ([], []), fun _ => [], false, fun _ => none⟩
end spec_operate
namespace spec_operate
noncomputable def X : List Entry := [spec_limit.E, spec_toInt.E, spec_modulo.E]
noncomputable def I : List Inl := [⟨53, Try.f53, ⟨[], [], [], [], [], []⟩⟩]
theorem I_ok : ∀ i ∈ I, Try.prog.funcs[i.f]? = some i.fn ∧ (i.fn.name == "runtime.NumGoroutine") = false := by
  intro i hi
  simp only [I, List.mem_cons, List.not_mem_nil, or_false] at hi
  subst hi
  exact ⟨by kernel_rfl, by kernel_rfl⟩
theorem e (fuel : Nat) (p0 : Int) (p1 : Int) (p2 : Int) : runF Try.prog X I 0 fuel 53 Try.f53 [.d (.int .i64 p0), .d (.int .i64 p1), .d (.int .i64 p2)] =
  (bif ((p0 : Int) == 1) then
  some ([.one ((.int .i64 (limV ((IntKind.wrap .i64 (p1 + p2))))), false)], [])
  else
  (bif ((p0 : Int) == 2) then
  some ([.one ((.int .i64 (limV ((IntKind.wrap .i64 (p1 - p2))))), false)], [])
  else
  (bif ((p0 : Int) == 3) then
  some ([.one ((.int .i64 (limV ((IntKind.wrap .i64 (p1 * p2))))), false)], [])
  else
  (bif ((p0 : Int) == 4) then
  some ([.one ((.int .i64 (minI p1 p2)), false)], [])
  else
  (bif ((p0 : Int) == 5) then
  some ([.one ((.int .i64 (maxI p1 p2)), false)], [])
  else
  (bif ((p0 : Int) == 6) then
  some ([.one ((.int .i64 (tInt (((p1 : Int) == p2)))), false)], [])
  else
  (bif ((p0 : Int) == 7) then
  some ([.one ((.int .i64 (tInt ((decide ((p1 : Int) < p2))))), false)], [])
  else
  (bif (decide ((p1 : Int) ≤ 0)) then
  some ([.one ((.int .i64 p2), false)], [])
  else
  (bif decide (0 < p1) then
  some ([.one ((.int .i64 (modV p2 p1)), false)], [])
  else
  none))))))))) := by kernel_rfl
end spec_operate
theorem spec_operate.ok_of (hX : ∀ E ∈ spec_operate.X, CallSpec Try.prog E) (h : ∀ (op : Int) (a : Int) (b : Int), (true) = true → ∃ fuel, runF Try.prog spec_operate.X spec_operate.I 0 fuel 53 Try.f53 [.d (.int .i64 op), .d (.int .i64 a), .d (.int .i64 b)] = some ([.one ((.int .i64 (operF op a b)), false)], [])) : CallSpec Try.prog spec_operate.E :=
  callSpec_of (d := 0) hX (by kernel_rfl) spec_operate.I_ok (by kernel_rfl) (by kernel_rfl) (by kernel_rfl) (fun _ _ _ _ h => by dsimp only [spec_operate.E] at h; cases h) (fun xs hp => by
    dsimp only [spec_operate.E] at hp ⊢
    split at hp
    · exact h _ _ _ hp
    · cases hp)
theorem spec_operate.ok : CallSpec Try.prog spec_operate.E := spec_operate.ok_of (by simp [spec_operate.X, spec_limit.ok, spec_toInt.ok, spec_modulo.ok]) fun op a b _ => ⟨0, by
  rw [spec_operate.e]
  unfold operF restV
  by_cases h : a ≤ 0
  · rw [decide_eq_true h]
    cases op == 1 <;> cases op == 2 <;> cases op == 3 <;> cases op == 4 <;> cases op == 5 <;> cases op == 6 <;> cases op == 7 <;> rfl
  · rw [decide_eq_false h, decide_eq_true (p := 0 < a) (by omega)]
    cases op == 1 <;> cases op == 2 <;> cases op == 3 <;> cases op == 4 <;> cases op == 5 <;> cases op == 6 <;> cases op == 7 <;> rfl⟩

namespace spec_NeighboursOf
noncomputable def E : Entry := ⟨21, false, false, fun | [.d (.int .i64 op), .d (.agg [(.ints .i64 sh), (.ints .i64 da)])] => decide (sh.length < 9223372036854775808) && decide (da.length < 9223372036854775808) | _ => false, fun | [.d (.int .i64 op), .d (.agg [(.ints .i64 sh), (.ints .i64 da)])] => ([.agg [((.ints .i64 (nbS op sh da)), true), ((.ints .i64 (nbD op sh da)), true)], .one ((.bool (nbB op sh da)), false)], []) | _ => ([], []), fun _ => [], true, fun _ => none⟩
end spec_NeighboursOf
namespace spec_NeighboursOf
noncomputable def X : List Entry := [spec_isVector.E, spec_validOp.E, spec_operate.E, spec_vector.E]
noncomputable def I : List Inl := [⟨21, Try.f21, ⟨[48], [(1000005, [1, 2, 5, 8, 9, 10, 11, 12, 13, 14, 15, 16, 17, 18, 19, 20, 21, 22, 23, 24, 25, 26, 27, 28, 29, 30, 31, 32, 33, 34, 35, 36, 37, 38, 39, 40, 41, 42, 43, 44, 45, 46, 47, 48])], [], [(7, [0, 1, 2, 4, 5, 8, 10, 3, 6, 7, 9, 11, 12, 13, 14, 15, 16])], [], []⟩⟩]
theorem I_ok : ∀ i ∈ I, Try.prog.funcs[i.f]? = some i.fn ∧ (i.fn.name == "runtime.NumGoroutine") = false := by
  intro i hi
  simp only [I, List.mem_cons, List.not_mem_nil, or_false] at hi
  subst hi
  exact ⟨by kernel_rfl, by kernel_rfl⟩
noncomputable abbrev L0 (fuel n : Nat) (s : St) (k : Kont) := lAt Try.prog X I fuel true 0 false 21 (bodyOf Try.f21) [1, 1, 1, 0, 1, 0] n s k
noncomputable abbrev k0  (fuel : Nat) : Kont := (kAt Try.prog X I fuel true 0 false 21 (bodyOf Try.f21) [1, 1, 1, 0, 1, 0] [] (endK Try.prog Try.f21))
noncomputable def t0 (p0 : Int) (p1q0 : List Int) (p1q1 : List Int) (x0q1 : Int) (x0q4 : List Int) : St := ⟨[(.imm (.int .i64 p0)), .dead, .dead, (.ptr 1000000000 0 0), (.ptr 1000000001 0 0), .dead, (.all 1000000002 1), (.imm (.int .i64 x0q1)), .dead, .dead, .dead, .dead, .dead, .dead, .dead, .dead, .dead, .dead, .dead, .dead, .dead, .dead, .dead, .dead, .dead, .dead, .dead, .dead, .dead, .dead, .dead, .dead, .dead, .dead, .dead, .dead, .dead, .dead, .dead, .dead, .dead, .dead, .dead, .dead, .dead, .dead, .dead, .dead, .dead], hOf [(1000000000, (.box [(.imm (.ints .i64 p1q0)), (.imm (.ints .i64 p1q1))])), (1000000001, (.box [(.imm .nils), (.imm .nils)])), (1000000002, (.ints .i64 x0q4))], [], []⟩
theorem e (fuel : Nat) (p0 : Int) (p1q0 : List Int) (p1q1 : List Int) : runF Try.prog X I 0 fuel 21 Try.f21 [.d (.int .i64 p0), .d (.agg [(.ints .i64 p1q0), (.ints .i64 p1q1)])] =
  (bif decide (p1q0.length < 9223372036854775808) && decide (p1q1.length < 9223372036854775808) then
  (bif (!(vcB p1q0 p1q1)) then
  some ([.agg [((.ints .i64 []), true), ((.ints .i64 []), true)], .one ((.bool false), false)], [])
  else
  (bif (!(opOk p0)) then
  some ([.agg [((.ints .i64 []), true), ((.ints .i64 []), true)], .one ((.bool false), false)], [])
  else
  (bif ((((p1q1.length : Nat) : Int) : Int) == 0) then
  some ([.agg [((.ints .i64 []), true), ((.ints .i64 []), true)], .one ((.bool false), false)], [])
  else
  L0 fuel fuel (t0 p0 p1q0 p1q1 1 ([])) (k0  fuel))))
  else
  none) := by kernel_rfl
theorem s0 (fuel n0 : Nat) (p0 : Int) (p1q0 : List Int) (p1q1 : List Int) (x0q1 : Int) (x0q4 : List Int) : L0 fuel (n0 + 1) (t0 p0 p1q0 p1q1 x0q1 x0q4) (k0  fuel) =
  (bif (decide ((x0q1 : Int) < ((p1q1.length : Nat) : Int))) then
  (idx (IntKind.wrap .i64 (x0q1 - 1)) p1q1.length).bind fun j9 =>
  (p1q1[j9]?).bind fun v10 =>
  (idx x0q1 p1q1.length).bind fun j11 =>
  (p1q1[j11]?).bind fun v12 =>
  (bif fits (x0q4.length + ([(operF p0 v10 v12)] : List Int).length) 8 then
  L0 fuel n0 (t0 p0 p1q0 p1q1 ((IntKind.wrap .i64 (x0q1 + 1))) ((x0q4 ++ [(operF p0 v10 v12)]))) (k0  fuel)
  else
  none)
  else
  (bif szB x0q4 then
  some ([.agg [((.ints .i64 [((x0q4.length : Nat) : Int)]), true), ((.ints .i64 x0q4), true)], .one ((.bool true), false)], [])
  else
  none)) := by kernel_rfl
end spec_NeighboursOf
theorem spec_NeighboursOf.ok_of (hX : ∀ E ∈ spec_NeighboursOf.X, CallSpec Try.prog E) (h : ∀ (op : Int) (sh : List Int) (da : List Int), (decide (sh.length < 9223372036854775808) && decide (da.length < 9223372036854775808)) = true → ∃ fuel, runF Try.prog spec_NeighboursOf.X spec_NeighboursOf.I 0 fuel 21 Try.f21 [.d (.int .i64 op), .d (.agg [(.ints .i64 sh), (.ints .i64 da)])] = some ([.agg [((.ints .i64 (nbS op sh da)), true), ((.ints .i64 (nbD op sh da)), true)], .one ((.bool (nbB op sh da)), false)], [])) : CallSpec Try.prog spec_NeighboursOf.E :=
  callSpec_of (d := 0) hX (by kernel_rfl) spec_NeighboursOf.I_ok (by kernel_rfl) (by kernel_rfl) (by kernel_rfl) (fun _ _ _ _ h => by dsimp only [spec_NeighboursOf.E] at h; cases h) (fun xs hp => by
    dsimp only [spec_NeighboursOf.E] at hp ⊢
    split at hp
    · exact h _ _ _ hp
    · cases hp)
theorem spec_NeighboursOf.ok : CallSpec Try.prog spec_NeighboursOf.E := spec_NeighboursOf.ok_of (by simp [spec_NeighboursOf.X, spec_isVector.ok, spec_validOp.ok, spec_operate.ok, spec_vector.ok]) fun op sh da h => by
  obtain ⟨F, hF⟩ : ∃ F : Nat, 100 < F := ⟨101, by omega⟩
  refine ⟨F, ?_⟩
  rw [spec_NeighboursOf.e, h, cond_true]
  unfold nbS nbD nbB
  cases hb : vcB sh da with
  | false => cases opOk op <;> rfl
  | true =>
    cases ho : opOk op with
    | false => rfl
    | true =>
      obtain ⟨_, _, hl, _⟩ := vcB_inv hb
      by_cases h0 : 0 < da.length
      · rw [decide_eq_true h0, beq0 (by omega)]
        simp only [Bool.and_self, Bool.not_true, cond_false, cond_true]
        refine run_loop (N := da.length - 1) (fun m j out => spec_NeighboursOf.L0 F m (spec_NeighboursOf.t0 op sh da ((j + 1 : Nat) : Int) out) (spec_NeighboursOf.k0 F)) (fun j out => out = tab j fun i => operF op (da.getD i 0) (da.getD (i + 1) 0)) ?_ ?_ F 0 [] (by omega) (by omega) rfl
        · rintro m out rfl
          rw [spec_NeighboursOf.s0, dge (by omega), cond_false, szB_of (by rw [tab_length]; omega), tab_length]
          rfl
        · rintro m j out hj rfl
          rw [spec_NeighboursOf.s0, dlt (by omega), cond_true, show IntKind.wrap .i64 (((j + 1 : Nat) : Int) - 1) = (j : Int) by rw [wS (by omega) (by omega)]; omega, idx_nat (j := j) (by omega), idx_nat (j := j + 1) (by omega), w1 (by omega)]
          simp only [Option.bind_some, getD_get (show j < da.length by omega), getD_get (show j + 1 < da.length by omega)]
          rw [fitsOk (by rw [tab_length]; simp only [List.length_cons, List.length_nil]; omega), cond_true]
          exact ⟨_, by rw [tab_succ], rfl⟩
      · have e0 : ((((da.length : Nat) : Int) : Int) == 0) = true := by rw [beq_iff_eq]; omega
        rw [decide_eq_false h0, e0]; rfl

namespace laws_equalInts
noncomputable def E : Entry := ⟨18, true, false, fun | [.d (.ints .i64 xs), .d (.ints .i64 ys)] => decide (xs.length < 9223372036854775808) && decide (ys.length < 9223372036854775808) | _ => false, fun | [.d (.ints .i64 xs), .d (.ints .i64 ys)] => ([.one ((.bool (decide (xs = ys))), false)], []) | _ => ([], []), fun _ => [], false, fun _ => none⟩
end laws_equalInts
namespace laws_equalInts
noncomputable def X : List Entry := []
noncomputable def I : List Inl := [⟨18, Try.f18, ⟨[], [(1000004, [2, 3, 4, 6, 7, 8, 9, 10, 11, 12, 13, 14, 15, 16, 17, 18, 19, 20, 21, 22, 23, 24, 25])], [], [(6, [0, 1, 4, 5, 2, 3, 6, 7, 8])], [], []⟩⟩]
theorem I_ok : ∀ i ∈ I, Try.prog.funcs[i.f]? = some i.fn ∧ (i.fn.name == "runtime.NumGoroutine") = false := by
  intro i hi
  simp only [I, List.mem_cons, List.not_mem_nil, or_false] at hi
  subst hi
  exact ⟨by kernel_rfl, by kernel_rfl⟩
noncomputable abbrev L0 (fuel n : Nat) (s : St) (k : Kont) := lAt Try.prog X I fuel true 0 false 18 (bodyOf Try.f18) [1, 1, 0, 1, 0] n s k
noncomputable abbrev k0  (fuel : Nat) : Kont := (kAt Try.prog X I fuel true 0 false 18 (bodyOf Try.f18) [1, 1, 0, 1, 0] [] (endK Try.prog Try.f18))
noncomputable def t0 (p0 : List Int) (p1 : List Int) (x0q2 : Int) : St := ⟨[(.imm (.ints .i64 p0)), (.imm (.ints .i64 p1)), .dead, .dead, .dead, (.imm (.int .i64 x0q2)), .dead, .dead, .dead, .dead, .dead, .dead, .dead, .dead, .dead, .dead, .dead, .dead, .dead, .dead, .dead, .dead, .dead, .dead, .dead, .dead], hOf [], [], []⟩
theorem e (fuel : Nat) (p0 : List Int) (p1 : List Int) : runF Try.prog X I 0 fuel 18 Try.f18 [.d (.ints .i64 p0), .d (.ints .i64 p1)] =
  (bif ((((p0.length : Nat) : Int) : Int) != ((p1.length : Nat) : Int)) then
  some ([.one ((.bool false), false)], [])
  else
  L0 fuel fuel (t0 p0 p1 0) (k0  fuel)) := by kernel_rfl
theorem s0 (fuel n0 : Nat) (p0 : List Int) (p1 : List Int) (x0q2 : Int) : L0 fuel (n0 + 1) (t0 p0 p1 x0q2) (k0  fuel) =
  (bif (decide ((x0q2 : Int) < ((p0.length : Nat) : Int))) then
  (idx x0q2 p0.length).bind fun j9 =>
  (p0[j9]?).bind fun v10 =>
  (idx x0q2 p1.length).bind fun j11 =>
  (p1[j11]?).bind fun v12 =>
  (bif ((v10 : Int) != v12) then
  some ([.one ((.bool false), false)], [])
  else
  L0 fuel n0 (t0 p0 p1 ((IntKind.wrap .i64 (x0q2 + 1)))) (k0  fuel))
  else
  some ([.one ((.bool true), false)], [])) := by kernel_rfl
end laws_equalInts
theorem laws_equalInts.ok_of (hX : ∀ E ∈ laws_equalInts.X, CallSpec Try.prog E) (h : ∀ (xs : List Int) (ys : List Int), (decide (xs.length < 9223372036854775808) && decide (ys.length < 9223372036854775808)) = true → ∃ fuel, runF Try.prog laws_equalInts.X laws_equalInts.I 0 fuel 18 Try.f18 [.d (.ints .i64 xs), .d (.ints .i64 ys)] = some ([.one ((.bool (decide (xs = ys))), false)], [])) : CallSpec Try.prog laws_equalInts.E :=
  callSpec_of (d := 0) hX (by kernel_rfl) laws_equalInts.I_ok (by kernel_rfl) (by kernel_rfl) (by kernel_rfl) (fun _ _ _ _ h => by dsimp only [laws_equalInts.E] at h; cases h) (fun xs hp => by
    dsimp only [laws_equalInts.E] at hp ⊢
    split at hp
    · exact h _ _ hp
    · cases hp)
theorem laws_equalInts.loop (fuel : Nat) (xs ys : List Int) (hl : xs.length = ys.length) (hx : xs.length < 9223372036854775808) : ∀ (m n j : Nat), xs.length - j = m → m < n → j ≤ xs.length →
    laws_equalInts.L0 fuel n (laws_equalInts.t0 xs ys (j : Int)) (laws_equalInts.k0 fuel) = some ([.one (.bool (decide (xs.drop j = ys.drop j)), false)], []) := by
  intro m
  induction m with
  | zero =>
    intro n j h1 h2 h3
    obtain ⟨n, rfl⟩ : ∃ n', n = n' + 1 := ⟨n - 1, by omega⟩
    have hj : ¬ j < xs.length := by omega
    rw [laws_equalInts.s0, dge hj, dropE hj, dropE (xs := ys) (by omega)]
    rfl
  | succ m ih =>
    intro n j h1 h2 h3
    obtain ⟨n, rfl⟩ : ∃ n', n = n' + 1 := ⟨n - 1, by omega⟩
    have hj : j < xs.length := by omega
    have hj2 : j < ys.length := by omega
    rw [laws_equalInts.s0, dlt hj, idx_nat hj, idx_nat hj2, w1 (by omega), dropS hj, dropS hj2]
    simp only [cond_true, Option.bind_some, getS hj, getS hj2]
    rw [ih n (j + 1) (by omega) (by omega) (by omega)]
    by_cases hv : xs[j] = ys[j]
    · rw [hv]
      simp only [bne_self_eq_false, cond_false, List.cons.injEq, true_and]
    · have : (xs[j] != ys[j]) = true := by simp [hv]
      rw [this]
      simp only [cond_true, List.cons.injEq, hv, false_and, decide_false]

theorem laws_equalInts.ok : CallSpec Try.prog laws_equalInts.E := laws_equalInts.ok_of (by simp [laws_equalInts.X]) fun xs ys h => by
  simp only [Bool.and_eq_true, decide_eq_true_eq] at h
  refine ⟨xs.length + 1, ?_⟩
  rw [laws_equalInts.e]
  by_cases hl : xs.length = ys.length
  · have := laws_equalInts.loop (xs.length + 1) xs ys hl h.1 xs.length (xs.length + 1) 0 (by omega) (by omega) (by omega)
    simp only [List.drop_zero] at this
    simp only [hl, bne_self_eq_false, cond_false]
    rw [← hl]
    exact this
  · have hne : xs ≠ ys := fun e => hl (e ▸ rfl)
    have : (((xs.length : Nat) : Int) != ((ys.length : Nat) : Int)) = true := by simp; omega
    rw [this]
    simp [hne]

namespace laws_equalArray
noncomputable def E : Entry := ⟨12, true, false, fun | [.d (.agg [(.ints .i64 sa), (.ints .i64 da)]), .d (.agg [(.ints .i64 sb), (.ints .i64 db)])] => decide (sa.length < 9223372036854775808) && decide (da.length < 9223372036854775808) && decide (sb.length < 9223372036854775808) && decide (db.length < 9223372036854775808) | _ => false, fun | [.d (.agg [(.ints .i64 sa), (.ints .i64 da)]), .d (.agg [(.ints .i64 sb), (.ints .i64 db)])] => ([.one ((.bool (decide (sa = sb) && decide (da = db))), false)], []) | _ => ([], []), fun _ => [], false, fun _ => none⟩
end laws_equalArray
namespace laws_equalArray
noncomputable def X : List Entry := [laws_equalInts.E]
noncomputable def I : List Inl := [⟨12, Try.f12, ⟨[], [], [], [], [], []⟩⟩]
theorem I_ok : ∀ i ∈ I, Try.prog.funcs[i.f]? = some i.fn ∧ (i.fn.name == "runtime.NumGoroutine") = false := by
  intro i hi
  simp only [I, List.mem_cons, List.not_mem_nil, or_false] at hi
  subst hi
  exact ⟨by kernel_rfl, by kernel_rfl⟩
theorem e (fuel : Nat) (p0q0 : List Int) (p0q1 : List Int) (p1q0 : List Int) (p1q1 : List Int) : runF Try.prog X I 0 fuel 12 Try.f12 [.d (.agg [(.ints .i64 p0q0), (.ints .i64 p0q1)]), .d (.agg [(.ints .i64 p1q0), (.ints .i64 p1q1)])] =
  (bif decide (p0q0.length < 9223372036854775808) && decide (p1q0.length < 9223372036854775808) then
  (bif (decide (p0q0 = p1q0)) then
  (bif decide (p0q1.length < 9223372036854775808) && decide (p1q1.length < 9223372036854775808) then
  some ([.one ((.bool (decide (p0q1 = p1q1))), false)], [])
  else
  none)
  else
  some ([.one ((.bool false), false)], []))
  else
  none) := by kernel_rfl
end laws_equalArray
theorem laws_equalArray.ok_of (hX : ∀ E ∈ laws_equalArray.X, CallSpec Try.prog E) (h : ∀ (sa : List Int) (da : List Int) (sb : List Int) (db : List Int), (decide (sa.length < 9223372036854775808) && decide (da.length < 9223372036854775808) && decide (sb.length < 9223372036854775808) && decide (db.length < 9223372036854775808)) = true → ∃ fuel, runF Try.prog laws_equalArray.X laws_equalArray.I 0 fuel 12 Try.f12 [.d (.agg [(.ints .i64 sa), (.ints .i64 da)]), .d (.agg [(.ints .i64 sb), (.ints .i64 db)])] = some ([.one ((.bool (decide (sa = sb) && decide (da = db))), false)], [])) : CallSpec Try.prog laws_equalArray.E :=
  callSpec_of (d := 0) hX (by kernel_rfl) laws_equalArray.I_ok (by kernel_rfl) (by kernel_rfl) (by kernel_rfl) (fun _ _ _ _ h => by dsimp only [laws_equalArray.E] at h; cases h) (fun xs hp => by
    dsimp only [laws_equalArray.E] at hp ⊢
    split at hp
    · exact h _ _ _ _ hp
    · cases hp)
theorem laws_equalArray.ok : CallSpec Try.prog laws_equalArray.E := laws_equalArray.ok_of (by simp [laws_equalArray.X, laws_equalInts.ok]) fun sa da sb db h => ⟨0, by
  simp only [Bool.and_eq_true, decide_eq_true_eq] at h
  obtain ⟨⟨⟨h1, h2⟩, h3⟩, h4⟩ := h
  rw [laws_equalArray.e]
  simp only [h1, h2, h3, h4, decide_true, Bool.and_self, cond_true]
  cases decide (sa = sb) <;> cases decide (da = db) <;> rfl⟩

namespace impl_axisLength
noncomputable def E : Entry := ⟨45, true, false, fun | [.d (.agg [(.ints .i64 sh), (.ints .i64 da)]), .d (.int .i64 k)] => decide (sh.length < 9223372036854775808) && decide (da.length < 9223372036854775808) | _ => false, fun | [.d (.agg [(.ints .i64 sh), (.ints .i64 da)]), .d (.int .i64 k)] => ([.one ((.int .i64 (axL sh da k)), false), .one ((.bool (axB sh da k)), false)], []) | _ => ([], []), fun _ => [], false, fun _ => none⟩
end impl_axisLength
namespace impl_axisLength
noncomputable def X : List Entry := [impl_ValidArray.E]
noncomputable def I : List Inl := [⟨45, Try.f45, ⟨[], [], [], [], [], []⟩⟩]
theorem I_ok : ∀ i ∈ I, Try.prog.funcs[i.f]? = some i.fn ∧ (i.fn.name == "runtime.NumGoroutine") = false := by
  intro i hi
  simp only [I, List.mem_cons, List.not_mem_nil, or_false] at hi
  subst hi
  exact ⟨by kernel_rfl, by kernel_rfl⟩
theorem e (fuel : Nat) (p0q0 : List Int) (p0q1 : List Int) (p1 : Int) : runF Try.prog X I 0 fuel 45 Try.f45 [.d (.agg [(.ints .i64 p0q0), (.ints .i64 p0q1)]), .d (.int .i64 p1)] =
  (bif decide (p0q0.length < 9223372036854775808) && decide (p0q1.length < 9223372036854775808) then
  (bif (!(validA p0q0 p0q1)) then
  some ([.one ((.int .i64 0), false), .one ((.bool false), false)], [])
  else
  (bif (decide ((p1 : Int) < 0)) then
  some ([.one ((.int .i64 0), false), .one ((.bool false), false)], [])
  else
  (bif (decide ((p1 : Int) ≥ ((p0q0.length : Nat) : Int))) then
  some ([.one ((.int .i64 0), false), .one ((.bool false), false)], [])
  else
  (idx p1 p0q0.length).bind fun j1 =>
  (p0q0[j1]?).bind fun v2 =>
  some ([.one ((.int .i64 v2), false), .one ((.bool true), false)], []))))
  else
  none) := by kernel_rfl
end impl_axisLength
theorem impl_axisLength.ok_of (hX : ∀ E ∈ impl_axisLength.X, CallSpec Try.prog E) (h : ∀ (sh : List Int) (da : List Int) (k : Int), (decide (sh.length < 9223372036854775808) && decide (da.length < 9223372036854775808)) = true → ∃ fuel, runF Try.prog impl_axisLength.X impl_axisLength.I 0 fuel 45 Try.f45 [.d (.agg [(.ints .i64 sh), (.ints .i64 da)]), .d (.int .i64 k)] = some ([.one ((.int .i64 (axL sh da k)), false), .one ((.bool (axB sh da k)), false)], [])) : CallSpec Try.prog impl_axisLength.E :=
  callSpec_of (d := 0) hX (by kernel_rfl) impl_axisLength.I_ok (by kernel_rfl) (by kernel_rfl) (by kernel_rfl) (fun _ _ _ _ h => by dsimp only [impl_axisLength.E] at h; cases h) (fun xs hp => by
    dsimp only [impl_axisLength.E] at hp ⊢
    split at hp
    · exact h _ _ _ hp
    · cases hp)
theorem impl_axisLength.ok : CallSpec Try.prog impl_axisLength.E := impl_axisLength.ok_of (by simp [impl_axisLength.X, impl_ValidArray.ok]) fun sh da k h => ⟨0, by
  rw [impl_axisLength.e, h]
  unfold axL axB
  cases hv : validA sh da with
  | false => rfl
  | true =>
    by_cases h0 : k < 0
    · rw [decide_eq_true h0, show axOk sh k = false by simp [axOk]; omega]; rfl
    by_cases h1 : k ≥ ((sh.length : Nat) : Int)
    · rw [decide_eq_false h0, decide_eq_true h1, show axOk sh k = false by simp [axOk]; omega]; rfl
    obtain ⟨j, rfl⟩ : ∃ j : Nat, k = j := ⟨k.toNat, by omega⟩
    have hj : j < sh.length := by omega
    rw [decide_eq_false h0, decide_eq_false h1, show axOk sh j = true by simp [axOk]; omega, idx_nat hj]
    simp [hj]⟩

namespace impl_isCount
noncomputable def E : Entry := ⟨58, true, false, fun | [.d (.int .i64 n)] => true | _ => false, fun | [.d (.int .i64 n)] => ([.one ((.bool (cntB n)), false)], []) | _ => ([], []), fun _ => [], false, fun _ => none⟩
end impl_isCount
namespace impl_isCount
noncomputable def X : List Entry := []
noncomputable def I : List Inl := [⟨58, Try.f58, ⟨[], [], [], [], [], []⟩⟩]
theorem I_ok : ∀ i ∈ I, Try.prog.funcs[i.f]? = some i.fn ∧ (i.fn.name == "runtime.NumGoroutine") = false := by
  intro i hi
  simp only [I, List.mem_cons, List.not_mem_nil, or_false] at hi
  subst hi
  exact ⟨by kernel_rfl, by kernel_rfl⟩
theorem e (fuel : Nat) (p0 : Int) : runF Try.prog X I 0 fuel 58 Try.f58 [.d (.int .i64 p0)] =
  (bif (decide (((-60) : Int) ≤ p0)) then
  some ([.one ((.bool (decide ((p0 : Int) ≤ 60))), false)], [])
  else
  some ([.one ((.bool false), false)], [])) := by kernel_rfl
end impl_isCount
theorem impl_isCount.ok_of (hX : ∀ E ∈ impl_isCount.X, CallSpec Try.prog E) (h : ∀ (n : Int), (true) = true → ∃ fuel, runF Try.prog impl_isCount.X impl_isCount.I 0 fuel 58 Try.f58 [.d (.int .i64 n)] = some ([.one ((.bool (cntB n)), false)], [])) : CallSpec Try.prog impl_isCount.E :=
  callSpec_of (d := 0) hX (by kernel_rfl) impl_isCount.I_ok (by kernel_rfl) (by kernel_rfl) (by kernel_rfl) (fun _ _ _ _ h => by dsimp only [impl_isCount.E] at h; cases h) (fun xs hp => by
    dsimp only [impl_isCount.E] at hp ⊢
    split at hp
    · exact h _ hp
    · cases hp)
theorem impl_isCount.ok : CallSpec Try.prog impl_isCount.E := impl_isCount.ok_of (by simp [impl_isCount.X]) fun n _ => ⟨0, by
  rw [impl_isCount.e]
  unfold cntB
  cases decide (-60 ≤ n) <;> rfl⟩

namespace impl_DropAxis_1
noncomputable def E : Entry := ⟨59, true, false, fun | [.d (.int .i64 i), .d (.pbox [(.int .i64 c)])] => true | _ => false, fun | [.d (.int .i64 i), .d (.pbox [(.int .i64 c)])] => ([.one ((.int .i64 (addI c i)), false)], []) | _ => ([], []), fun _ => [], false, fun | [(.pbox [(.int .i64 c)])] => some (false, q1, (q1v (addI c))) | _ => none⟩
end impl_DropAxis_1
namespace impl_DropAxis_1
noncomputable def X : List Entry := []
noncomputable def I : List Inl := [⟨59, Try.f59, ⟨[], [], [], [], [], []⟩⟩]
theorem I_ok : ∀ i ∈ I, Try.prog.funcs[i.f]? = some i.fn ∧ (i.fn.name == "runtime.NumGoroutine") = false := by
  intro i hi
  simp only [I, List.mem_cons, List.not_mem_nil, or_false] at hi
  subst hi
  exact ⟨by kernel_rfl, by kernel_rfl⟩
theorem e (fuel : Nat) (p0 : Int) (f0q0 : Int) : runF Try.prog X I 0 fuel 59 Try.f59 [.d (.int .i64 p0), .d (.pbox [(.int .i64 f0q0)])] =
  some ([.one ((.int .i64 (IntKind.wrap .i64 (f0q0 + p0))), false)], []) := by kernel_rfl
end impl_DropAxis_1
theorem impl_DropAxis_1.ok_of (hX : ∀ E ∈ impl_DropAxis_1.X, CallSpec Try.prog E) (hfn : ∀ ds rb dom G, impl_DropAxis_1.E.fnOf ds = some (rb, dom, G) → ∀ qs, dom qs = true → impl_DropAxis_1.E.m ((qs.map fun q => .d q.d) ++ ds.map .d) = some ([.one (fnD rb (G qs), false)], [])) (h : ∀ (i : Int) (c : Int), (true) = true → ∃ fuel, runF Try.prog impl_DropAxis_1.X impl_DropAxis_1.I 0 fuel 59 Try.f59 [.d (.int .i64 i), .d (.pbox [(.int .i64 c)])] = some ([.one ((.int .i64 (addI c i)), false)], [])) : CallSpec Try.prog impl_DropAxis_1.E :=
  callSpec_of (d := 0) hX (by kernel_rfl) impl_DropAxis_1.I_ok (by kernel_rfl) (by kernel_rfl) (by kernel_rfl) hfn (fun xs hp => by
    dsimp only [impl_DropAxis_1.E] at hp ⊢
    split at hp
    · exact h _ _ hp
    · cases hp)
theorem impl_DropAxis_1.ok : CallSpec Try.prog impl_DropAxis_1.E := impl_DropAxis_1.ok_of (by simp [impl_DropAxis_1.X]) (fun ds rb dom G h qs hq => by
  dsimp only [impl_DropAxis_1.E] at h
  split at h
  case h_2 => cases h
  cases h
  match qs, hq with
  | [.i n], _ => rfl) fun i c _ => ⟨0, by rw [impl_DropAxis_1.e]; rfl⟩

namespace impl_absolute
noncomputable def E : Entry := ⟨60, true, false, fun | [.d (.int .i64 n)] => true | _ => false, fun | [.d (.int .i64 n)] => ([.one ((.int .i64 (absV n)), false)], []) | _ => ([], []), fun _ => [], false, fun _ => none⟩
end impl_absolute
namespace impl_absolute
noncomputable def X : List Entry := []
noncomputable def I : List Inl := [⟨60, Try.f60, ⟨[], [], [], [], [], []⟩⟩]
theorem I_ok : ∀ i ∈ I, Try.prog.funcs[i.f]? = some i.fn ∧ (i.fn.name == "runtime.NumGoroutine") = false := by
  intro i hi
  simp only [I, List.mem_cons, List.not_mem_nil, or_false] at hi
  subst hi
  exact ⟨by kernel_rfl, by kernel_rfl⟩
theorem e (fuel : Nat) (p0 : Int) : runF Try.prog X I 0 fuel 60 Try.f60 [.d (.int .i64 p0)] =
  some ([.one ((.int .i64 (maxI p0 (IntKind.wrap .i64 (0 - p0)))), false)], []) := by kernel_rfl
end impl_absolute
theorem impl_absolute.ok_of (hX : ∀ E ∈ impl_absolute.X, CallSpec Try.prog E) (h : ∀ (n : Int), (true) = true → ∃ fuel, runF Try.prog impl_absolute.X impl_absolute.I 0 fuel 60 Try.f60 [.d (.int .i64 n)] = some ([.one ((.int .i64 (absV n)), false)], [])) : CallSpec Try.prog impl_absolute.E :=
  callSpec_of (d := 0) hX (by kernel_rfl) impl_absolute.I_ok (by kernel_rfl) (by kernel_rfl) (by kernel_rfl) (fun _ _ _ _ h => by dsimp only [impl_absolute.E] at h; cases h) (fun xs hp => by
    dsimp only [impl_absolute.E] at hp ⊢
    split at hp
    · exact h _ hp
    · cases hp)
theorem impl_absolute.ok : CallSpec Try.prog impl_absolute.E := impl_absolute.ok_of (by simp [impl_absolute.X]) fun n _ => ⟨0, by rw [impl_absolute.e]; rfl⟩

namespace impl_layoutOf_j
noncomputable def E : Entry := ⟨63, false, false, fun | [.d (.ints .i64 sh)] => decide (sh.length < 9223372036854775808) | _ => false, fun | [.d (.ints .i64 sh)] => ([.agg [(.junk, false), ((.int .i64 0), false), ((.int .i64 0), false), ((.int .i64 0), false), ((.int .i64 0), false)], .one ((.bool false), false)], []) | _ => ([], []), fun | [.d (.ints .i64 sh)] => [(validS sh, ([.agg [(.junk, false), ((.int .i64 (strd sh 0)), false), ((.int .i64 (strd sh 1)), false), ((.int .i64 (strd sh 2)), false), ((.int .i64 (volW sh)), false)], .one ((.bool true), false)], []))] | _ => [], true, fun _ => none⟩
end impl_layoutOf_j
theorem impl_layoutOf_j.ok : CallSpec Try.prog impl_layoutOf_j.E := CallSpec.le impl_layoutOf.ok rfl (fun _ _ _ _ h => by dsimp only [impl_layoutOf_j.E] at h; cases h) fun xs h => by
  dsimp only [impl_layoutOf_j.E] at h
  split at h
  case h_2 => simp at h
  rename_i sh
  refine ⟨h, ?_⟩
  simp only [Entry.r, impl_layoutOf_j.E, impl_layoutOf.E, pickR]
  cases hv : validS sh
  · refine ⟨.agg rfl (fun i h1 h2 => ?_) (.same .nil), rfl⟩
    match i, h1 with
    | 0, _ => exact .inr (.inr (.inl ⟨rfl, _, _, rfl⟩))
    | 1, _ | 2, _ | 3, _ | 4, _ => exact .inl rfl
  · refine ⟨.agg rfl (fun i h1 h2 => ?_) (.same .nil), rfl⟩
    match i, h1 with
    | 0, _ => exact .inr (.inl ⟨rfl, rfl, rfl, rfl⟩)
    | 1, _ | 2, _ | 3, _ | 4, _ => exact .inl rfl

namespace impl_view_copied
noncomputable def E : Entry := ⟨61, false, false, fun | [.d (.agg [(.ints .i64 sh), (.ints .i64 da), (.int .i64 k), (.int .i64 len), (.fn false dom G)])] => axB sh da k && domB len dom | _ => false, fun | [.d (.agg [(.ints .i64 sh), (.ints .i64 da), (.int .i64 k), (.int .i64 len), (.fn false dom G)])] => ([.agg [((.ints .i64 (cpS sh k len)), true), ((.ints .i64 (cpD sh da k len G)), true)], .one ((.bool (cpB sh k len)), false)], []) | _ => ([], []), fun _ => [], true, fun _ => none⟩
end impl_view_copied
namespace impl_view_copied
noncomputable def X : List Entry := [impl_copyList.E, impl_layoutOf_j.E]
noncomputable def I : List Inl := [⟨61, Try.f61, ⟨[17, 26], [(1000009, [0, 3, 5, 6, 10, 11, 12, 13, 14, 15, 16, 17, 18, 19, 20, 21, 22, 23, 24, 25, 26, 27, 28, 29, 30, 31, 32, 33, 34, 35, 36, 37, 38, 39, 40, 41, 42, 43, 44, 45, 46, 47, 50, 51, 52, 53, 54, 55, 56, 57, 58, 59, 60, 61, 62, 63, 64, 65, 66, 67, 68, 69, 70, 71, 72, 73, 74, 75, 76, 77, 78, 79, 80, 81, 82, 83, 84, 85, 86, 87, 88, 89, 90, 91, 92, 93, 94, 95])], [], [(7, [0, 2, 5, 6, 8, 1, 3, 4, 12, 7, 9, 10, 11, 13]), (12, [0, 2, 3, 1, 4, 5, 6, 7]), (14, [0, 1, 2, 3, 5, 6, 9, 11, 13, 15, 4, 7, 8, 10, 12, 14, 16, 17, 18, 19, 20])], [], []⟩⟩]
theorem I_ok : ∀ i ∈ I, Try.prog.funcs[i.f]? = some i.fn ∧ (i.fn.name == "runtime.NumGoroutine") = false := by
  intro i hi
  simp only [I, List.mem_cons, List.not_mem_nil, or_false] at hi
  subst hi
  exact ⟨by kernel_rfl, by kernel_rfl⟩
noncomputable abbrev L0 (fuel n : Nat) (s : St) (k : Kont) := lAt Try.prog X I fuel true 0 false 61 (bodyOf Try.f61) [1, 1, 1, 1, 1, 1, 1, 0, 1, 0] n s k
noncomputable abbrev k0  (fuel : Nat) : Kont := (kAt Try.prog X I fuel true 0 false 61 (bodyOf Try.f61) [1, 1, 1, 1, 1, 1, 1, 0, 1, 0] [] (endK Try.prog Try.f61))
noncomputable def t0 (p0q0 : List Int) (j1 : Nat) (p0q3 : Int) (p0q1 : List Int) (p0q2 : Int) (p0q4d : List Q → Bool) (p0q4g : List Q → Int) (x0q0 : Int) (x0q1 : Int) (x0q3 : Int) (x0q11 : List Int) : St := ⟨[.dead, (.ptr 1000000000 0 0), (.ptr 1000000001 0 0), .dead, (.all 1000000002 1), .dead, .dead, (.all 1000000003 1), (.imm (.int .i64 x0q0)), (.imm (.int .i64 x0q1)), .dead, .dead, .dead, .dead, .dead, .dead, .dead, .dead, .dead, .dead, .dead, .dead, .dead, .dead, .dead, .dead, .dead, .dead, .dead, .dead, .dead, .dead, .dead, .dead, .dead, .dead, .dead, .dead, .dead, .dead, .dead, .dead, .dead, .dead, .dead, .dead, .dead, .dead, (.imm (.int .i64 (((List.replicate ((volW ((p0q0.set j1 p0q3)))).toNat (0 : Int)).length : Nat) : Int))), (.imm (.int .i64 x0q3)), .dead, .dead, .dead, .dead, .dead, .dead, .dead, .dead, .dead, .dead, .dead, .dead, .dead, .dead, .dead, .dead, .dead, .dead, .dead, .dead, .dead, .dead, .dead, .dead, .dead, .dead, .dead, .dead, .dead, .dead, .dead, .dead, .dead, .dead, .dead, .dead, .dead, .dead, .dead, .dead, .dead, .dead, .dead, .dead, .dead, .dead], hOf [(1000000000, (.box [(.imm (.ints .i64 p0q0)), (.imm (.ints .i64 p0q1)), (.imm (.int .i64 p0q2)), (.imm (.int .i64 p0q3)), (.imm (.fn false p0q4d p0q4g))])), (1000000001, (.box [(.imm .nils), (.imm .nils)])), (1000000002, (.ints .i64 (p0q0.set j1 p0q3))), (1000000003, (.ints .i64 x0q11))], [], []⟩
theorem e (fuel : Nat) (p0q0 : List Int) (p0q1 : List Int) (p0q2 : Int) (p0q3 : Int) (p0q4d : List Q → Bool) (p0q4g : List Q → Int) : runF Try.prog X I 0 fuel 61 Try.f61 [.d (.agg [(.ints .i64 p0q0), (.ints .i64 p0q1), (.int .i64 p0q2), (.int .i64 p0q3), (.fn false p0q4d p0q4g)])] =
  (bif szB p0q0 then
  (idx p0q2 p0q0.length).bind fun j1 =>
  (bif decide (j1 < p0q0.length) then
  (bif decide (((p0q0.set j1 p0q3)).length < 9223372036854775808) then
  (bif validS ((p0q0.set j1 p0q3)) then
  (bif decide (0 ≤ ((volW ((p0q0.set j1 p0q3))) : Int)) && decide (((volW ((p0q0.set j1 p0q3))) : Int) ≤ (volW ((p0q0.set j1 p0q3)))) && decide (((volW ((p0q0.set j1 p0q3))) : Int) ≤ 1152921504606846976) && decide (((8 : Nat) : Int) * (volW ((p0q0.set j1 p0q3))) ≤ 281474976710656) then
  (bif decide (p0q2 = ((0 : Nat) : Int)) then
  (idx p0q2 p0q0.length).bind fun j12 =>
  (p0q0[j12]?).bind fun v13 =>
  L0 fuel fuel (t0 p0q0 j1 p0q3 p0q1 p0q2 p0q4d p0q4g ((strd ((p0q0.set j1 p0q3)) 0)) v13 0 ((List.replicate ((volW ((p0q0.set j1 p0q3)))).toNat (0 : Int)))) (k0  fuel)
  else
  (bif decide (p0q2 = ((1 : Nat) : Int)) then
  (idx p0q2 p0q0.length).bind fun j10 =>
  (p0q0[j10]?).bind fun v11 =>
  L0 fuel fuel (t0 p0q0 j1 p0q3 p0q1 p0q2 p0q4d p0q4g ((strd ((p0q0.set j1 p0q3)) 1)) v11 0 ((List.replicate ((volW ((p0q0.set j1 p0q3)))).toNat (0 : Int)))) (k0  fuel)
  else
  (bif decide (p0q2 = ((2 : Nat) : Int)) then
  (idx p0q2 p0q0.length).bind fun j2 =>
  (p0q0[j2]?).bind fun v3 =>
  L0 fuel fuel (t0 p0q0 j1 p0q3 p0q1 p0q2 p0q4d p0q4g ((strd ((p0q0.set j1 p0q3)) 2)) v3 0 ((List.replicate ((volW ((p0q0.set j1 p0q3)))).toNat (0 : Int)))) (k0  fuel)
  else
  none)))
  else
  none)
  else
  some ([.agg [((.ints .i64 []), true), ((.ints .i64 []), true)], .one ((.bool false), false)], []))
  else
  none)
  else
  none)
  else
  none) := by kernel_rfl
theorem s0 (fuel n0 : Nat) (p0q0 : List Int) (j1 : Nat) (p0q3 : Int) (p0q1 : List Int) (p0q2 : Int) (p0q4d : List Q → Bool) (p0q4g : List Q → Int) (x0q0 : Int) (x0q1 : Int) (x0q3 : Int) (x0q11 : List Int) : L0 fuel (n0 + 1) (t0 p0q0 j1 p0q3 p0q1 p0q2 p0q4d p0q4g x0q0 x0q1 x0q3 x0q11) (k0  fuel) =
  (bif (decide ((x0q3 : Int) < (((List.replicate ((volW ((p0q0.set j1 p0q3)))).toNat (0 : Int)).length : Nat) : Int))) then
  (bif decide ((x0q0 : Int) = 0) then
  none
  else
  (bif decide ((x0q0 : Int) = 0) then
  none
  else
  (bif decide ((p0q3 : Int) = 0) then
  none
  else
  (bif (p0q4d [Q.i ((Int.tmod (IntKind.wrap .i64 (Int.tdiv x0q3 x0q0)) p0q3))]) then
  (bif (decide ((0 : Int) ≤ (p0q4g [Q.i ((Int.tmod (IntKind.wrap .i64 (Int.tdiv x0q3 x0q0)) p0q3))]))) then
  (bif (decide (((p0q4g [Q.i ((Int.tmod (IntKind.wrap .i64 (Int.tdiv x0q3 x0q0)) p0q3))]) : Int) < x0q1)) then
  (bif decide ((p0q3 : Int) = 0) then
  none
  else
  (idx (IntKind.wrap .i64 ((IntKind.wrap .i64 ((IntKind.wrap .i64 ((IntKind.wrap .i64 ((IntKind.wrap .i64 (Int.tdiv (IntKind.wrap .i64 (Int.tdiv x0q3 x0q0)) p0q3)) * x0q1)) + (p0q4g [Q.i ((Int.tmod (IntKind.wrap .i64 (Int.tdiv x0q3 x0q0)) p0q3))]))) * x0q0)) + (Int.tmod x0q3 x0q0))) p0q1.length).bind fun j7 =>
  (p0q1[j7]?).bind fun v8 =>
  (idx x0q3 x0q11.length).bind fun j9 =>
  (bif decide (j9 < x0q11.length) then
  L0 fuel n0 (t0 p0q0 j1 p0q3 p0q1 p0q2 p0q4d p0q4g x0q0 x0q1 ((IntKind.wrap .i64 (x0q3 + 1))) ((x0q11.set j9 v8))) (k0  fuel)
  else
  none))
  else
  L0 fuel n0 (t0 p0q0 j1 p0q3 p0q1 p0q2 p0q4d p0q4g x0q0 x0q1 ((IntKind.wrap .i64 (x0q3 + 1))) x0q11) (k0  fuel))
  else
  L0 fuel n0 (t0 p0q0 j1 p0q3 p0q1 p0q2 p0q4d p0q4g x0q0 x0q1 ((IntKind.wrap .i64 (x0q3 + 1))) x0q11) (k0  fuel))
  else
  none))))
  else
  some ([.agg [((.ints .i64 (p0q0.set j1 p0q3)), true), ((.ints .i64 x0q11), true)], .one ((.bool true), false)], [])) := by kernel_rfl
end impl_view_copied
theorem impl_view_copied.ok_of (hX : ∀ E ∈ impl_view_copied.X, CallSpec Try.prog E) (h : ∀ (sh : List Int) (da : List Int) (k : Int) (len : Int) (dom : List Q → Bool) (G : List Q → Int), (axB sh da k && domB len dom) = true → ∃ fuel, runF Try.prog impl_view_copied.X impl_view_copied.I 0 fuel 61 Try.f61 [.d (.agg [(.ints .i64 sh), (.ints .i64 da), (.int .i64 k), (.int .i64 len), (.fn false dom G)])] = some ([.agg [((.ints .i64 (cpS sh k len)), true), ((.ints .i64 (cpD sh da k len G)), true)], .one ((.bool (cpB sh k len)), false)], [])) : CallSpec Try.prog impl_view_copied.E :=
  callSpec_of (d := 0) hX (by kernel_rfl) impl_view_copied.I_ok (by kernel_rfl) (by kernel_rfl) (by kernel_rfl) (fun _ _ _ _ h => by dsimp only [impl_view_copied.E] at h; cases h) (fun xs hp => by
    dsimp only [impl_view_copied.E] at hp ⊢
    split at hp
    · exact h _ _ _ _ _ _ hp
    · cases hp)
theorem impl_view_copied.loop (fuel : Nat) (sh da : List Int) (k l : Nat) (dom : List Q → Bool) (G : List Q → Int) (ax : Ax sh k) (hd : da.length = befN sh k * lenN sh k * behN sh k) (al : AlOk sh k (cpL sh k l G)) (hdom : domB (l : Int) dom = true)
    (hv : (volW (sh.set k (l : Int))).toNat = befN sh k * l * behN sh k) (hf : 60 < fuel) :
    impl_view_copied.L0 fuel fuel (impl_view_copied.t0 sh k (l : Int) da (k : Int) dom G ((behN sh k : Nat) : Int) ((lenN sh k : Nat) : Int) 0 (List.replicate (volW (sh.set k (l : Int))).toNat 0)) (impl_view_copied.k0 fuel) =
    some ([.agg [((.ints .i64 (sh.set k (l : Int))), true), ((.ints .i64 (alA sh da k (cpL sh k l G))), true)], .one ((.bool true), false)], []) := by
  have hll : (cpL sh k l G).length = l := by simp [cpL, tab_length]
  have hle := al.le
  have hlen : (alA sh da k (cpL sh k l G)).length = befN sh k * l * behN sh k := by rw [alA_length, hll]
  have hlk := ax.lt
  have hdl := ax.le
  rw [hll] at hle
  refine run_loop (N := befN sh k * l * behN sh k) (fun n j out => impl_view_copied.L0 fuel n (impl_view_copied.t0 sh k (l : Int) da (k : Int) dom G ((behN sh k : Nat) : Int) ((lenN sh k : Nat) : Int) (j : Int) out) (impl_view_copied.k0 fuel)) (fun j out => out = part (alA sh da k (cpL sh k l G)) j) ?_ ?_ fuel 0 _ (by omega) (by omega) (by rw [part_zero, hlen, hv])
  · intro n out ho
    rw [← hlen, part_all] at ho
    rw [impl_view_copied.s0, List.length_replicate, hv, dge (by omega), ho]
    rfl
  · intro n j out hj ho
    obtain ⟨d1, d2, d3, d4⟩ := dec3 hj
    have hM : behN sh k ≠ 0 := by omega
    have hL : l ≠ 0 := by omega
    have hol : out.length = befN sh k * l * behN sh k := by rw [ho, part_length (by omega), hlen]
    have hg := alA_get (sh := sh) (da := da) (k := k) (ls := cpL sh k l G) d1 (by rw [hll]; exact d2) d3
    rw [hll, d4] at hg
    have hcl : (cpL sh k l G).getD (j / behN sh k % l) 0 = cpF (lenN sh k) G (j / behN sh k % l) := by
      unfold cpL
      rw [Int.toNat_natCast, Int.toNat_natCast, tab_getD d2]
    rw [hcl] at hg
    have hdm := domB_get hdom (i := j / behN sh k % l) (by simpa using d2)
    have hjM : j / behN sh k ≤ 1000 := Nat.le_trans (Nat.div_le_self _ _) (by omega)
    have hjL : j / behN sh k / l ≤ 1000 := Nat.le_trans (Nat.div_le_self _ _) hjM
    rw [impl_view_copied.s0, List.length_replicate, hv, dlt hj, decide_eq_false (p := ((behN sh k : Nat) : Int) = 0) (by omega), decide_eq_false (p := ((l : Nat) : Int) = 0) (by omega), tdivN, wN (n := j / behN sh k) (by omega), tmodN, tmodN, hdm, tdivN, wN (n := j / behN sh k / l) (by omega), w1 (j := j) (by omega)]
    simp only [cond_true, cond_false]
    generalize hG : G [Q.i ((j / behN sh k % l : Nat) : Int)] = g
    unfold cpF at hg
    rw [hG] at hg
    by_cases h0 : 0 ≤ g
    · by_cases h1 : g < ((lenN sh k : Nat) : Int)
      · obtain ⟨p, rfl⟩ : ∃ p : Nat, g = p := ⟨g.toNat, by omega⟩
        have hpl : p < lenN sh k := by omega
        obtain ⟨e2, _, _, _⟩ := enc3 d1 hpl d3
        have hx : j / behN sh k / l * lenN sh k + p ≤ 1000000000 := by
          have h1 := ax.len_le
          have : j / behN sh k / l * lenN sh k ≤ 1000 * 60 := Nat.mul_le_mul hjL h1
          omega
        rw [decide_eq_true h0, decide_eq_true h1, wIdx hx (by omega), idx_nat (by omega), idx_nat (by omega)]
        simp only [cond_true, Option.bind_some, getD_get (show (j / behN sh k / l * lenN sh k + p) * behN sh k + j % behN sh k < da.length by omega), show j < out.length by omega, decide_true]
        refine ⟨_, ?_, rfl⟩
        rw [ho, part_set (by omega)]
        rw [hg]
        simp [atV, h1]
      · rw [decide_eq_true h0, decide_eq_false h1]
        refine ⟨_, ?_, rfl⟩
        rw [ho, part_same (by omega)]
        rw [hg]
        simp [atV, h1]
    · rw [decide_eq_false h0]
      refine ⟨_, ?_, rfl⟩
      rw [ho, part_same (by omega)]
      rw [hg]
      simp [atV, h0]
theorem impl_view_copied.ok : CallSpec Try.prog impl_view_copied.E := impl_view_copied.ok_of (by simp [impl_view_copied.X, impl_copyList.ok, impl_layoutOf_j.ok]) fun sh da k len dom G h => by
  obtain ⟨F, hF⟩ : ∃ F : Nat, 60 < F := ⟨61, by omega⟩
  refine ⟨F, ?_⟩
  simp only [Bool.and_eq_true, axB] at h
  obtain ⟨e1, e2⟩ := axOk_nat h.1.2
  have hv := validA_inv h.1.1
  have ax := ax_of hv.1 e2
  have hd := ax_data h.1.1 e2
  have hr := ax.rank
  rw [impl_view_copied.e, szB_of (xs := sh) (by omega)]
  simp only [cpS, cpD, cpB]
  generalize k.toNat = j at *
  subst e1
  rw [idx_nat e2]
  simp only [cond_true, Option.bind_some, e2, decide_true]
  rw [lt_of (xs := sh.set j len) (by simp; omega), cond_true]
  cases hs : validS (sh.set j len) with
  | false => rfl
  | true =>
    have ax2 := ax_of hs (k := j) (by simpa using e2)
    have hb := vol_bd hs
    have hbnd := allB_get ax2.bnd ax2.lt
    have hl0 : (sh.set j len).getD j 0 = len := by simp [e2]
    rw [hl0] at hbnd
    obtain ⟨l, rfl⟩ : ∃ l : Nat, len = l := ⟨len.toNat, by omega⟩
    have hst := strd_beh ax2
    have hvol := ax2.vol
    have hle := ax2.le
    rw [len_set e2, bef_set, beh_set, Int.toNat_natCast] at hvol hle
    rw [beh_set] at hst
    have al : AlOk sh j (cpL sh j l G) := by
      have hll : (cpL sh j l G).length = l := by simp [cpL, tab_length]
      refine ⟨by omega, by rw [hll]; exact hle, fun p hp => ?_⟩
      simp only [cpL, tab, List.mem_map, List.mem_range, Int.toNat_natCast] at hp
      obtain ⟨i, hi, rfl⟩ := hp
      unfold cpF
      by_cases h0 : 0 ≤ G [.i (i : Int)]
      · by_cases h1 : G [.i (i : Int)] < ((lenN sh j : Nat) : Int)
        · simp only [decide_eq_true h0, decide_eq_true h1, Bool.and_self, cond_true]; exact h1
        · simp only [decide_eq_true h0, decide_eq_false h1, Bool.and_false, cond_false]; omega
      · simp only [decide_eq_false h0, Bool.false_and, cond_false]; omega
    have key := impl_view_copied.loop F sh da j l dom G ax hd al h.2 (by rw [hvol]; rfl) (by omega)
    rw [mkOk hb.1 (by omega)]
    simp only [cond_true]
    match j, e2, hst, key with
    | 0, e2, hst, key => rw [decide_eq_true (p := ((0 : Nat) : Int) = ((0 : Nat) : Int)) rfl, hst, getD_get e2, ax.len]; exact key
    | 1, e2, hst, key => rw [decide_eq_false (p := ((1 : Nat) : Int) = ((0 : Nat) : Int)) (by omega), decide_eq_true (p := ((1 : Nat) : Int) = ((1 : Nat) : Int)) rfl, hst, getD_get e2, ax.len]; exact key
    | 2, e2, hst, key => rw [decide_eq_false (p := ((2 : Nat) : Int) = ((0 : Nat) : Int)) (by omega), decide_eq_false (p := ((2 : Nat) : Int) = ((1 : Nat) : Int)) (by omega), decide_eq_true (p := ((2 : Nat) : Int) = ((2 : Nat) : Int)) rfl, hst, getD_get e2, ax.len]; exact key
    | j + 3, e2, _, _ => exact absurd e2 (by omega)

namespace impl_DropAxis
noncomputable def E : Entry := ⟨23, false, false, fun | [.d (.agg [(.ints .i64 sh), (.ints .i64 da)]), .d (.int .i64 k), .d (.int .i64 n)] => decide (sh.length < 9223372036854775808) && decide (da.length < 9223372036854775808) | _ => false, fun | [.d (.agg [(.ints .i64 sh), (.ints .i64 da)]), .d (.int .i64 k), .d (.int .i64 n)] => ([.agg [((.ints .i64 (drS sh da k n)), true), ((.ints .i64 (drD sh da k n)), true)]], []) | _ => ([], []), fun _ => [], true, fun _ => none⟩
end impl_DropAxis
namespace impl_DropAxis
noncomputable def X : List Entry := [impl_axisLength.E, impl_isCount.E, impl_DropAxis_1.E, impl_absolute.E, impl_view_copied.E]
noncomputable def I : List Inl := [⟨23, Try.f23, ⟨[42], [], [(5, [9])], [], [], []⟩⟩]
theorem I_ok : ∀ i ∈ I, Try.prog.funcs[i.f]? = some i.fn ∧ (i.fn.name == "runtime.NumGoroutine") = false := by
  intro i hi
  simp only [I, List.mem_cons, List.not_mem_nil, or_false] at hi
  subst hi
  exact ⟨by kernel_rfl, by kernel_rfl⟩
theorem e (fuel : Nat) (p0q0 : List Int) (p0q1 : List Int) (p1 : Int) (p2 : Int) : runF Try.prog X I 0 fuel 23 Try.f23 [.d (.agg [(.ints .i64 p0q0), (.ints .i64 p0q1)]), .d (.int .i64 p1), .d (.int .i64 p2)] =
  (bif decide (p0q0.length < 9223372036854775808) && decide (p0q1.length < 9223372036854775808) then
  (bif (!(axB p0q0 p0q1 p1)) then
  some ([.agg [((.ints .i64 []), true), ((.ints .i64 []), true)]], [])
  else
  (bif (!(cntB p2)) then
  some ([.agg [((.ints .i64 []), true), ((.ints .i64 []), true)]], [])
  else
  (bif axB p0q0 p0q1 p1 && domB ((maxI (IntKind.wrap .i64 ((axL p0q0 p0q1 p1) - (absV p2))) 0)) q1 then
  some ([.agg [((.ints .i64 (cpS p0q0 p1 ((maxI (IntKind.wrap .i64 ((axL p0q0 p0q1 p1) - (absV p2))) 0)))), true), ((.ints .i64 (cpD p0q0 p0q1 p1 ((maxI (IntKind.wrap .i64 ((axL p0q0 p0q1 p1) - (absV p2))) 0)) ((q1v (addI ((maxI p2 0))))))), true)]], [])
  else
  none)))
  else
  none) := by kernel_rfl
end impl_DropAxis
theorem impl_DropAxis.ok_of (hX : ∀ E ∈ impl_DropAxis.X, CallSpec Try.prog E) (h : ∀ (sh : List Int) (da : List Int) (k : Int) (n : Int), (decide (sh.length < 9223372036854775808) && decide (da.length < 9223372036854775808)) = true → ∃ fuel, runF Try.prog impl_DropAxis.X impl_DropAxis.I 0 fuel 23 Try.f23 [.d (.agg [(.ints .i64 sh), (.ints .i64 da)]), .d (.int .i64 k), .d (.int .i64 n)] = some ([.agg [((.ints .i64 (drS sh da k n)), true), ((.ints .i64 (drD sh da k n)), true)]], [])) : CallSpec Try.prog impl_DropAxis.E :=
  callSpec_of (d := 0) hX (by kernel_rfl) impl_DropAxis.I_ok (by kernel_rfl) (by kernel_rfl) (by kernel_rfl) (fun _ _ _ _ h => by dsimp only [impl_DropAxis.E] at h; cases h) (fun xs hp => by
    dsimp only [impl_DropAxis.E] at hp ⊢
    split at hp
    · exact h _ _ _ _ hp
    · cases hp)
theorem impl_DropAxis.ok : CallSpec Try.prog impl_DropAxis.E := impl_DropAxis.ok_of (by simp [impl_DropAxis.X, impl_axisLength.ok, impl_isCount.ok, impl_DropAxis_1.ok, impl_absolute.ok, impl_view_copied.ok]) fun sh da k n h => ⟨0, by
  rw [impl_DropAxis.e, h]
  unfold drS drD drB
  cases hb : axB sh da k with
  | false => rfl
  | true =>
    cases hn : cntB n with
    | false => rfl
    | true =>
      obtain ⟨j, rfl, hj, hv, ax, hd, hl⟩ := axB_inv hb
      have hB := validA_inv hv
      have hn2 := cntB_inv hn
      have hdr := drop_len ax.len_le hn2.1 hn2.2
      rw [hl, domB_q1, hdr]
      simp only [cond_true, Bool.not_true, cond_false, Bool.and_self, Bool.true_and, cpS, cpD, cpB, lenK, Int.toNat_natCast, alS, drL_length]
      rw [valid_less hB.1 hj (show lenN sh j - n.natAbs ≤ lenN sh j by omega), cpL_congr (l := lenN sh j - n.natAbs) (f := fun i => ((n.toNat + i : Nat) : Int)) rfl (fun i hi => by rw [Int.toNat_natCast]; exact cp_drop ax.len_le hn2.1 hn2.2 hi)]
      rfl⟩

namespace impl_Reshape
noncomputable def E : Entry := ⟨56, false, false, fun | [.d (.ints .i64 sh), .d (.agg [(.ints .i64 s2), (.ints .i64 da)])] => decide (sh.length < 9223372036854775808) && decide (s2.length < 9223372036854775808) && decide (da.length < 9223372036854775808) | _ => false, fun | [.d (.ints .i64 sh), .d (.agg [(.ints .i64 s2), (.ints .i64 da)])] => ([.agg [((.ints .i64 (reshS sh s2 da)), true), ((.ints .i64 (reshD sh s2 da)), true)], .one ((.bool (reshB sh s2 da)), false)], []) | _ => ([], []), fun _ => [], true, fun _ => none⟩
end impl_Reshape
namespace impl_Reshape
noncomputable def X : List Entry := [impl_layoutOf.E, impl_ValidArray.E, impl_copyList.E]
noncomputable def I : List Inl := [⟨56, Try.f56, ⟨[12, 49], [(1000007, [1, 2, 5, 6, 7, 9, 10, 11, 12, 13, 14, 15, 16, 17, 18, 19, 20, 21, 22, 23, 24, 25, 26, 27, 28, 29, 30, 33, 34, 35, 36, 37, 38, 39, 40, 41, 42, 43, 44, 45, 46, 47, 48, 49, 50, 51])], [], [(9, [0, 1, 2, 4, 5, 3, 6, 7, 8, 9, 10, 11, 12])], [], []⟩⟩]
theorem I_ok : ∀ i ∈ I, Try.prog.funcs[i.f]? = some i.fn ∧ (i.fn.name == "runtime.NumGoroutine") = false := by
  intro i hi
  simp only [I, List.mem_cons, List.not_mem_nil, or_false] at hi
  subst hi
  exact ⟨by kernel_rfl, by kernel_rfl⟩
noncomputable abbrev L0 (fuel n : Nat) (s : St) (k : Kont) := lAt Try.prog X I fuel true 0 false 56 (bodyOf Try.f56) [1, 1, 1, 1, 0, 1, 0, 1, 0] n s k
noncomputable abbrev k0  (fuel : Nat) : Kont := (kAt Try.prog X I fuel true 0 false 56 (bodyOf Try.f56) [1, 1, 1, 1, 0, 1, 0, 1, 0] [] (endK Try.prog Try.f56))
noncomputable def t0 (p0 : List Int) (p1q0 : List Int) (p1q1 : List Int) (x0q2 : Int) (x0q5 : List Int) : St := ⟨[(.imm (.ints .i64 p0)), .dead, .dead, (.ptr 1000000000 0 0), (.ptr 1000000001 0 0), .dead, .dead, .dead, (.all 1000000002 1), .dead, .dead, .dead, .dead, .dead, .dead, .dead, .dead, .dead, .dead, .dead, .dead, .dead, .dead, .dead, .dead, .dead, .dead, .dead, .dead, .dead, .dead, (.imm (.int .i64 (((List.replicate ((volW p0)).toNat (0 : Int)).length : Nat) : Int))), (.imm (.int .i64 x0q2)), .dead, .dead, .dead, .dead, .dead, .dead, .dead, .dead, .dead, .dead, .dead, .dead, .dead, .dead, .dead, .dead, .dead, .dead, .dead], hOf [(1000000000, (.box [(.imm (.ints .i64 p1q0)), (.imm (.ints .i64 p1q1))])), (1000000001, (.box [(.imm .nils), (.imm .nils)])), (1000000002, (.ints .i64 x0q5))], [], []⟩
theorem e (fuel : Nat) (p0 : List Int) (p1q0 : List Int) (p1q1 : List Int) : runF Try.prog X I 0 fuel 56 Try.f56 [.d (.ints .i64 p0), .d (.agg [(.ints .i64 p1q0), (.ints .i64 p1q1)])] =
  (bif decide (p0.length < 9223372036854775808) then
  (bif validS p0 then
  (bif decide (p1q0.length < 9223372036854775808) && decide (p1q1.length < 9223372036854775808) then
  (bif (!(validA p1q0 p1q1)) then
  some ([.agg [((.ints .i64 []), true), ((.ints .i64 []), true)], .one ((.bool false), false)], [])
  else
  (bif decide (0 ≤ ((volW p0) : Int)) && decide (((volW p0) : Int) ≤ (volW p0)) && decide (((volW p0) : Int) ≤ 1152921504606846976) && decide (((8 : Nat) : Int) * (volW p0) ≤ 281474976710656) then
  (bif (decide ((((p1q1.length : Nat) : Int) : Int) > 0)) then
  L0 fuel fuel (t0 p0 p1q0 p1q1 0 ((List.replicate ((volW p0)).toNat (0 : Int)))) (k0  fuel)
  else
  (bif szB p0 then
  some ([.agg [((.ints .i64 p0), true), ((.ints .i64 (List.replicate ((volW p0)).toNat (0 : Int))), true)], .one ((.bool true), false)], [])
  else
  none))
  else
  none))
  else
  none)
  else
  some ([.agg [((.ints .i64 []), true), ((.ints .i64 []), true)], .one ((.bool false), false)], []))
  else
  none) := by kernel_rfl
theorem s0 (fuel n0 : Nat) (p0 : List Int) (p1q0 : List Int) (p1q1 : List Int) (x0q2 : Int) (x0q5 : List Int) : L0 fuel (n0 + 1) (t0 p0 p1q0 p1q1 x0q2 x0q5) (k0  fuel) =
  (bif (decide ((x0q2 : Int) < (((List.replicate ((volW p0)).toNat (0 : Int)).length : Nat) : Int))) then
  (bif decide ((((p1q1.length : Nat) : Int) : Int) = 0) then
  none
  else
  (idx (Int.tmod x0q2 ((p1q1.length : Nat) : Int)) p1q1.length).bind fun j7 =>
  (p1q1[j7]?).bind fun v8 =>
  (idx x0q2 x0q5.length).bind fun j9 =>
  (bif decide (j9 < x0q5.length) then
  L0 fuel n0 (t0 p0 p1q0 p1q1 ((IntKind.wrap .i64 (x0q2 + 1))) ((x0q5.set j9 v8))) (k0  fuel)
  else
  none))
  else
  (bif szB p0 then
  some ([.agg [((.ints .i64 p0), true), ((.ints .i64 x0q5), true)], .one ((.bool true), false)], [])
  else
  none)) := by kernel_rfl
end impl_Reshape
theorem impl_Reshape.ok_of (hX : ∀ E ∈ impl_Reshape.X, CallSpec Try.prog E) (h : ∀ (sh : List Int) (s2 : List Int) (da : List Int), (decide (sh.length < 9223372036854775808) && decide (s2.length < 9223372036854775808) && decide (da.length < 9223372036854775808)) = true → ∃ fuel, runF Try.prog impl_Reshape.X impl_Reshape.I 0 fuel 56 Try.f56 [.d (.ints .i64 sh), .d (.agg [(.ints .i64 s2), (.ints .i64 da)])] = some ([.agg [((.ints .i64 (reshS sh s2 da)), true), ((.ints .i64 (reshD sh s2 da)), true)], .one ((.bool (reshB sh s2 da)), false)], [])) : CallSpec Try.prog impl_Reshape.E :=
  callSpec_of (d := 0) hX (by kernel_rfl) impl_Reshape.I_ok (by kernel_rfl) (by kernel_rfl) (by kernel_rfl) (fun _ _ _ _ h => by dsimp only [impl_Reshape.E] at h; cases h) (fun xs hp => by
    dsimp only [impl_Reshape.E] at hp ⊢
    split at hp
    · exact h _ _ _ hp
    · cases hp)
theorem impl_Reshape.loop (fuel : Nat) (sh s2 da : List Int) (hv : validS sh = true) (hd : ((da.length : Nat) : Int) ≠ 0) : ∀ (m n j : Nat) (out : List Int), (volW sh).toNat - j = m → m < n → j ≤ (volW sh).toNat → out.length = (volW sh).toNat → out.take j = tab j (fun i => da.getD (i % da.length) 0) →
    impl_Reshape.L0 fuel n (impl_Reshape.t0 sh s2 da (j : Int) out) (impl_Reshape.k0 fuel) = some ([.agg [(.ints .i64 sh, true), (.ints .i64 (reD sh da), true)], .one (.bool true, false)], []) := by
  have hb := vol_bd hv
  have hs := (validS_inv hv).1
  intro m
  induction m with
  | zero =>
    intro n j out h1 h2 h3 h4 h5
    obtain ⟨n, rfl⟩ : ∃ n', n = n' + 1 := ⟨n - 1, by omega⟩
    rw [impl_Reshape.s0, List.length_replicate, dge (by omega), szB_of (xs := sh) (by omega)]
    simp only [cond_true, cond_false, reD]
    rw [fill_end (n := (volW sh).toNat) h4 (by rw [show j = (volW sh).toNat by omega] at h5; exact h5)]
  | succ m ih =>
    intro n j out h1 h2 h3 h4 h5
    obtain ⟨n, rfl⟩ : ∃ n', n = n' + 1 := ⟨n - 1, by omega⟩
    have hj2 : j < out.length := by omega
    obtain ⟨g1, g2⟩ := re_get (j := j) hd
    rw [impl_Reshape.s0, List.length_replicate, dlt (by omega), decide_eq_false hd, g1, idx_nat hj2, w1 (by omega)]
    simp only [cond_true, cond_false, Option.bind_some, g2, hj2, decide_true]
    exact ih n (j + 1) _ (by omega) (by omega) (by omega) (by simpa using h4) (fill_step (f := fun i => da.getD (i % da.length) 0) (show j < (volW sh).toNat by omega) h4 h5)
theorem impl_Reshape.ok : CallSpec Try.prog impl_Reshape.E := impl_Reshape.ok_of (by simp [impl_Reshape.X, impl_layoutOf.ok, impl_ValidArray.ok, impl_copyList.ok]) fun sh s2 da h => by
  simp only [Bool.and_eq_true] at h
  refine ⟨(volW sh).toNat + 1, ?_⟩
  rw [impl_Reshape.e, h.1.1, h.1.2, h.2]
  unfold reshS reshD reshB
  cases hv : validS sh with
  | false => rfl
  | true =>
    have hb := vol_bd hv
    have hs := (validS_inv hv).1
    cases hv2 : validA s2 da with
    | false => rfl
    | true =>
      rw [mkOk hb.1 (by omega)]
      simp only [cond_true, Bool.and_self, Bool.not_true, cond_false]
      by_cases hd : ((da.length : Nat) : Int) > 0
      · rw [decide_eq_true hd, cond_true]
        exact impl_Reshape.loop ((volW sh).toNat + 1) sh s2 da hv (by omega) (volW sh).toNat ((volW sh).toNat + 1) 0 _ (by omega) (by omega) (by omega) (by simp) (by simp [tab])
      · have h0 : da = [] := List.eq_nil_of_length_eq_zero (by omega)
        rw [decide_eq_false hd, szB_of (xs := sh) (by omega)]
        have : List.replicate (volW sh).toNat (0 : Int) = reD sh da := by
          rw [h0]
          apply List.ext_getElem?
          intro i
          by_cases hi : i < (volW sh).toNat
          · unfold reD; rw [tab_get hi]; simp [hi]
          · rw [List.getElem?_eq_none (by simp; omega), List.getElem?_eq_none (by unfold reD; rw [tab_length]; omega)]
        rw [this]
        rfl

namespace slices_Equal_int_int
noncomputable def E : Entry := ⟨57, true, false, fun | [.d (.ints .i64 xs), .d (.ints .i64 ys)] => decide (xs.length < 9223372036854775808) && decide (ys.length < 9223372036854775808) | _ => false, fun | [.d (.ints .i64 xs), .d (.ints .i64 ys)] => ([.one ((.bool (decide (xs = ys))), false)], []) | _ => ([], []), fun _ => [], false, fun _ => none⟩
end slices_Equal_int_int
namespace slices_Equal_int_int
noncomputable def X : List Entry := []
noncomputable def I : List Inl := [⟨57, Try.f57, ⟨[], [(1000004, [2, 3, 4, 5, 6, 7, 8, 9, 10, 11, 14, 15, 16, 17, 18, 19, 20, 21, 22, 23, 24, 25])], [], [(6, [0, 1, 4, 5, 2, 3, 6, 7, 8])], [], []⟩⟩]
theorem I_ok : ∀ i ∈ I, Try.prog.funcs[i.f]? = some i.fn ∧ (i.fn.name == "runtime.NumGoroutine") = false := by
  intro i hi
  simp only [I, List.mem_cons, List.not_mem_nil, or_false] at hi
  subst hi
  exact ⟨by kernel_rfl, by kernel_rfl⟩
noncomputable abbrev L0 (fuel n : Nat) (s : St) (k : Kont) := lAt Try.prog X I fuel true 0 false 57 (bodyOf Try.f57) [1, 1, 0, 1, 0] n s k
noncomputable abbrev k0  (fuel : Nat) : Kont := (kAt Try.prog X I fuel true 0 false 57 (bodyOf Try.f57) [1, 1, 0, 1, 0] [] (endK Try.prog Try.f57))
noncomputable def t0 (p0 : List Int) (p1 : List Int) (x0q3 : Int) : St := ⟨[(.imm (.ints .i64 p0)), (.imm (.ints .i64 p1)), .dead, .dead, .dead, .dead, .dead, .dead, .dead, .dead, .dead, .dead, (.imm (.int .i64 ((p0.length : Nat) : Int))), (.imm (.int .i64 x0q3)), .dead, .dead, .dead, .dead, .dead, .dead, .dead, .dead, .dead, .dead, .dead, .dead], hOf [], [], []⟩
theorem e (fuel : Nat) (p0 : List Int) (p1 : List Int) : runF Try.prog X I 0 fuel 57 Try.f57 [.d (.ints .i64 p0), .d (.ints .i64 p1)] =
  (bif ((((p0.length : Nat) : Int) : Int) != ((p1.length : Nat) : Int)) then
  some ([.one ((.bool false), false)], [])
  else
  L0 fuel fuel (t0 p0 p1 0) (k0  fuel)) := by kernel_rfl
theorem s0 (fuel n0 : Nat) (p0 : List Int) (p1 : List Int) (x0q3 : Int) : L0 fuel (n0 + 1) (t0 p0 p1 x0q3) (k0  fuel) =
  (bif (decide ((x0q3 : Int) < ((p0.length : Nat) : Int))) then
  (idx x0q3 p0.length).bind fun j9 =>
  (p0[j9]?).bind fun v10 =>
  (idx x0q3 p1.length).bind fun j11 =>
  (p1[j11]?).bind fun v12 =>
  (bif ((v10 : Int) != v12) then
  some ([.one ((.bool false), false)], [])
  else
  L0 fuel n0 (t0 p0 p1 ((IntKind.wrap .i64 (x0q3 + 1)))) (k0  fuel))
  else
  some ([.one ((.bool true), false)], [])) := by kernel_rfl
end slices_Equal_int_int
theorem slices_Equal_int_int.ok_of (hX : ∀ E ∈ slices_Equal_int_int.X, CallSpec Try.prog E) (h : ∀ (xs : List Int) (ys : List Int), (decide (xs.length < 9223372036854775808) && decide (ys.length < 9223372036854775808)) = true → ∃ fuel, runF Try.prog slices_Equal_int_int.X slices_Equal_int_int.I 0 fuel 57 Try.f57 [.d (.ints .i64 xs), .d (.ints .i64 ys)] = some ([.one ((.bool (decide (xs = ys))), false)], [])) : CallSpec Try.prog slices_Equal_int_int.E :=
  callSpec_of (d := 0) hX (by kernel_rfl) slices_Equal_int_int.I_ok (by kernel_rfl) (by kernel_rfl) (by kernel_rfl) (fun _ _ _ _ h => by dsimp only [slices_Equal_int_int.E] at h; cases h) (fun xs hp => by
    dsimp only [slices_Equal_int_int.E] at hp ⊢
    split at hp
    · exact h _ _ hp
    · cases hp)
theorem slices_Equal_int_int.loop (fuel : Nat) (xs ys : List Int) (hl : xs.length = ys.length) (hx : xs.length < 9223372036854775808) : ∀ (m n j : Nat), xs.length - j = m → m < n → j ≤ xs.length →
    slices_Equal_int_int.L0 fuel n (slices_Equal_int_int.t0 xs ys (j : Int)) (slices_Equal_int_int.k0 fuel) = some ([.one (.bool (decide (xs.drop j = ys.drop j)), false)], []) := by
  intro m
  induction m with
  | zero =>
    intro n j h1 h2 h3
    obtain ⟨n, rfl⟩ : ∃ n', n = n' + 1 := ⟨n - 1, by omega⟩
    have hj : ¬ j < xs.length := by omega
    rw [slices_Equal_int_int.s0, dge hj, dropE hj, dropE (xs := ys) (by omega)]
    rfl
  | succ m ih =>
    intro n j h1 h2 h3
    obtain ⟨n, rfl⟩ : ∃ n', n = n' + 1 := ⟨n - 1, by omega⟩
    have hj : j < xs.length := by omega
    have hj2 : j < ys.length := by omega
    rw [slices_Equal_int_int.s0, dlt hj, idx_nat hj, idx_nat hj2, w1 (by omega), dropS hj, dropS hj2]
    simp only [cond_true, Option.bind_some, getS hj, getS hj2]
    rw [ih n (j + 1) (by omega) (by omega) (by omega)]
    by_cases hv : xs[j] = ys[j]
    · rw [hv]
      simp only [bne_self_eq_false, cond_false, List.cons.injEq, true_and]
    · have : (xs[j] != ys[j]) = true := by simp [hv]
      rw [this]
      simp only [cond_true, List.cons.injEq, hv, false_and, decide_false]

theorem slices_Equal_int_int.ok : CallSpec Try.prog slices_Equal_int_int.E := slices_Equal_int_int.ok_of (by simp [slices_Equal_int_int.X]) fun xs ys h => by
  simp only [Bool.and_eq_true, decide_eq_true_eq] at h
  refine ⟨xs.length + 1, ?_⟩
  rw [slices_Equal_int_int.e]
  by_cases hl : xs.length = ys.length
  · have := slices_Equal_int_int.loop (xs.length + 1) xs ys hl h.1 xs.length (xs.length + 1) 0 (by omega) (by omega) (by omega)
    simp only [List.drop_zero] at this
    simp only [hl, bne_self_eq_false, cond_false]
    rw [← hl]
    exact this
  · have hne : xs ≠ ys := fun e => hl (e ▸ rfl)
    have : (((xs.length : Nat) : Int) != ((ys.length : Nat) : Int)) = true := by simp; omega
    rw [this]
    simp [hne]

namespace impl_Combine
noncomputable def E : Entry := ⟨22, false, false, fun | [.d (.int .i64 op), .d (.agg [(.ints .i64 s1), (.ints .i64 d1)]), .d (.agg [(.ints .i64 s2), (.ints .i64 d2)])] => decide (s1.length < 9223372036854775808) && decide (d1.length < 9223372036854775808) && decide (s2.length < 9223372036854775808) && decide (d2.length < 9223372036854775808) | _ => false, fun | [.d (.int .i64 op), .d (.agg [(.ints .i64 s1), (.ints .i64 d1)]), .d (.agg [(.ints .i64 s2), (.ints .i64 d2)])] => ([.agg [((.ints .i64 (comS op s1 d1 s2 d2)), true), ((.ints .i64 (comD op s1 d1 s2 d2)), true)], .one ((.bool (comB op s1 d1 s2 d2)), false)], []) | _ => ([], []), fun _ => [], true, fun _ => none⟩
end impl_Combine
namespace impl_Combine
noncomputable def X : List Entry := [impl_functionOfTwo_f.E, impl_ValidArray.E, impl_Reshape.E, slices_Equal_int_int.E, impl_copyList.E, impl_pairwise.E]
noncomputable def I : List Inl := [⟨22, Try.f22, ⟨[32, 43, 55, 61], [], [], [(10, [0, 3, 4, 6, 1, 5, 7, 2, 8, 9, 10, 11])], [], []⟩⟩]
theorem I_ok : ∀ i ∈ I, Try.prog.funcs[i.f]? = some i.fn ∧ (i.fn.name == "runtime.NumGoroutine") = false := by
  intro i hi
  simp only [I, List.mem_cons, List.not_mem_nil, or_false] at hi
  subst hi
  exact ⟨by kernel_rfl, by kernel_rfl⟩
theorem e (fuel : Nat) (p0 : Int) (p1q0 : List Int) (p1q1 : List Int) (p2q0 : List Int) (p2q1 : List Int) : runF Try.prog X I 0 fuel 22 Try.f22 [.d (.int .i64 p0), .d (.agg [(.ints .i64 p1q0), (.ints .i64 p1q1)]), .d (.agg [(.ints .i64 p2q0), (.ints .i64 p2q1)])] =
  (bif opOk p0 then
  (bif decide (p1q0.length < 9223372036854775808) && decide (p1q1.length < 9223372036854775808) then
  (bif (!(validA p1q0 p1q1)) then
  some ([.agg [((.ints .i64 []), true), ((.ints .i64 []), true)], .one ((.bool false), false)], [])
  else
  (bif decide (p2q0.length < 9223372036854775808) && decide (p2q1.length < 9223372036854775808) then
  (bif (!(validA p2q0 p2q1)) then
  some ([.agg [((.ints .i64 []), true), ((.ints .i64 []), true)], .one ((.bool false), false)], [])
  else
  (bif ((((p1q0.length : Nat) : Int) : Int) == 0) then
  (bif decide (p2q0.length < 9223372036854775808) && decide (p1q0.length < 9223372036854775808) && decide (p1q1.length < 9223372036854775808) then
  (bif decide (((reshS p2q0 p1q0 p1q1)).length < 9223372036854775808) && decide (p2q0.length < 9223372036854775808) then
  (bif (!(decide (((reshS p2q0 p1q0 p1q1)) = p2q0))) then
  some ([.agg [((.ints .i64 []), true), ((.ints .i64 []), true)], .one ((.bool false), false)], [])
  else
  (bif szB ((reshS p2q0 p1q0 p1q1)) then
  (bif szB ((reshD p2q0 p1q0 p1q1)) && decide (((reshD p2q0 p1q0 p1q1)).length ≤ p2q1.length) && pwB q2 ((reshD p2q0 p1q0 p1q1)) p2q1 then
  some ([.agg [((.ints .i64 ((reshS p2q0 p1q0 p1q1))), true), ((.ints .i64 (pwD ((q2v (operF p0))) ((reshD p2q0 p1q0 p1q1)) p2q1)), true)], .one ((.bool true), false)], [])
  else
  none)
  else
  none))
  else
  none)
  else
  none)
  else
  (bif ((((p2q0.length : Nat) : Int) : Int) == 0) then
  (bif decide (p1q0.length < 9223372036854775808) && decide (p2q0.length < 9223372036854775808) && decide (p2q1.length < 9223372036854775808) then
  (bif decide (p1q0.length < 9223372036854775808) && decide (((reshS p1q0 p2q0 p2q1)).length < 9223372036854775808) then
  (bif (!(decide (p1q0 = ((reshS p1q0 p2q0 p2q1))))) then
  some ([.agg [((.ints .i64 []), true), ((.ints .i64 []), true)], .one ((.bool false), false)], [])
  else
  (bif szB p1q0 then
  (bif szB p1q1 && decide (p1q1.length ≤ ((reshD p1q0 p2q0 p2q1)).length) && pwB q2 p1q1 ((reshD p1q0 p2q0 p2q1)) then
  some ([.agg [((.ints .i64 p1q0), true), ((.ints .i64 (pwD ((q2v (operF p0))) p1q1 ((reshD p1q0 p2q0 p2q1)))), true)], .one ((.bool true), false)], [])
  else
  none)
  else
  none))
  else
  none)
  else
  none)
  else
  (bif decide (p1q0.length < 9223372036854775808) && decide (p2q0.length < 9223372036854775808) then
  (bif (!(decide (p1q0 = p2q0))) then
  some ([.agg [((.ints .i64 []), true), ((.ints .i64 []), true)], .one ((.bool false), false)], [])
  else
  (bif szB p1q0 then
  (bif szB p1q1 && decide (p1q1.length ≤ p2q1.length) && pwB q2 p1q1 p2q1 then
  some ([.agg [((.ints .i64 p1q0), true), ((.ints .i64 (pwD ((q2v (operF p0))) p1q1 p2q1)), true)], .one ((.bool true), false)], [])
  else
  none)
  else
  none))
  else
  none))))
  else
  none))
  else
  none)
  else
  some ([.agg [((.ints .i64 []), true), ((.ints .i64 []), true)], .one ((.bool false), false)], [])) := by kernel_rfl
end impl_Combine
theorem impl_Combine.ok_of (hX : ∀ E ∈ impl_Combine.X, CallSpec Try.prog E) (h : ∀ (op : Int) (s1 : List Int) (d1 : List Int) (s2 : List Int) (d2 : List Int), (decide (s1.length < 9223372036854775808) && decide (d1.length < 9223372036854775808) && decide (s2.length < 9223372036854775808) && decide (d2.length < 9223372036854775808)) = true → ∃ fuel, runF Try.prog impl_Combine.X impl_Combine.I 0 fuel 22 Try.f22 [.d (.int .i64 op), .d (.agg [(.ints .i64 s1), (.ints .i64 d1)]), .d (.agg [(.ints .i64 s2), (.ints .i64 d2)])] = some ([.agg [((.ints .i64 (comS op s1 d1 s2 d2)), true), ((.ints .i64 (comD op s1 d1 s2 d2)), true)], .one ((.bool (comB op s1 d1 s2 d2)), false)], [])) : CallSpec Try.prog impl_Combine.E :=
  callSpec_of (d := 0) hX (by kernel_rfl) impl_Combine.I_ok (by kernel_rfl) (by kernel_rfl) (by kernel_rfl) (fun _ _ _ _ h => by dsimp only [impl_Combine.E] at h; cases h) (fun xs hp => by
    dsimp only [impl_Combine.E] at hp ⊢
    split at hp
    · exact h _ _ _ _ _ hp
    · cases hp)
theorem impl_Combine.ok : CallSpec Try.prog impl_Combine.E := impl_Combine.ok_of (by simp [impl_Combine.X, impl_functionOfTwo_f.ok, impl_ValidArray.ok, impl_Reshape.ok, slices_Equal_int_int.ok, impl_copyList.ok, impl_pairwise.ok]) fun op s1 d1 s2 d2 h => ⟨0, by
  rw [impl_Combine.e]
  simp only [Bool.and_eq_true] at h
  obtain ⟨⟨⟨h1, h2⟩, h3⟩, h4⟩ := h
  simp only [h1, h2, h3, h4, Bool.and_self, Bool.true_and, Bool.and_true, cond_true, len0, pwB_q2, pwD_q2]
  unfold comS comD
  cases ho : opOk op with
  | false => simp only [comB, ho]; rfl
  | true =>
    cases v1 : validA s1 d1 with
    | false => simp only [comB, ho, v1]; rfl
    | true =>
      cases v2 : validA s2 d2 with
      | false => simp only [comB, ho, v1, v2]; rfl
      | true =>
        have b1 := validA_len v1
        have b2 := validA_len v2
        simp only [comB, ho, v1, v2, Bool.and_self, Bool.true_and, cond_true, Bool.not_true, cond_false]
        by_cases e1 : s1.length = 0
        · have e1' := List.length_eq_zero_iff.mp e1
          have hr := resh_sc (e1' ▸ v1) v2 e1'
          have b3 := resh_len s2 s1 d1
          have hd : (reshD s2 s1 d1).length = d2.length := by rw [hr.2, tab_length]
          rw [decide_eq_true e1, cond_true, decide_eq_true (p := (reshS s2 s1 d1).length < 9223372036854775808) (by omega), cond_true, decide_eq_true hr.1, szB_of (by omega), szB_of (by omega), decide_eq_true (p := (reshD s2 s1 d1).length ≤ d2.length) (by omega), hd]
          subst e1'
          rw [cD_a op v1 v2, hr.1]
          simp [fitB, cS]
        · rw [decide_eq_false e1, cond_false]
          by_cases e2 : s2.length = 0
          · have e2' := List.length_eq_zero_iff.mp e2
            have hr := resh_sc (e2' ▸ v2) v1 e2'
            have b3 := resh_len s1 s2 d2
            have hd : (reshD s1 s2 d2).length = d1.length := by rw [hr.2, tab_length]
            rw [decide_eq_true e2, cond_true, decide_eq_true (p := (reshS s1 s2 d2).length < 9223372036854775808) (by omega), cond_true, decide_eq_true hr.1.symm, szB_of (by omega), szB_of (by omega), decide_eq_true (p := d1.length ≤ (reshD s1 s2 d2).length) (by omega)]
            subst e2'
            rw [cD_b op v1 v2 e1]
            simp [fitB, cS, e1]
          · rw [decide_eq_false e2, cond_false]
            by_cases e3 : s1 = s2
            · subst e3
              have l1 := vol_len v1
              have l2 := vol_len v2
              rw [decide_eq_true rfl, szB_of (by omega), szB_of (by omega), decide_eq_true (p := d1.length ≤ d2.length) (by omega), cD_c op v1 v2 e1]
              simp [fitB, cS, e1]
            · rw [decide_eq_false e3]
              simp [fitB, e1, e2, e3]⟩

end Go.Ab
