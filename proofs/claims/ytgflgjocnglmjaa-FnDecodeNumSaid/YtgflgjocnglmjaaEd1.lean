import Derived.Test.YtgflgjocnglmjaaEdp
import Derived.Test.YtgflgjocnglmjaaProg
import Derived.Test.YtgflgjocnglmjaaChecked
open Go Go.Ab Go.Proofs
set_option maxRecDepth 100000
set_option linter.unusedVariables false
set_option linter.unusedSimpArgs false
namespace Go.Ab
namespace spec_newReader
noncomputable def E : Entry := ⟨26, false, false, fun | [.d (.ints .u8 bs)] => true | _ => false, fun | [.d (.ints .u8 bs)] => ([.box [((.ints .u8 (cutC bs)), false), ((.int .i64 0), false)]], []) | _ => ([], []), fun _ => [], true, fun _ => none⟩
end spec_newReader
namespace spec_newReader
noncomputable def X : List Entry := []
noncomputable def I : List Inl := [⟨26, Try.f26, ⟨[], [], [], [], [], []⟩⟩]
theorem I_ok : ∀ i ∈ I, Try.prog.funcs[i.f]? = some i.fn ∧ (i.fn.name == "runtime.NumGoroutine") = false := by
  intro i hi
  simp only [I, List.mem_cons, List.not_mem_nil, or_false] at hi
  subst hi
  exact ⟨by kernel_rfl, by kernel_rfl⟩
theorem e (fuel : Nat) (p0 : List Int) : runF Try.prog X I 0 fuel 26 Try.f26 [.d (.ints .u8 p0)] =
  (bif (decide ((((p0.length : Nat) : Int) : Int) > 2000)) then
  (cutEnds p0.length (none) (some (.imm (.int .i64 2000)))).bind fun cq1 =>
  some ([.box [((.ints .u8 ((p0.drop cq1.1).take (cq1.2 - cq1.1))), false), ((.int .i64 0), false)]], [])
  else
  some ([.box [((.ints .u8 p0), false), ((.int .i64 0), false)]], [])) := by kernel_rfl
end spec_newReader
theorem spec_newReader.ok_of (hX : ∀ E ∈ spec_newReader.X, CallSpec Try.prog E) (h : ∀ (bs : List Int), (true) = true → ∃ fuel, runF Try.prog spec_newReader.X spec_newReader.I 0 fuel 26 Try.f26 [.d (.ints .u8 bs)] = some ([.box [((.ints .u8 (cutC bs)), false), ((.int .i64 0), false)]], [])) : CallSpec Try.prog spec_newReader.E :=
  callSpec_of (d := 0) hX (by kernel_rfl) spec_newReader.I_ok (by kernel_rfl) (by kernel_rfl) (by kernel_rfl) (fun _ _ _ _ h => by dsimp only [spec_newReader.E] at h; cases h) (fun xs hp => by
    dsimp only [spec_newReader.E] at hp ⊢
    split at hp
    · exact h _ hp
    · cases hp)
theorem spec_newReader.ok : CallSpec Try.prog spec_newReader.E := spec_newReader.ok_of (by simp [spec_newReader.X]) fun bs _ => ⟨0, by
  rw [spec_newReader.e]
  unfold cutC
  by_cases h : ((bs.length : Nat) : Int) > 2000
  · rw [decide_eq_true h]
    have : cutEnds bs.length none (some (.imm (.int .i64 2000))) = some (0, 2000) := by
      unfold cutEnds
      simp only
      rw [if_pos ⟨by omega, by omega⟩]
      rfl
    rw [this]
    rfl
  · rw [decide_eq_false h]
    rfl⟩

namespace spec_reader_pick
noncomputable def E : Entry := ⟨50, false, false, fun | [.box [(.ints .u8 bs), (.int .i64 p)], .d (.int .i64 n)] => rdOk bs p && decide ((n : Int) ≤ 1048576) | _ => false, fun | [.box [(.ints .u8 bs), (.int .i64 p)], .d (.int .i64 n)] => ([.one ((.int .i64 (pickV bs p n)), false)], [[(.ints .u8 bs), (.int .i64 (p + 1))]]) | _ => ([], []), fun _ => [], false, fun _ => none⟩
end spec_reader_pick
namespace spec_reader_pick
noncomputable def X : List Entry := []
noncomputable def I : List Inl := [⟨50, Try.f50, ⟨[], [], [], [(7, [0, 1, 2, 4, 5, 6, 7, 15, 16, 17, 19, 20, 21, 22, 23, 24, 33, 34, 36, 37, 38, 39, 3, 8, 9, 10, 11, 12, 13, 14, 18, 25, 26, 27, 28, 29, 30, 31, 32, 35, 40, 41, 42, 43, 44, 45])], [], []⟩⟩]
theorem I_ok : ∀ i ∈ I, Try.prog.funcs[i.f]? = some i.fn ∧ (i.fn.name == "runtime.NumGoroutine") = false := by
  intro i hi
  simp only [I, List.mem_cons, List.not_mem_nil, or_false] at hi
  subst hi
  exact ⟨by kernel_rfl, by kernel_rfl⟩
theorem e (fuel : Nat) (p0q0 : List Int) (p0q1 : Int) (p1 : Int) : runF Try.prog X I 0 fuel 50 Try.f50 [.box [(.ints .u8 p0q0), (.int .i64 p0q1)], .d (.int .i64 p1)] =
  (bif (decide ((p1 : Int) < 1)) then
  some ([.one ((.int .i64 0), false)], [[(.ints .u8 p0q0), (.int .i64 (IntKind.wrap .i64 (p0q1 + 1)))]])
  else
  (bif ((((p0q0.length : Nat) : Int) : Int) == 0) then
  some ([.one ((.int .i64 0), false)], [[(.ints .u8 p0q0), (.int .i64 (IntKind.wrap .i64 (p0q1 + 1)))]])
  else
  (bif (decide (((IntKind.wrap .i64 ((IntKind.wrap .i64 (p0q1 + 1)) - 1)) : Int) < ((p0q0.length : Nat) : Int))) then
  (idx (IntKind.wrap .i64 ((IntKind.wrap .i64 (p0q1 + 1)) - 1)) p0q0.length).bind fun j1 =>
  (p0q0[j1]?).bind fun v2 =>
  (bif decide ((p1 : Int) = 0) then
  none
  else
  some ([.one ((.int .i64 (Int.tmod (IntKind.wrap .i64 v2) p1)), false)], [[(.ints .u8 p0q0), (.int .i64 (IntKind.wrap .i64 (p0q1 + 1)))]]))
  else
  (bif decide ((((p0q0.length : Nat) : Int) : Int) = 0) then
  none
  else
  (idx (Int.tmod (IntKind.wrap .i64 ((IntKind.wrap .i64 (p0q1 + 1)) - 1)) ((p0q0.length : Nat) : Int)) p0q0.length).bind fun j3 =>
  (p0q0[j3]?).bind fun v4 =>
  (bif decide ((((p0q0.length : Nat) : Int) : Int) = 0) then
  none
  else
  (idx (Int.tmod (IntKind.wrap .i64 ((IntKind.wrap .i64 ((IntKind.wrap .i64 ((IntKind.wrap .i64 (p0q1 + 1)) - 1)) * 7)) + 3)) ((p0q0.length : Nat) : Int)) p0q0.length).bind fun j5 =>
  (p0q0[j5]?).bind fun v6 =>
  (bif decide ((((p0q0.length : Nat) : Int) : Int) = 0) then
  none
  else
  (bif decide ((p1 : Int) = 0) then
  none
  else
  some ([.one ((.int .i64 (Int.tmod (IntKind.wrap .i64 ((BitVec.ofInt (IntKind.bits .i64) (IntKind.wrap .i64 ((IntKind.wrap .i64 ((IntKind.wrap .i64 ((IntKind.wrap .i64 ((IntKind.wrap .i64 v4) * 131)) + (IntKind.wrap .i64 ((IntKind.wrap .i64 v6) * 1117)))) + (IntKind.wrap .i64 ((IntKind.wrap .i64 ((IntKind.wrap .i64 (p0q1 + 1)) - 1)) * 29)))) + (IntKind.wrap .i64 ((IntKind.wrap .i64 (Int.tdiv (IntKind.wrap .i64 ((IntKind.wrap .i64 (p0q1 + 1)) - 1)) ((p0q0.length : Nat) : Int))) * 53)))) ^^^ BitVec.ofInt (IntKind.bits .i64) (IntKind.wrap .i64 (Int.tdiv (IntKind.wrap .i64 ((IntKind.wrap .i64 ((IntKind.wrap .i64 ((IntKind.wrap .i64 ((IntKind.wrap .i64 v4) * 131)) + (IntKind.wrap .i64 ((IntKind.wrap .i64 v6) * 1117)))) + (IntKind.wrap .i64 ((IntKind.wrap .i64 ((IntKind.wrap .i64 (p0q1 + 1)) - 1)) * 29)))) + (IntKind.wrap .i64 ((IntKind.wrap .i64 (Int.tdiv (IntKind.wrap .i64 ((IntKind.wrap .i64 (p0q1 + 1)) - 1)) ((p0q0.length : Nat) : Int))) * 53)))) 64))).toNat : Int)) p1)), false)], [[(.ints .u8 p0q0), (.int .i64 (IntKind.wrap .i64 (p0q1 + 1)))]])))))))) := by kernel_rfl
end spec_reader_pick
theorem spec_reader_pick.ok_of (hX : ∀ E ∈ spec_reader_pick.X, CallSpec Try.prog E) (h : ∀ (bs : List Int) (p : Int) (n : Int), (rdOk bs p && decide ((n : Int) ≤ 1048576)) = true → ∃ fuel, runF Try.prog spec_reader_pick.X spec_reader_pick.I 0 fuel 50 Try.f50 [.box [(.ints .u8 bs), (.int .i64 p)], .d (.int .i64 n)] = some ([.one ((.int .i64 (pickV bs p n)), false)], [[(.ints .u8 bs), (.int .i64 (p + 1))]])) : CallSpec Try.prog spec_reader_pick.E :=
  callSpec_of (d := 0) hX (by kernel_rfl) spec_reader_pick.I_ok (by kernel_rfl) (by kernel_rfl) (by kernel_rfl) (fun _ _ _ _ h => by dsimp only [spec_reader_pick.E] at h; cases h) (fun xs hp => by
    dsimp only [spec_reader_pick.E] at hp ⊢
    split at hp
    · exact h _ _ _ hp
    · cases hp)
theorem spec_reader_pick.ok : CallSpec Try.prog spec_reader_pick.E := spec_reader_pick.ok_of (by simp [spec_reader_pick.X]) fun bs p n h => ⟨0, by
  simp only [Bool.and_eq_true, decide_eq_true_eq] at h
  obtain ⟨h0, h1, h2, h3⟩ := rdOk_inv h.1
  have hP := @wS (p + 1) (by omega) (by omega)
  have hK := @wS (p + 1 - 1) (by omega) (by omega)
  rw [show p + 1 - 1 = p by omega] at hK
  rw [spec_reader_pick.e]
  simp only [hP, show p + 1 - 1 = p by omega, hK]
  unfold pickV
  by_cases hn : n < 1
  · rw [decide_eq_true hn]; rfl
  rw [decide_eq_false hn, cond_false, cond_false]
  by_cases hL : bs.length = 0
  · rw [show (((bs.length : Nat) : Int) == 0) = true by simp [hL]]; rfl
  rw [beq0 hL, cond_false, cond_false]
  by_cases hp : p < ((bs.length : Nat) : Int)
  · have hlt : p.toNat < bs.length := by omega
    have hi : idx p bs.length = some p.toNat := by unfold idx; rw [if_pos ⟨h0, hp⟩]
    rw [decide_eq_true hp, hi, decide_eq_false (p := n = 0) (by omega)]
    simp [hlt]
  · have t1 := tmod_bd (x := p) (n := ((bs.length : Nat) : Int)) h0 (by omega)
    have e7 := @wS (p * 7) (by omega) (by omega)
    have e8 := @wS (p * 7 + 3) (by omega) (by omega)
    have t2 := tmod_bd (x := p * 7 + 3) (n := ((bs.length : Nat) : Int)) (by omega) (by omega)
    have i1 : idx (Int.tmod p ((bs.length : Nat) : Int)) bs.length = some (Int.tmod p ((bs.length : Nat) : Int)).toNat := by unfold idx; rw [if_pos t1]
    have i2 : idx (Int.tmod (p * 7 + 3) ((bs.length : Nat) : Int)) bs.length = some (Int.tmod (p * 7 + 3) ((bs.length : Nat) : Int)).toNat := by unfold idx; rw [if_pos t2]
    have g1 : (Int.tmod p ((bs.length : Nat) : Int)).toNat < bs.length := by omega
    have g2 : (Int.tmod (p * 7 + 3) ((bs.length : Nat) : Int)).toNat < bs.length := by omega
    have q1 : bs[(Int.tmod p ((bs.length : Nat) : Int)).toNat]? = some (bs.getD (Int.tmod p ((bs.length : Nat) : Int)).toNat 0) := by simp [g1]
    have q2 : bs[(Int.tmod (p * 7 + 3) ((bs.length : Nat) : Int)).toNat]? = some (bs.getD (Int.tmod (p * 7 + 3) ((bs.length : Nat) : Int)).toNat 0) := by simp [g2]
    rw [decide_eq_false hp, decide_eq_false (p := (((bs.length : Nat) : Int) = 0)) (by omega), decide_eq_false (p := n = 0) (by omega), e7, e8, i1, i2]
    simp only [cond_false, Option.bind_some, q1, q2]
    rfl⟩

namespace spec_reader_one
noncomputable def E : Entry := ⟨28, false, false, fun | [.box [(.ints .u8 bs), (.int .i64 p)], .d (.ints .i64 xs)] => rdOk bs p && decide (0 < (xs : List Int).length) && decide ((xs : List Int).length ≤ 1048576) | _ => false, fun | [.box [(.ints .u8 bs), (.int .i64 p)], .d (.ints .i64 xs)] => ([.one ((.int .i64 (oneV bs p xs)), false)], [[(.ints .u8 bs), (.int .i64 (p + 1))]]) | _ => ([], []), fun _ => [], false, fun _ => none⟩
end spec_reader_one
namespace spec_reader_one
noncomputable def X : List Entry := [spec_reader_pick.E]
noncomputable def I : List Inl := [⟨28, Try.f28, ⟨[], [], [], [], [], []⟩⟩]
theorem I_ok : ∀ i ∈ I, Try.prog.funcs[i.f]? = some i.fn ∧ (i.fn.name == "runtime.NumGoroutine") = false := by
  intro i hi
  simp only [I, List.mem_cons, List.not_mem_nil, or_false] at hi
  subst hi
  exact ⟨by kernel_rfl, by kernel_rfl⟩
theorem e (fuel : Nat) (p0q0 : List Int) (p0q1 : Int) (p1 : List Int) : runF Try.prog X I 0 fuel 28 Try.f28 [.box [(.ints .u8 p0q0), (.int .i64 p0q1)], .d (.ints .i64 p1)] =
  (bif rdOk p0q0 p0q1 && decide (((((p1.length : Nat) : Int)) : Int) ≤ 1048576) then
  (idx (pickV p0q0 p0q1 (((p1.length : Nat) : Int))) p1.length).bind fun j1 =>
  (p1[j1]?).bind fun v2 =>
  some ([.one ((.int .i64 v2), false)], [[(.ints .u8 p0q0), (.int .i64 (p0q1 + 1))]])
  else
  none) := by kernel_rfl
end spec_reader_one
theorem spec_reader_one.ok_of (hX : ∀ E ∈ spec_reader_one.X, CallSpec Try.prog E) (h : ∀ (bs : List Int) (p : Int) (xs : List Int), (rdOk bs p && decide (0 < (xs : List Int).length) && decide ((xs : List Int).length ≤ 1048576)) = true → ∃ fuel, runF Try.prog spec_reader_one.X spec_reader_one.I 0 fuel 28 Try.f28 [.box [(.ints .u8 bs), (.int .i64 p)], .d (.ints .i64 xs)] = some ([.one ((.int .i64 (oneV bs p xs)), false)], [[(.ints .u8 bs), (.int .i64 (p + 1))]])) : CallSpec Try.prog spec_reader_one.E :=
  callSpec_of (d := 0) hX (by kernel_rfl) spec_reader_one.I_ok (by kernel_rfl) (by kernel_rfl) (by kernel_rfl) (fun _ _ _ _ h => by dsimp only [spec_reader_one.E] at h; cases h) (fun xs hp => by
    dsimp only [spec_reader_one.E] at hp ⊢
    split at hp
    · exact h _ _ _ hp
    · cases hp)
theorem spec_reader_one.ok : CallSpec Try.prog spec_reader_one.E := spec_reader_one.ok_of (by simp [spec_reader_one.X, spec_reader_pick.ok]) fun bs p xs h => ⟨0, by
  simp only [Bool.and_eq_true, decide_eq_true_eq] at h
  have hb := pick_bd (n := ((xs.length : Nat) : Int)) h.1.1 (by omega)
  have hi : idx (pickV bs p ((xs.length : Nat) : Int)) xs.length = some (pickV bs p ((xs.length : Nat) : Int)).toNat := by unfold idx; rw [if_pos hb]
  have g : (pickV bs p ((xs.length : Nat) : Int)).toNat < xs.length := by omega
  rw [spec_reader_one.e, h.1.1, decide_eq_true (p := (((xs.length : Nat) : Int) ≤ 1048576)) (by omega), hi]
  unfold oneV
  simp [g]⟩

namespace spec_copyInts
noncomputable def E : Entry := ⟨66, false, false, fun | [.d (.ints .i64 xs)] => szB xs | _ => false, fun | [.d (.ints .i64 xs)] => ([.one ((.ints .i64 xs), true)], []) | _ => ([], []), fun _ => [], true, fun _ => none⟩
end spec_copyInts
namespace spec_copyInts
noncomputable def X : List Entry := []
noncomputable def I : List Inl := [⟨66, Try.f66, ⟨[], [], [], [], [], []⟩⟩]
theorem I_ok : ∀ i ∈ I, Try.prog.funcs[i.f]? = some i.fn ∧ (i.fn.name == "runtime.NumGoroutine") = false := by
  intro i hi
  simp only [I, List.mem_cons, List.not_mem_nil, or_false] at hi
  subst hi
  exact ⟨by kernel_rfl, by kernel_rfl⟩
theorem e (fuel : Nat) (p0 : List Int) : runF Try.prog X I 0 fuel 66 Try.f66 [.d (.ints .i64 p0)] =
  (bif fits (([] : List Int).length + p0.length) 8 then
  some ([.one ((.ints .i64 (([] : List Int) ++ p0)), true)], [])
  else
  none) := by kernel_rfl
end spec_copyInts
theorem spec_copyInts.ok_of (hX : ∀ E ∈ spec_copyInts.X, CallSpec Try.prog E) (h : ∀ (xs : List Int), (szB xs) = true → ∃ fuel, runF Try.prog spec_copyInts.X spec_copyInts.I 0 fuel 66 Try.f66 [.d (.ints .i64 xs)] = some ([.one ((.ints .i64 xs), true)], [])) : CallSpec Try.prog spec_copyInts.E :=
  callSpec_of (d := 0) hX (by kernel_rfl) spec_copyInts.I_ok (by kernel_rfl) (by kernel_rfl) (by kernel_rfl) (fun _ _ _ _ h => by dsimp only [spec_copyInts.E] at h; cases h) (fun xs hp => by
    dsimp only [spec_copyInts.E] at hp ⊢
    split at hp
    · exact h _ hp
    · cases hp)
theorem spec_copyInts.ok : CallSpec Try.prog spec_copyInts.E := spec_copyInts.ok_of (by simp [spec_copyInts.X]) fun xs h => ⟨0, by
  have hx := szB_le h
  rw [spec_copyInts.e, fitsOk (by simp; omega)]
  rfl⟩

namespace spec_reader_spoil
noncomputable def E : Entry := ⟨49, false, false, fun | [.box [(.ints .u8 bs), (.int .i64 p)], .d (.ints .i64 xs), .d (.int .i64 n)] => rdOk bs p && decide ((p : Int) ≤ 2000000) && decide ((xs : List Int).length ≤ 1000000) | _ => false, fun | [.box [(.ints .u8 bs), (.int .i64 p)], .d (.ints .i64 xs), .d (.int .i64 n)] => ([.one ((.ints .i64 (spV bs p xs n)), false)], [[(.ints .u8 bs), (.int .i64 (spP bs p xs))]]) | _ => ([], []), fun _ => [], false, fun _ => none⟩
end spec_reader_spoil
namespace spec_reader_spoil
noncomputable def X : List Entry := [spec_copyInts.E, spec_reader_pick.E, spec_reader_one.E]
noncomputable def I : List Inl := [⟨49, Try.f49, ⟨[9], [], [(7, [7]), (11, [7])], [], [37], []⟩⟩]
theorem I_ok : ∀ i ∈ I, Try.prog.funcs[i.f]? = some i.fn ∧ (i.fn.name == "runtime.NumGoroutine") = false := by
  intro i hi
  simp only [I, List.mem_cons, List.not_mem_nil, or_false] at hi
  subst hi
  exact ⟨by kernel_rfl, by kernel_rfl⟩
theorem e (fuel : Nat) (p0q0 : List Int) (p0q1 : Int) (p1 : List Int) (p2 : Int) : runF Try.prog X I 0 fuel 49 Try.f49 [.box [(.ints .u8 p0q0), (.int .i64 p0q1)], .d (.ints .i64 p1), .d (.int .i64 p2)] =
  (bif szB p1 then
  (bif rdOk p0q0 p0q1 && decide ((20 : Int) ≤ 1048576) then
  (bif (((pickV p0q0 p0q1 20) : Int) == 0) then
  (bif fits (p1.length + ([p2] : List Int).length) 8 then
  some ([.one ((.ints .i64 (p1 ++ [p2])), false)], [[(.ints .u8 p0q0), (.int .i64 (p0q1 + 1))]])
  else
  none)
  else
  (bif (((pickV p0q0 p0q1 20) : Int) == 1) then
  (bif (decide ((((p1.length : Nat) : Int) : Int) > 0)) then
  (cutEnds p1.length (some (.imm (.int .i64 1))) (none)).bind fun cq1 =>
  some ([.one ((.ints .i64 ((p1.drop cq1.1).take (cq1.2 - cq1.1))), false)], [[(.ints .u8 p0q0), (.int .i64 (p0q1 + 1))]])
  else
  some ([.one ((.ints .i64 p1), false)], [[(.ints .u8 p0q0), (.int .i64 (p0q1 + 1))]]))
  else
  (bif (((pickV p0q0 p0q1 20) : Int) == 2) then
  (bif (decide ((((p1.length : Nat) : Int) : Int) > 0)) then
  (bif rdOk p0q0 ((p0q1 + 1)) && decide (((((p1.length : Nat) : Int)) : Int) ≤ 1048576) then
  (bif rdOk p0q0 ((((p0q1 + 1)) + 1)) && decide (0 < ((([(-1), p2, 0, 1] : List Int)) : List Int).length) && decide (((([(-1), p2, 0, 1] : List Int)) : List Int).length ≤ 1048576) then
  (idx (pickV p0q0 ((p0q1 + 1)) (((p1.length : Nat) : Int))) p1.length).bind fun j2 =>
  (bif decide (j2 < p1.length) then
  some ([.one ((.ints .i64 (p1.set j2 (oneV p0q0 ((((p0q1 + 1)) + 1)) (([(-1), p2, 0, 1] : List Int))))), false)], [[(.ints .u8 p0q0), (.int .i64 (((((p0q1 + 1)) + 1)) + 1))]])
  else
  none)
  else
  none)
  else
  none)
  else
  some ([.one ((.ints .i64 p1), false)], [[(.ints .u8 p0q0), (.int .i64 (p0q1 + 1))]]))
  else
  some ([.one ((.ints .i64 p1), false)], [[(.ints .u8 p0q0), (.int .i64 (p0q1 + 1))]]))))
  else
  none)
  else
  none) := by kernel_rfl
end spec_reader_spoil
theorem spec_reader_spoil.ok_of (hX : ∀ E ∈ spec_reader_spoil.X, CallSpec Try.prog E) (h : ∀ (bs : List Int) (p : Int) (xs : List Int) (n : Int), (rdOk bs p && decide ((p : Int) ≤ 2000000) && decide ((xs : List Int).length ≤ 1000000)) = true → ∃ fuel, runF Try.prog spec_reader_spoil.X spec_reader_spoil.I 0 fuel 49 Try.f49 [.box [(.ints .u8 bs), (.int .i64 p)], .d (.ints .i64 xs), .d (.int .i64 n)] = some ([.one ((.ints .i64 (spV bs p xs n)), false)], [[(.ints .u8 bs), (.int .i64 (spP bs p xs))]])) : CallSpec Try.prog spec_reader_spoil.E :=
  callSpec_of (d := 0) hX (by kernel_rfl) spec_reader_spoil.I_ok (by kernel_rfl) (by kernel_rfl) (by kernel_rfl) (fun _ _ _ _ h => by dsimp only [spec_reader_spoil.E] at h; cases h) (fun xs hp => by
    dsimp only [spec_reader_spoil.E] at hp ⊢
    split at hp
    · exact h _ _ _ _ hp
    · cases hp)
theorem spec_reader_spoil.ok : CallSpec Try.prog spec_reader_spoil.E := spec_reader_spoil.ok_of (by simp [spec_reader_spoil.X, spec_copyInts.ok, spec_reader_pick.ok, spec_reader_one.ok]) fun bs p xs n h => ⟨0, by
  simp only [Bool.and_eq_true, decide_eq_true_eq] at h
  obtain ⟨⟨h1, h2⟩, h3⟩ := h
  have r1 := rd_le (q := p + 1) h1 (by omega) (by omega)
  have r2 := rd_le (q := p + 1 + 1) h1 (by omega) (by omega)
  rw [spec_reader_spoil.e, szB_of (by omega), h1]
  unfold spV spP
  simp only [Bool.true_and, cond_true]
  rw [decide_eq_true (p := (20 : Int) ≤ 1048576) (by omega), cond_true]
  cases pickV bs p 20 == 0 with
  | true => rw [fitsOk (by simp only [List.length_cons, List.length_nil]; omega)]; rfl
  | false =>
    cases pickV bs p 20 == 1 with
    | true =>
      simp only [cond_true, cond_false]
      by_cases h0 : xs.length = 0
      · have e := List.length_eq_zero_iff.mp h0
        subst e
        rfl
      · rw [decide_eq_true (p := ((xs.length : Nat) : Int) > 0) (by omega), cond_true, cut_one (by omega)]
        simp only [Option.bind_some]
        rw [drop_take]
    | false =>
      cases pickV bs p 20 == 2 with
      | false => rfl
      | true =>
        simp only [cond_true, cond_false]
        by_cases h0 : xs.length = 0
        · have e := List.length_eq_zero_iff.mp h0
          subst e
          rfl
        · have pb := pick_bd (n := ((xs.length : Nat) : Int)) r1 (by omega)
          have hi : idx (pickV bs (p + 1) ((xs.length : Nat) : Int)) xs.length = some (pickV bs (p + 1) ((xs.length : Nat) : Int)).toNat := by
            simp only [idx]
            rw [if_pos (by omega)]
          rw [decide_eq_true (p := ((xs.length : Nat) : Int) > 0) (by omega), cond_true, r1, r2, decide_eq_true (p := ((xs.length : Nat) : Int) ≤ 1048576) (by omega), hi, decide_eq_true (p := 0 < xs.length) (by omega)]
          simp only [Bool.true_and, cond_true, Option.bind_some]
          rw [decide_eq_true (p := (pickV bs (p + 1) ((xs.length : Nat) : Int)).toNat < xs.length) (by omega)]
          rfl⟩

namespace spec_anyBases
noncomputable def E : Entry := ⟨27, false, false, fun | [.box [(.ints .u8 bs), (.int .i64 p)]] => rdOk bs p && decide ((p : Int) ≤ 900000) | _ => false, fun | [.box [(.ints .u8 bs), (.int .i64 p)]] => ([.one ((.ints .i64 (aBs bs p)), false)], [[(.ints .u8 bs), (.int .i64 (aBsP bs p))]]) | _ => ([], []), fun _ => [], false, fun _ => none⟩
end spec_anyBases
namespace spec_anyBases
noncomputable def X : List Entry := [spec_reader_one.E, spec_reader_spoil.E]
noncomputable def I : List Inl := [⟨27, Try.f27, ⟨[21], [(1000003, [1, 2, 5, 6, 7, 8, 9, 10, 11, 12, 13, 14, 15, 16, 17, 18, 19, 20, 21])], [(3000021, [3])], [], [7, 15], [21]⟩⟩]
theorem I_ok : ∀ i ∈ I, Try.prog.funcs[i.f]? = some i.fn ∧ (i.fn.name == "runtime.NumGoroutine") = false := by
  intro i hi
  simp only [I, List.mem_cons, List.not_mem_nil, or_false] at hi
  subst hi
  exact ⟨by kernel_rfl, by kernel_rfl⟩
noncomputable abbrev L0 (fuel n : Nat) (s : St) (k : Kont) := lAt Try.prog X I fuel false 0 false 27 (bodyOf Try.f27) [1, 1, 0, 1, 0] n s k
noncomputable abbrev k0  (fuel : Nat) : Kont := (kAt Try.prog X I fuel false 0 false 27 (bodyOf Try.f27) [1, 1, 0, 1, 0] [] (endK Try.prog Try.f27))
noncomputable def t0 (p0q0 : List Int) (x0q0 : Int) (x0q2 : Int) (x0q3 : List Int) : St := ⟨[(.ptr 1000000000 0 0), .dead, .dead, (.all 1000000001 1), (.imm (.int .i64 x0q0)), .dead, .dead, .dead, .dead, .dead, .dead, .dead, .dead, .dead, .dead, .dead, .dead, .dead, .dead, .dead, .dead, .dead], hOf [(1000000000, (.box [(.imm (.ints .u8 p0q0)), (.imm (.int .i64 x0q2))])), (1000000001, (.ints .i64 x0q3))], [(.ptr 1000000000 0 0)], []⟩
theorem e (fuel : Nat) (p0q0 : List Int) (p0q1 : Int) : runF Try.prog X I 0 fuel 27 Try.f27 [.box [(.ints .u8 p0q0), (.int .i64 p0q1)]] =
  (bif rdOk p0q0 p0q1 && decide (0 < ((([2, 3, 1, 4, 0, 6, 7] : List Int)) : List Int).length) && decide (((([2, 3, 1, 4, 0, 6, 7] : List Int)) : List Int).length ≤ 1048576) then
  L0 fuel fuel (t0 p0q0 ((oneV p0q0 p0q1 (([2, 3, 1, 4, 0, 6, 7] : List Int)))) ((p0q1 + 1)) ([])) (k0  fuel)
  else
  none) := by kernel_rfl
theorem s0 (fuel n0 : Nat) (p0q0 : List Int) (x0q0 : Int) (x0q2 : Int) (x0q3 : List Int) : L0 fuel (n0 + 1) (t0 p0q0 x0q0 x0q2 x0q3) (k0  fuel) =
  (bif (decide ((x0q0 : Int) > 0)) then
  (bif rdOk p0q0 x0q2 && decide (0 < ((([2, 10, 7, 60, 1, 3] : List Int)) : List Int).length) && decide (((([2, 10, 7, 60, 1, 3] : List Int)) : List Int).length ≤ 1048576) then
  (bif fits (x0q3.length + ([(oneV p0q0 x0q2 (([2, 10, 7, 60, 1, 3] : List Int)))] : List Int).length) 8 then
  L0 fuel n0 (t0 p0q0 ((IntKind.wrap .i64 (x0q0 - 1))) ((x0q2 + 1)) ((x0q3 ++ [(oneV p0q0 x0q2 (([2, 10, 7, 60, 1, 3] : List Int)))]))) (k0  fuel)
  else
  none)
  else
  none)
  else
  (bif rdOk p0q0 x0q2 && decide ((x0q2 : Int) ≤ 2000000) && decide ((x0q3 : List Int).length ≤ 1000000) then
  some ([.one ((.ints .i64 (spV p0q0 x0q2 x0q3 1001)), false)], [[(.ints .u8 p0q0), (.int .i64 (spP p0q0 x0q2 x0q3))]])
  else
  none)) := by kernel_rfl
end spec_anyBases
theorem spec_anyBases.ok_of (hX : ∀ E ∈ spec_anyBases.X, CallSpec Try.prog E) (h : ∀ (bs : List Int) (p : Int), (rdOk bs p && decide ((p : Int) ≤ 900000)) = true → ∃ fuel, runF Try.prog spec_anyBases.X spec_anyBases.I 0 fuel 27 Try.f27 [.box [(.ints .u8 bs), (.int .i64 p)]] = some ([.one ((.ints .i64 (aBs bs p)), false)], [[(.ints .u8 bs), (.int .i64 (aBsP bs p))]])) : CallSpec Try.prog spec_anyBases.E :=
  callSpec_of (d := 0) hX (by kernel_rfl) spec_anyBases.I_ok (by kernel_rfl) (by kernel_rfl) (by kernel_rfl) (fun _ _ _ _ h => by dsimp only [spec_anyBases.E] at h; cases h) (fun xs hp => by
    dsimp only [spec_anyBases.E] at hp ⊢
    split at hp
    · exact h _ _ hp
    · cases hp)
theorem spec_anyBases.ok : CallSpec Try.prog spec_anyBases.E := spec_anyBases.ok_of (by simp [spec_anyBases.X, spec_reader_one.ok, spec_reader_spoil.ok]) fun bs p h => by
  obtain ⟨F, hF⟩ : ∃ F : Nat, 1000 < F := ⟨1001, by omega⟩
  refine ⟨F, ?_⟩
  simp only [Bool.and_eq_true, decide_eq_true_eq] at h
  obtain ⟨n1, n2⟩ := aBn_bd h.1
  have hp := (rdOk_inv h.1).1
  have hlen : (aB0 bs p).length = aBn bs p := tab_length _ _
  rw [spec_anyBases.e, h.1, n2]
  show spec_anyBases.L0 F F _ _ = _
  refine run_loop (N := aBn bs p) (fun n j (st : Int × Int × List Int) => spec_anyBases.L0 F n (spec_anyBases.t0 bs st.1 st.2.1 st.2.2) (spec_anyBases.k0 F)) (fun j st => st.1 = ((aBn bs p - j : Nat) : Int) ∧ st.2.1 = p + 1 + ((j : Nat) : Int) ∧ st.2.2 = (aB0 bs p).take j) ?_ ?_ F 0 (_, p + 1, []) (by omega) (by omega) ⟨rfl, by simp, by simp⟩
  · rintro n ⟨c, q, out⟩ ⟨e0, e1, e2⟩
    simp only at e0 e1 e2
    rw [← hlen, List.take_length] at e2
    subst e0
    subst e1
    subst e2
    have r1 := rd_le (q := p + 1 + ((aBn bs p : Nat) : Int)) h.1 (by omega) (by omega)
    dsimp only
    rw [spec_anyBases.s0, decide_eq_false (by omega), cond_false, r1, decide_eq_true (p := p + 1 + ((aBn bs p : Nat) : Int) ≤ 2000000) (by omega), decide_eq_true (p := (aB0 bs p).length ≤ 1000000) (by omega)]
    rfl
  · rintro n j ⟨c, q, out⟩ hj ⟨e0, e1, e2⟩
    simp only at e0 e1 e2
    subst e0
    subst e1
    have hol : out.length = j := by rw [e2, take_len (by omega)]
    have r1 := rd_le (q := p + 1 + ((j : Nat) : Int)) h.1 (by omega) (by omega)
    dsimp only
    rw [spec_anyBases.s0, decide_eq_true (by omega), cond_true, r1, fitsOk (by simp only [List.length_cons, List.length_nil]; omega)]
    refine ⟨(((aBn bs p - (j + 1) : Nat) : Int), p + 1 + ((j + 1 : Nat) : Int), out ++ [oneV bs (p + 1 + ((j : Nat) : Int)) basL]), ⟨rfl, rfl, ?_⟩, ?_⟩
    · simp only
      rw [e2]
      refine take_push (by omega) ?_
      simp only [aB0]
      rw [tab_getD hj]
    · dsimp only
      rw [wS (by omega) (by omega), show ((aBn bs p - j : Nat) : Int) - 1 = ((aBn bs p - (j + 1) : Nat) : Int) by omega, show p + 1 + ((j + 1 : Nat) : Int) = p + 1 + ((j : Nat) : Int) + 1 by omega]
      rfl

namespace spec_DrawEncodeNum
noncomputable def E : Entry := ⟨9, true, false, fun | [.d (.ints .u8 bs)] => bytesB bs | _ => false, fun | [.d (.ints .u8 bs)] => ([.one ((.ints .i64 (aBs (cutC bs) 0)), false), .one ((.int .i64 (dEn (cutC bs))), false)], []) | _ => ([], []), fun _ => [], false, fun _ => none⟩
end spec_DrawEncodeNum
namespace spec_DrawEncodeNum
noncomputable def X : List Entry := [spec_newReader.E, spec_anyBases.E, spec_reader_one.E]
noncomputable def I : List Inl := [⟨9, Try.f9, ⟨[9], [], [], [], [12], []⟩⟩]
theorem I_ok : ∀ i ∈ I, Try.prog.funcs[i.f]? = some i.fn ∧ (i.fn.name == "runtime.NumGoroutine") = false := by
  intro i hi
  simp only [I, List.mem_cons, List.not_mem_nil, or_false] at hi
  subst hi
  exact ⟨by kernel_rfl, by kernel_rfl⟩
theorem e (fuel : Nat) (p0 : List Int) : runF Try.prog X I 0 fuel 9 Try.f9 [.d (.ints .u8 p0)] =
  (bif rdOk ((cutC p0)) 0 && decide ((0 : Int) ≤ 900000) then
  (bif rdOk (((cutC p0))) ((aBsP ((cutC p0)) 0)) && decide (0 < ((([0, 1, 5, 23, 100, 999, (-1), 1000000] : List Int)) : List Int).length) && decide (((([0, 1, 5, 23, 100, 999, (-1), 1000000] : List Int)) : List Int).length ≤ 1048576) then
  some ([.one ((.ints .i64 (aBs ((cutC p0)) 0)), false), .one ((.int .i64 (oneV (((cutC p0))) ((aBsP ((cutC p0)) 0)) (([0, 1, 5, 23, 100, 999, (-1), 1000000] : List Int)))), false)], [])
  else
  none)
  else
  none) := by kernel_rfl
end spec_DrawEncodeNum
theorem spec_DrawEncodeNum.ok_of (hX : ∀ E ∈ spec_DrawEncodeNum.X, CallSpec Try.prog E) (h : ∀ (bs : List Int), (bytesB bs) = true → ∃ fuel, runF Try.prog spec_DrawEncodeNum.X spec_DrawEncodeNum.I 0 fuel 9 Try.f9 [.d (.ints .u8 bs)] = some ([.one ((.ints .i64 (aBs (cutC bs) 0)), false), .one ((.int .i64 (dEn (cutC bs))), false)], [])) : CallSpec Try.prog spec_DrawEncodeNum.E :=
  callSpec_of (d := 0) hX (by kernel_rfl) spec_DrawEncodeNum.I_ok (by kernel_rfl) (by kernel_rfl) (by kernel_rfl) (fun _ _ _ _ h => by dsimp only [spec_DrawEncodeNum.E] at h; cases h) (fun xs hp => by
    dsimp only [spec_DrawEncodeNum.E] at hp ⊢
    split at hp
    · exact h _ hp
    · cases hp)
theorem spec_DrawEncodeNum.ok : CallSpec Try.prog spec_DrawEncodeNum.E := spec_DrawEncodeNum.ok_of (by simp [spec_DrawEncodeNum.X, spec_newReader.ok, spec_anyBases.ok, spec_reader_one.ok]) fun bs h => ⟨0, by
  have r0 := cut_ok h (p := 0) (by omega) (by omega)
  obtain ⟨a1, a2, a3⟩ := aBs_bd r0
  rw [spec_DrawEncodeNum.e, r0, rd_le (q := aBsP (cutC bs) 0) r0 (by omega) (by omega)]
  rfl⟩

namespace impl_countWith
noncomputable def E : Entry := ⟨29, true, false, fun | [.d (.ints .i64 xs)] => decide (xs.length < 9223372036854775808) | _ => false, fun | [.d (.ints .i64 xs)] => ([.one ((.int .i64 (cwV xs)), false), .one ((.bool (bsB xs)), false)], []) | _ => ([], []), fun _ => [], false, fun _ => none⟩
end impl_countWith
namespace impl_countWith
noncomputable def X : List Entry := []
noncomputable def I : List Inl := [⟨29, Try.f29, ⟨[], [(1000005, [0, 1, 2, 3, 5, 6, 7, 8, 9, 10, 11, 12, 13, 14, 18, 19, 20, 21, 22, 23, 24, 25, 26, 27, 28, 29, 30, 31, 32, 33])], [], [], [], []⟩⟩]
theorem I_ok : ∀ i ∈ I, Try.prog.funcs[i.f]? = some i.fn ∧ (i.fn.name == "runtime.NumGoroutine") = false := by
  intro i hi
  simp only [I, List.mem_cons, List.not_mem_nil, or_false] at hi
  subst hi
  exact ⟨by kernel_rfl, by kernel_rfl⟩
noncomputable abbrev L0 (fuel n : Nat) (s : St) (k : Kont) := lAt Try.prog X I fuel true 0 false 29 (bodyOf Try.f29) [1, 1, 1, 0, 1, 0] n s k
noncomputable abbrev k0  (fuel : Nat) : Kont := (kAt Try.prog X I fuel true 0 false 29 (bodyOf Try.f29) [1, 1, 1, 0, 1, 0] [] (endK Try.prog Try.f29))
noncomputable def t0 (p0 : List Int) (x0q0 : Int) (x0q3 : Int) : St := ⟨[.dead, .dead, .dead, .dead, (.imm (.int .i64 x0q0)), .dead, .dead, .dead, .dead, .dead, .dead, .dead, .dead, .dead, .dead, (.imm (.ints .i64 p0)), (.imm (.int .i64 ((p0.length : Nat) : Int))), (.imm (.int .i64 x0q3)), .dead, .dead, .dead, .dead, .dead, .dead, .dead, .dead, .dead, .dead, .dead, .dead, .dead, .dead, .dead, .dead], hOf [], [], []⟩
theorem e (fuel : Nat) (p0 : List Int) : runF Try.prog X I 0 fuel 29 Try.f29 [.d (.ints .i64 p0)] =
  (bif (decide ((((p0.length : Nat) : Int) : Int) < 1)) then
  some ([.one ((.int .i64 0), false), .one ((.bool false), false)], [])
  else
  (bif (decide ((((p0.length : Nat) : Int) : Int) > 6)) then
  some ([.one ((.int .i64 0), false), .one ((.bool false), false)], [])
  else
  L0 fuel fuel (t0 p0 1 0) (k0  fuel))) := by kernel_rfl
theorem s0 (fuel n0 : Nat) (p0 : List Int) (x0q0 : Int) (x0q3 : Int) : L0 fuel (n0 + 1) (t0 p0 x0q0 x0q3) (k0  fuel) =
  (bif (decide ((x0q3 : Int) < ((p0.length : Nat) : Int))) then
  (idx x0q3 p0.length).bind fun j5 =>
  (p0[j5]?).bind fun v6 =>
  (bif (decide ((v6 : Int) < 1)) then
  some ([.one ((.int .i64 0), false), .one ((.bool false), false)], [])
  else
  (bif (decide ((v6 : Int) > 1000)) then
  some ([.one ((.int .i64 0), false), .one ((.bool false), false)], [])
  else
  L0 fuel n0 (t0 p0 ((IntKind.wrap .i64 (x0q0 * v6))) ((IntKind.wrap .i64 (x0q3 + 1)))) (k0  fuel)))
  else
  (bif (decide ((x0q0 : Int) > 1000000)) then
  some ([.one ((.int .i64 0), false), .one ((.bool false), false)], [])
  else
  some ([.one ((.int .i64 x0q0), false), .one ((.bool true), false)], []))) := by kernel_rfl
end impl_countWith
theorem impl_countWith.ok_of (hX : ∀ E ∈ impl_countWith.X, CallSpec Try.prog E) (h : ∀ (xs : List Int), (decide (xs.length < 9223372036854775808)) = true → ∃ fuel, runF Try.prog impl_countWith.X impl_countWith.I 0 fuel 29 Try.f29 [.d (.ints .i64 xs)] = some ([.one ((.int .i64 (cwV xs)), false), .one ((.bool (bsB xs)), false)], [])) : CallSpec Try.prog impl_countWith.E :=
  callSpec_of (d := 0) hX (by kernel_rfl) impl_countWith.I_ok (by kernel_rfl) (by kernel_rfl) (by kernel_rfl) (fun _ _ _ _ h => by dsimp only [impl_countWith.E] at h; cases h) (fun xs hp => by
    dsimp only [impl_countWith.E] at hp ⊢
    split at hp
    · exact h _ hp
    · cases hp)
theorem impl_countWith.loop (fuel : Nat) (xs : List Int) (hx : xs.length < 9223372036854775808) : ∀ (m n j : Nat) (a : Int), xs.length - j = m → m < n → j ≤ xs.length →
    impl_countWith.L0 fuel n (impl_countWith.t0 xs a (j : Int)) (impl_countWith.k0 fuel) = some ([.one (.int .i64 (bif allB (xs.drop j) 1 1000 && decide (volFrom (xs.drop j) a ≤ 1000000) then volFrom (xs.drop j) a else 0), false), .one (.bool (allB (xs.drop j) 1 1000 && decide (volFrom (xs.drop j) a ≤ 1000000)), false)], []) := by
  intro m
  induction m with
  | zero =>
    intro n j a h1 h2 h3
    obtain ⟨n, rfl⟩ : ∃ n', n = n' + 1 := ⟨n - 1, by omega⟩
    have hj : ¬ j < xs.length := by omega
    rw [impl_countWith.s0, dge hj, dropE hj]
    rw [show volFrom [] a = a from rfl, show allB [] 1 1000 = true from rfl]
    simp only [Bool.true_and, cond_false]
    by_cases ha : a ≤ 1000000
    · rw [decide_eq_false (p := a > 1000000) (by omega), decide_eq_true ha]; rfl
    · rw [decide_eq_true (p := a > 1000000) (by omega), decide_eq_false ha]; rfl
  | succ m ih =>
    intro n j a h1 h2 h3
    obtain ⟨n, rfl⟩ : ∃ n', n = n' + 1 := ⟨n - 1, by omega⟩
    have hj : j < xs.length := by omega
    rw [impl_countWith.s0, dlt hj, idx_nat hj, w1 (by omega), dropS hj]
    simp only [cond_true, Option.bind_some, getS hj, volFrom, allB_cons]
    rw [ih n (j + 1) _ (by omega) (by omega) (by omega)]
    generalize xs[j] = x
    by_cases c1 : 1 ≤ x
    · by_cases c2 : x ≤ 1000
      · rw [decide_eq_false (p := x < 1) (by omega), decide_eq_false (p := x > 1000) (by omega), decide_eq_true c1, decide_eq_true c2]
        simp only [Bool.true_and, cond_false]
        rfl
      · rw [decide_eq_false (p := x < 1) (by omega), decide_eq_true (p := x > 1000) (by omega), decide_eq_true c1, decide_eq_false c2]
        simp only [Bool.true_and, Bool.false_and, cond_false, cond_true]
        try rfl
    · rw [decide_eq_true (p := x < 1) (by omega), decide_eq_false c1]
      simp only [Bool.false_and, cond_false, cond_true]
theorem impl_countWith.ok : CallSpec Try.prog impl_countWith.E := impl_countWith.ok_of (by simp [impl_countWith.X]) fun xs h => by
  simp only [decide_eq_true_eq] at h
  refine ⟨xs.length + 1, ?_⟩
  rw [impl_countWith.e]
  unfold cwV bsB volW
  by_cases h1 : 1 ≤ xs.length
  · by_cases h2 : xs.length ≤ 6
    · have := impl_countWith.loop (xs.length + 1) xs h xs.length (xs.length + 1) 0 1 (by omega) (by omega) (by omega)
      rw [decide_eq_false (p := ((xs.length : Nat) : Int) < 1) (by omega), decide_eq_false (p := ((xs.length : Nat) : Int) > 6) (by omega), decide_eq_true h1, decide_eq_true h2]
      exact this
    · rw [decide_eq_false (p := ((xs.length : Nat) : Int) < 1) (by omega), decide_eq_true (p := ((xs.length : Nat) : Int) > 6) (by omega), decide_eq_false h2]
      simp only [Bool.and_false, Bool.false_and]
      rfl
  · rw [decide_eq_true (p := ((xs.length : Nat) : Int) < 1) (by omega), decide_eq_false h1]
    rfl

namespace impl_digitsOf
noncomputable def E : Entry := ⟨30, false, false, fun | [.d (.ints .i64 xs), .d (.int .i64 n)] => posB xs && decide (0 ≤ n) && decide (n ≤ 1000000) | _ => false, fun | [.d (.ints .i64 xs), .d (.int .i64 n)] => ([.one ((.ints .i64 (plN xs n.toNat)), true)], []) | _ => ([], []), fun _ => [], true, fun _ => none⟩
end impl_digitsOf
namespace impl_digitsOf
noncomputable def X : List Entry := []
noncomputable def I : List Inl := [⟨30, Try.f30, ⟨[], [(2, [1, 2, 6, 7, 8, 9, 10, 11, 12, 13, 14, 15, 16, 17, 18, 19, 20, 21, 22, 23, 24])], [], [(5, [1, 3, 0, 2, 4, 5, 6])], [], []⟩⟩, ⟨51, Try.f51, ⟨[], [], [(1, [1])], [], [], []⟩⟩, ⟨67, Try.f67, ⟨[], [(1000001, [2, 4, 5, 6, 7, 8, 9, 10, 11, 12, 13, 14, 15, 16, 17, 18])], [], [], [], []⟩⟩]
theorem I_ok : ∀ i ∈ I, Try.prog.funcs[i.f]? = some i.fn ∧ (i.fn.name == "runtime.NumGoroutine") = false := by
  intro i hi
  simp only [I, List.mem_cons, List.not_mem_nil, or_false] at hi
  rcases hi with rfl | rfl | rfl
  all_goals exact ⟨by kernel_rfl, by kernel_rfl⟩
noncomputable abbrev L0 (fuel n : Nat) (s : St) (k : Kont) := lAt Try.prog X I fuel true 3 false 67 (bodyOf Try.f67) [1, 0] n s k
noncomputable abbrev k0  (fuel : Nat) : Kont := (kAt Try.prog X I fuel true 3 false 67 (bodyOf Try.f67) [1, 0] [] (endFn Try.prog Try.f67 25 (kRange (kAt Try.prog X I fuel true 4 false 30 (bodyOf Try.f30) [1, 1, 0, 1, 0] [] (endK Try.prog Try.f30)))))
noncomputable def t0 (p0 : List Int) (x0q1 : Int) (x0q5 : Int) (x0q6 : List Int) : St := ⟨[(.yld 1000000001), (.imm (.pbox [(.ints .i64 p0)])), .dead, (.imm (.int .i64 x0q1)), .dead, .dead, .dead, .dead, .dead, .dead, .dead, .dead, .dead, .dead, .dead, .dead, .dead, .dead, .dead], hOf [(1000000000, .dfr), (1000000001, (.loop 30 [(.imm (.ints .i64 p0)), .dead, .dead, (.ptr 1000000002 0 0), (.imm .nils), (.ptr 1000000003 0 0), .dead, .dead, .dead, .dead, .dead, (.imm (.ints .i64 p0)), (.imm (.clo 67 [(.pbox [(.ints .i64 p0)])])), .dead, .dead, .dead, .dead, .dead, .dead, .dead, .dead, .dead, .dead, .dead, .dead] [13, 14] (cAt (bodyOf Try.f30) [1, 1, 0, 1, 0, 0]) (cAt (bodyOf Try.f30) [1, 1, 0, 1, 0, 1]) .ready)), (1000000002, (.box [(.imm (.int .i64 x0q5))])), (1000000003, (.box [(.all 1000000004 1)])), (1000000004, (.ints .i64 x0q6))], [(.imm (.ints .i64 p0)), .dead, .dead, (.ptr 1000000002 0 0), (.imm .nils), (.ptr 1000000003 0 0), .dead, .dead, .dead, .dead, .dead, (.imm (.ints .i64 p0)), (.imm (.clo 67 [(.pbox [(.ints .i64 p0)])])), .dead, .dead, .dead, .dead, .dead, .dead, .dead, .dead, .dead, .dead, .dead, .dead, (.tup [(.dfr 1000000000)]), (.yld 1000000001)], []⟩
theorem e (fuel : Nat) (p0 : List Int) (p1 : Int) : runF Try.prog X I 4 fuel 30 Try.f30 [.d (.ints .i64 p0), .d (.int .i64 p1)] =
  (bif decide (0 ≤ (((p0.length : Nat) : Int) : Int)) && decide ((((p0.length : Nat) : Int) : Int) ≤ ((p0.length : Nat) : Int)) && decide ((((p0.length : Nat) : Int) : Int) ≤ 1152921504606846976) && decide (((8 : Nat) : Int) * ((p0.length : Nat) : Int) ≤ 281474976710656) then
  L0 fuel fuel (t0 p0 ((IntKind.wrap .i64 (((p0.length : Nat) : Int) - 1))) p1 ((List.replicate (((p0.length : Nat) : Int)).toNat (0 : Int)))) (k0  fuel)
  else
  none) := by kernel_rfl
theorem s0 (fuel n0 : Nat) (p0 : List Int) (x0q1 : Int) (x0q5 : Int) (x0q6 : List Int) : L0 fuel (n0 + 1) (t0 p0 x0q1 x0q5 x0q6) (k0  fuel) =
  (bif (decide ((x0q1 : Int) ≥ 0)) then
  (idx x0q1 p0.length).bind fun j7 =>
  (p0[j7]?).bind fun v8 =>
  (bif decide ((v8 : Int) = 0) then
  none
  else
  (idx x0q1 x0q6.length).bind fun j9 =>
  (bif decide (j9 < x0q6.length) then
  (bif decide ((v8 : Int) = 0) then
  none
  else
  L0 fuel n0 (t0 p0 ((IntKind.wrap .i64 (x0q1 - 1))) ((IntKind.wrap .i64 (Int.tdiv x0q5 v8))) ((x0q6.set j9 (Int.tmod x0q5 v8)))) (k0  fuel))
  else
  none))
  else
  some ([.one ((.ints .i64 x0q6), true)], [])) := by kernel_rfl
end impl_digitsOf
theorem impl_digitsOf.ok_of (hX : ∀ E ∈ impl_digitsOf.X, CallSpec Try.prog E) (h : ∀ (xs : List Int) (n : Int), (posB xs && decide (0 ≤ n) && decide (n ≤ 1000000)) = true → ∃ fuel, runF Try.prog impl_digitsOf.X impl_digitsOf.I 4 fuel 30 Try.f30 [.d (.ints .i64 xs), .d (.int .i64 n)] = some ([.one ((.ints .i64 (plN xs n.toNat)), true)], [])) : CallSpec Try.prog impl_digitsOf.E :=
  callSpec_of (d := 4) hX (by kernel_rfl) impl_digitsOf.I_ok (by kernel_rfl) (by kernel_rfl) (by kernel_rfl) (fun _ _ _ _ h => by dsimp only [impl_digitsOf.E] at h; cases h) (fun xs hp => by
    dsimp only [impl_digitsOf.E] at hp ⊢
    split at hp
    · exact h _ _ hp
    · cases hp)
theorem impl_digitsOf.loop (fuel : Nat) (sh : List Int) (n : Nat) (hv : posB sh = true) (hn : n ≤ 1000000) (hf : 1001 < fuel) :
    impl_digitsOf.L0 fuel fuel (impl_digitsOf.t0 sh (((sh.length : Nat) : Int) - 1 - ((0 : Nat) : Int)) (n : Int) (List.replicate sh.length 0)) (impl_digitsOf.k0 fuel) = some ([.one ((.ints .i64 (plN sh n)), true)], []) := by
  obtain ⟨hr, hp⟩ := posB_inv hv
  refine run_loop (N := sh.length) (fun f j (s : Nat × List Int) => impl_digitsOf.L0 fuel f (impl_digitsOf.t0 sh (((sh.length : Nat) : Int) - 1 - (j : Int)) (s.1 : Int) s.2) (impl_digitsOf.k0 fuel)) (fun j s => s.1 = n / prodN (sh.drop (sh.length - j)) ∧ s.2 = tail0 (plN sh n) (sh.length - j)) ?_ ?_ fuel 0 (n, List.replicate sh.length 0) (by omega) (by omega) ⟨by simp [prodN], ?_⟩
  · intro f s ⟨h1, h2⟩
    rw [Nat.sub_self, tail0_zero] at h2
    rw [impl_digitsOf.s0, decide_eq_false (by omega), h2]
    rfl
  · intro f j s hj ⟨h1, h2⟩
    obtain ⟨k, hk⟩ : ∃ k, sh.length - j = k + 1 := ⟨sh.length - j - 1, by omega⟩
    have hkl : k < sh.length := by omega
    obtain ⟨p0, p1, p2⟩ := hp k hkl
    have e1 : ((sh.length : Nat) : Int) - 1 - (j : Int) = (k : Int) := by omega
    have hs2 : s.2.length = sh.length := by rw [h2, tail0_length (by rw [plN_length]; omega), plN_length]
    have hs1 : s.1 ≤ n := by rw [h1]; exact Nat.div_le_self _ _
    have hdl : s.1 / lenN sh k ≤ n := Nat.le_trans (Nat.div_le_self _ _) hs1
    rw [e1, impl_digitsOf.s0, decide_eq_true (by omega), idx_nat hkl, idx_nat (by omega)]
    simp only [cond_true, Option.bind_some, getD_get hkl, p0]
    rw [decide_eq_false (by omega), decide_eq_true (by omega), tdivN, tmodN, wN (by omega), wS (x := (k : Int) - 1) (by omega) (by omega)]
    refine ⟨(s.1 / lenN sh k, s.2.set k ((s.1 % lenN sh k : Nat) : Int)), ⟨?_, ?_⟩, ?_⟩
    · rw [h1, hk, show sh.length - (j + 1) = k by omega, behN_drop hkl, Nat.div_div_eq_div_mul, Nat.mul_comm (lenN sh k)]
      rfl
    · rw [h2, hk, show sh.length - (j + 1) = k by omega]
      refine tail0_set (by rw [plN_length]; exact hkl) ?_
      rw [plN_get hkl, h1, hk]
      rfl
    · rw [show ((sh.length : Nat) : Int) - 1 - ((j + 1 : Nat) : Int) = (k : Int) - 1 by omega]
      rfl
  · have := tail0_all (plN sh n)
    rw [plN_length] at this
    rw [Nat.sub_zero, this]
theorem impl_digitsOf.ok : CallSpec Try.prog impl_digitsOf.E := impl_digitsOf.ok_of (by simp [impl_digitsOf.X, ]) fun sh n h => by
  obtain ⟨F, hF⟩ : ∃ F : Nat, 1001 < F := ⟨1002, by omega⟩
  refine ⟨F, ?_⟩
  simp only [Bool.and_eq_true, decide_eq_true_eq] at h
  obtain ⟨j, rfl⟩ : ∃ j : Nat, n = j := ⟨n.toNat, by omega⟩
  have hr := (posB_inv h.1.1).1
  rw [impl_digitsOf.e, mkOk (by omega) (by omega), cond_true, wS (by omega) (by omega), Int.toNat_natCast, Int.toNat_natCast, show ((sh.length : Nat) : Int) - 1 = ((sh.length : Nat) : Int) - 1 - ((0 : Nat) : Int) by omega]
  exact impl_digitsOf.loop F sh j h.1.1 (by omega) hF

namespace spec_placeIn_b
noncomputable def E : Entry := ⟨34, false, false, fun | [.d (.ints .i64 xs), .d (.int .i64 n)] => posB xs && decide (0 ≤ n) && decide (n ≤ 1000000) | _ => false, fun | [.d (.ints .i64 xs), .d (.int .i64 n)] => ([.one ((.ints .i64 (plN xs n.toNat)), true)], []) | _ => ([], []), fun _ => [], true, fun _ => none⟩
end spec_placeIn_b
namespace spec_placeIn_b
noncomputable def X : List Entry := []
noncomputable def I : List Inl := [⟨34, Try.f34, ⟨[], [(1000003, [2, 3, 4, 7, 8, 9, 10, 11, 12, 13, 14, 15, 16, 17, 18, 19, 20, 21, 22, 23, 24, 25, 26, 27, 28, 29, 30, 31, 32])], [], [], [], []⟩⟩]
theorem I_ok : ∀ i ∈ I, Try.prog.funcs[i.f]? = some i.fn ∧ (i.fn.name == "runtime.NumGoroutine") = false := by
  intro i hi
  simp only [I, List.mem_cons, List.not_mem_nil, or_false] at hi
  subst hi
  exact ⟨by kernel_rfl, by kernel_rfl⟩
noncomputable abbrev L0 (fuel n : Nat) (s : St) (k : Kont) := lAt Try.prog X I fuel true 0 false 34 (bodyOf Try.f34) [1, 1, 0, 1, 0] n s k
noncomputable abbrev k0  (fuel : Nat) : Kont := (kAt Try.prog X I fuel true 0 false 34 (bodyOf Try.f34) [1, 1, 0, 1, 0] [] (endK Try.prog Try.f34))
noncomputable def t0 (p0 : List Int) (x0q1 : Int) (x0q2 : Int) (x0q3 : List Int) : St := ⟨[(.imm (.ints .i64 p0)), (.imm (.int .i64 x0q1)), .dead, .dead, .dead, (.all 1000000000 1), (.imm (.int .i64 x0q2)), .dead, .dead, .dead, .dead, .dead, .dead, .dead, .dead, .dead, .dead, .dead, .dead, .dead, .dead, .dead, .dead, .dead, .dead, .dead, .dead, .dead, .dead, .dead, .dead, .dead, .dead], hOf [(1000000000, (.ints .i64 x0q3))], [], []⟩
theorem e (fuel : Nat) (p0 : List Int) (p1 : Int) : runF Try.prog X I 0 fuel 34 Try.f34 [.d (.ints .i64 p0), .d (.int .i64 p1)] =
  (bif decide (0 ≤ (((p0.length : Nat) : Int) : Int)) && decide ((((p0.length : Nat) : Int) : Int) ≤ ((p0.length : Nat) : Int)) && decide ((((p0.length : Nat) : Int) : Int) ≤ 1152921504606846976) && decide (((8 : Nat) : Int) * ((p0.length : Nat) : Int) ≤ 281474976710656) then
  L0 fuel fuel (t0 p0 p1 ((IntKind.wrap .i64 (((p0.length : Nat) : Int) - 1))) ((List.replicate (((p0.length : Nat) : Int)).toNat (0 : Int)))) (k0  fuel)
  else
  none) := by kernel_rfl
theorem s0 (fuel n0 : Nat) (p0 : List Int) (x0q1 : Int) (x0q2 : Int) (x0q3 : List Int) : L0 fuel (n0 + 1) (t0 p0 x0q1 x0q2 x0q3) (k0  fuel) =
  (bif (decide ((x0q2 : Int) ≥ 0)) then
  (idx x0q2 p0.length).bind fun j11 =>
  (p0[j11]?).bind fun v12 =>
  (bif decide ((v12 : Int) = 0) then
  none
  else
  (idx x0q2 x0q3.length).bind fun j13 =>
  (bif decide (j13 < x0q3.length) then
  (idx x0q2 p0.length).bind fun j14 =>
  (p0[j14]?).bind fun v15 =>
  (bif decide ((v15 : Int) = 0) then
  none
  else
  L0 fuel n0 (t0 p0 ((IntKind.wrap .i64 (Int.tdiv x0q1 v15))) ((IntKind.wrap .i64 (x0q2 - 1))) ((x0q3.set j13 (Int.tmod x0q1 v12)))) (k0  fuel))
  else
  none))
  else
  some ([.one ((.ints .i64 x0q3), true)], [])) := by kernel_rfl
end spec_placeIn_b
theorem spec_placeIn_b.ok_of (hX : ∀ E ∈ spec_placeIn_b.X, CallSpec Try.prog E) (h : ∀ (xs : List Int) (n : Int), (posB xs && decide (0 ≤ n) && decide (n ≤ 1000000)) = true → ∃ fuel, runF Try.prog spec_placeIn_b.X spec_placeIn_b.I 0 fuel 34 Try.f34 [.d (.ints .i64 xs), .d (.int .i64 n)] = some ([.one ((.ints .i64 (plN xs n.toNat)), true)], [])) : CallSpec Try.prog spec_placeIn_b.E :=
  callSpec_of (d := 0) hX (by kernel_rfl) spec_placeIn_b.I_ok (by kernel_rfl) (by kernel_rfl) (by kernel_rfl) (fun _ _ _ _ h => by dsimp only [spec_placeIn_b.E] at h; cases h) (fun xs hp => by
    dsimp only [spec_placeIn_b.E] at hp ⊢
    split at hp
    · exact h _ _ hp
    · cases hp)
theorem spec_placeIn_b.loop (fuel : Nat) (sh : List Int) (n : Nat) (hv : posB sh = true) (hn : n ≤ 1000000) (hf : 1001 < fuel) :
    spec_placeIn_b.L0 fuel fuel (spec_placeIn_b.t0 sh (n : Int) (((sh.length : Nat) : Int) - 1 - ((0 : Nat) : Int)) (List.replicate sh.length 0)) (spec_placeIn_b.k0 fuel) = some ([.one ((.ints .i64 (plN sh n)), true)], []) := by
  obtain ⟨hr, hp⟩ := posB_inv hv
  refine run_loop (N := sh.length) (fun f j (s : Nat × List Int) => spec_placeIn_b.L0 fuel f (spec_placeIn_b.t0 sh (s.1 : Int) (((sh.length : Nat) : Int) - 1 - (j : Int)) s.2) (spec_placeIn_b.k0 fuel)) (fun j s => s.1 = n / prodN (sh.drop (sh.length - j)) ∧ s.2 = tail0 (plN sh n) (sh.length - j)) ?_ ?_ fuel 0 (n, List.replicate sh.length 0) (by omega) (by omega) ⟨by simp [prodN], ?_⟩
  · intro f s ⟨h1, h2⟩
    rw [Nat.sub_self, tail0_zero] at h2
    rw [spec_placeIn_b.s0, decide_eq_false (by omega), h2]
    rfl
  · intro f j s hj ⟨h1, h2⟩
    obtain ⟨k, hk⟩ : ∃ k, sh.length - j = k + 1 := ⟨sh.length - j - 1, by omega⟩
    have hkl : k < sh.length := by omega
    obtain ⟨p0, p1, p2⟩ := hp k hkl
    have e1 : ((sh.length : Nat) : Int) - 1 - (j : Int) = (k : Int) := by omega
    have hs2 : s.2.length = sh.length := by rw [h2, tail0_length (by rw [plN_length]; omega), plN_length]
    have hs1 : s.1 ≤ n := by rw [h1]; exact Nat.div_le_self _ _
    have hdl : s.1 / lenN sh k ≤ n := Nat.le_trans (Nat.div_le_self _ _) hs1
    rw [e1, spec_placeIn_b.s0, decide_eq_true (by omega), idx_nat hkl, idx_nat (by omega)]
    simp only [cond_true, Option.bind_some, getD_get hkl, p0]
    rw [decide_eq_false (by omega), decide_eq_true (by omega), tdivN, tmodN, wN (by omega), wS (x := (k : Int) - 1) (by omega) (by omega)]
    refine ⟨(s.1 / lenN sh k, s.2.set k ((s.1 % lenN sh k : Nat) : Int)), ⟨?_, ?_⟩, ?_⟩
    · rw [h1, hk, show sh.length - (j + 1) = k by omega, behN_drop hkl, Nat.div_div_eq_div_mul, Nat.mul_comm (lenN sh k)]
      rfl
    · rw [h2, hk, show sh.length - (j + 1) = k by omega]
      refine tail0_set (by rw [plN_length]; exact hkl) ?_
      rw [plN_get hkl, h1, hk]
      rfl
    · rw [show ((sh.length : Nat) : Int) - 1 - ((j + 1 : Nat) : Int) = (k : Int) - 1 by omega]
      rfl
  · have := tail0_all (plN sh n)
    rw [plN_length] at this
    rw [Nat.sub_zero, this]
theorem spec_placeIn_b.ok : CallSpec Try.prog spec_placeIn_b.E := spec_placeIn_b.ok_of (by simp [spec_placeIn_b.X, ]) fun sh n h => by
  obtain ⟨F, hF⟩ : ∃ F : Nat, 1001 < F := ⟨1002, by omega⟩
  refine ⟨F, ?_⟩
  simp only [Bool.and_eq_true, decide_eq_true_eq] at h
  obtain ⟨j, rfl⟩ : ∃ j : Nat, n = j := ⟨n.toNat, by omega⟩
  have hr := (posB_inv h.1.1).1
  rw [spec_placeIn_b.e, mkOk (by omega) (by omega), cond_true, wS (by omega) (by omega), Int.toNat_natCast, Int.toNat_natCast, show ((sh.length : Nat) : Int) - 1 = ((sh.length : Nat) : Int) - 1 - ((0 : Nat) : Int) by omega]
  exact spec_placeIn_b.loop F sh j h.1.1 (by omega) hF

namespace impl_EncodeNum
noncomputable def E : Entry := ⟨10, false, false, fun | [.d (.ints .i64 xs), .d (.int .i64 n)] => decide (xs.length < 9223372036854775808) | _ => false, fun | [.d (.ints .i64 xs), .d (.int .i64 n)] => ([.one ((.ints .i64 (enD xs n)), true)], []) | _ => ([], []), fun _ => [], true, fun _ => none⟩
end impl_EncodeNum
namespace impl_EncodeNum
noncomputable def X : List Entry := [impl_countWith.E, impl_digitsOf.E]
noncomputable def I : List Inl := [⟨10, Try.f10, ⟨[25], [], [], [], [], []⟩⟩]
theorem I_ok : ∀ i ∈ I, Try.prog.funcs[i.f]? = some i.fn ∧ (i.fn.name == "runtime.NumGoroutine") = false := by
  intro i hi
  simp only [I, List.mem_cons, List.not_mem_nil, or_false] at hi
  subst hi
  exact ⟨by kernel_rfl, by kernel_rfl⟩
theorem e (fuel : Nat) (p0 : List Int) (p1 : Int) : runF Try.prog X I 0 fuel 10 Try.f10 [.d (.ints .i64 p0), .d (.int .i64 p1)] =
  (bif decide (p0.length < 9223372036854775808) then
  (bif (!(bsB p0)) then
  some ([.one ((.ints .i64 []), true)], [])
  else
  (bif (decide ((p1 : Int) < 0)) then
  some ([.one ((.ints .i64 []), true)], [])
  else
  (bif (decide ((p1 : Int) ≥ (cwV p0))) then
  some ([.one ((.ints .i64 []), true)], [])
  else
  (bif posB p0 && decide (0 ≤ p1) && decide (p1 ≤ 1000000) then
  some ([.one ((.ints .i64 (plN p0 p1.toNat)), true)], [])
  else
  none))))
  else
  none) := by kernel_rfl
end impl_EncodeNum
theorem impl_EncodeNum.ok_of (hX : ∀ E ∈ impl_EncodeNum.X, CallSpec Try.prog E) (h : ∀ (xs : List Int) (n : Int), (decide (xs.length < 9223372036854775808)) = true → ∃ fuel, runF Try.prog impl_EncodeNum.X impl_EncodeNum.I 0 fuel 10 Try.f10 [.d (.ints .i64 xs), .d (.int .i64 n)] = some ([.one ((.ints .i64 (enD xs n)), true)], [])) : CallSpec Try.prog impl_EncodeNum.E :=
  callSpec_of (d := 0) hX (by kernel_rfl) impl_EncodeNum.I_ok (by kernel_rfl) (by kernel_rfl) (by kernel_rfl) (fun _ _ _ _ h => by dsimp only [impl_EncodeNum.E] at h; cases h) (fun xs hp => by
    dsimp only [impl_EncodeNum.E] at hp ⊢
    split at hp
    · exact h _ _ hp
    · cases hp)
theorem impl_EncodeNum.ok : CallSpec Try.prog impl_EncodeNum.E := impl_EncodeNum.ok_of (by simp [impl_EncodeNum.X, impl_countWith.ok, impl_digitsOf.ok]) fun xs n h => ⟨0, by
  rw [impl_EncodeNum.e, h]
  unfold enD enB cwV
  cases hb : bsB xs with
  | false => rfl
  | true =>
    obtain ⟨b1, b2, b3, b4, b5, b6, b7⟩ := bsB_inv hb
    simp only [cond_true]
    rw [b4, b7]
    by_cases h0 : 0 ≤ n
    · by_cases h1 : n < ((prodN xs : Nat) : Int)
      · rw [decide_eq_true h0, decide_eq_false (p := n < 0) (by omega), decide_eq_true h1, decide_eq_false (p := n ≥ ((prodN xs : Nat) : Int)) (by omega), decide_eq_true (p := n ≤ 1000000) (by omega)]; rfl
      · rw [decide_eq_true h0, decide_eq_false (p := n < 0) (by omega), decide_eq_false h1, decide_eq_true (p := n ≥ ((prodN xs : Nat) : Int)) (by omega)]; rfl
    · rw [decide_eq_false h0, decide_eq_true (p := n < 0) (by omega)]; rfl⟩

namespace spec_inRange
noncomputable def E : Entry := ⟨32, true, false, fun | [.d (.int .i64 v), .d (.int .i64 lo), .d (.int .i64 hi)] => true | _ => false, fun | [.d (.int .i64 v), .d (.int .i64 lo), .d (.int .i64 hi)] => ([.one ((.bool (decide (lo ≤ v) && decide (v ≤ hi))), false)], []) | _ => ([], []), fun _ => [], false, fun _ => none⟩
end spec_inRange
namespace spec_inRange
noncomputable def X : List Entry := []
noncomputable def I : List Inl := [⟨32, Try.f32, ⟨[], [], [], [], [], []⟩⟩]
theorem I_ok : ∀ i ∈ I, Try.prog.funcs[i.f]? = some i.fn ∧ (i.fn.name == "runtime.NumGoroutine") = false := by
  intro i hi
  simp only [I, List.mem_cons, List.not_mem_nil, or_false] at hi
  subst hi
  exact ⟨by kernel_rfl, by kernel_rfl⟩
theorem e (fuel : Nat) (p0 : Int) (p1 : Int) (p2 : Int) : runF Try.prog X I 0 fuel 32 Try.f32 [.d (.int .i64 p0), .d (.int .i64 p1), .d (.int .i64 p2)] =
  (bif (decide ((p1 : Int) ≤ p0)) then
  some ([.one ((.bool (decide ((p0 : Int) ≤ p2))), false)], [])
  else
  some ([.one ((.bool false), false)], [])) := by kernel_rfl
end spec_inRange
theorem spec_inRange.ok_of (hX : ∀ E ∈ spec_inRange.X, CallSpec Try.prog E) (h : ∀ (v : Int) (lo : Int) (hi : Int), (true) = true → ∃ fuel, runF Try.prog spec_inRange.X spec_inRange.I 0 fuel 32 Try.f32 [.d (.int .i64 v), .d (.int .i64 lo), .d (.int .i64 hi)] = some ([.one ((.bool (decide (lo ≤ v) && decide (v ≤ hi))), false)], [])) : CallSpec Try.prog spec_inRange.E :=
  callSpec_of (d := 0) hX (by kernel_rfl) spec_inRange.I_ok (by kernel_rfl) (by kernel_rfl) (by kernel_rfl) (fun _ _ _ _ h => by dsimp only [spec_inRange.E] at h; cases h) (fun xs hp => by
    dsimp only [spec_inRange.E] at hp ⊢
    split at hp
    · exact h _ _ _ hp
    · cases hp)
theorem spec_inRange.ok : CallSpec Try.prog spec_inRange.E := spec_inRange.ok_of (by simp [spec_inRange.X]) fun v lo hi _ => ⟨0, by
  rw [spec_inRange.e]
  cases decide (lo ≤ v) <;> rfl⟩

namespace spec_allIn
noncomputable def E : Entry := ⟨52, true, false, fun | [.d (.ints .i64 xs), .d (.int .i64 lo), .d (.int .i64 hi)] => decide (xs.length < 9223372036854775808) | _ => false, fun | [.d (.ints .i64 xs), .d (.int .i64 lo), .d (.int .i64 hi)] => ([.one ((.bool (allB xs lo hi)), false)], []) | _ => ([], []), fun _ => [], false, fun _ => none⟩
end spec_allIn
namespace spec_allIn
noncomputable def X : List Entry := [spec_inRange.E]
noncomputable def I : List Inl := [⟨52, Try.f52, ⟨[], [(1000002, [3, 4, 5, 6, 8, 9, 10, 11, 12, 13, 14, 15, 16, 17, 18, 19, 20, 21])], [], [], [], []⟩⟩]
theorem I_ok : ∀ i ∈ I, Try.prog.funcs[i.f]? = some i.fn ∧ (i.fn.name == "runtime.NumGoroutine") = false := by
  intro i hi
  simp only [I, List.mem_cons, List.not_mem_nil, or_false] at hi
  subst hi
  exact ⟨by kernel_rfl, by kernel_rfl⟩
noncomputable abbrev L0 (fuel n : Nat) (s : St) (k : Kont) := lAt Try.prog X I fuel true 0 false 52 (bodyOf Try.f52) [1, 0, 1, 0] n s k
noncomputable abbrev k0  (fuel : Nat) : Kont := (kAt Try.prog X I fuel true 0 false 52 (bodyOf Try.f52) [1, 0, 1, 0] [] (endK Try.prog Try.f52))
noncomputable def t0 (p0 : List Int) (p1 : Int) (p2 : Int) (x0q3 : Int) : St := ⟨[(.imm (.ints .i64 p0)), (.imm (.int .i64 p1)), (.imm (.int .i64 p2)), .dead, .dead, .dead, .dead, (.imm (.int .i64 x0q3)), .dead, .dead, .dead, .dead, .dead, .dead, .dead, .dead, .dead, .dead, .dead, .dead, .dead, .dead], hOf [], [], []⟩
theorem e (fuel : Nat) (p0 : List Int) (p1 : Int) (p2 : Int) : runF Try.prog X I 0 fuel 52 Try.f52 [.d (.ints .i64 p0), .d (.int .i64 p1), .d (.int .i64 p2)] =
  L0 fuel fuel (t0 p0 p1 p2 0) (k0  fuel) := by kernel_rfl
theorem s0 (fuel n0 : Nat) (p0 : List Int) (p1 : Int) (p2 : Int) (x0q3 : Int) : L0 fuel (n0 + 1) (t0 p0 p1 p2 x0q3) (k0  fuel) =
  (bif (decide ((x0q3 : Int) < ((p0.length : Nat) : Int))) then
  (idx x0q3 p0.length).bind fun j5 =>
  (p0[j5]?).bind fun v6 =>
  (bif (!(decide (p1 ≤ v6) && decide (v6 ≤ p2))) then
  some ([.one ((.bool false), false)], [])
  else
  L0 fuel n0 (t0 p0 p1 p2 ((IntKind.wrap .i64 (x0q3 + 1)))) (k0  fuel))
  else
  some ([.one ((.bool true), false)], [])) := by kernel_rfl
end spec_allIn
theorem spec_allIn.ok_of (hX : ∀ E ∈ spec_allIn.X, CallSpec Try.prog E) (h : ∀ (xs : List Int) (lo : Int) (hi : Int), (decide (xs.length < 9223372036854775808)) = true → ∃ fuel, runF Try.prog spec_allIn.X spec_allIn.I 0 fuel 52 Try.f52 [.d (.ints .i64 xs), .d (.int .i64 lo), .d (.int .i64 hi)] = some ([.one ((.bool (allB xs lo hi)), false)], [])) : CallSpec Try.prog spec_allIn.E :=
  callSpec_of (d := 0) hX (by kernel_rfl) spec_allIn.I_ok (by kernel_rfl) (by kernel_rfl) (by kernel_rfl) (fun _ _ _ _ h => by dsimp only [spec_allIn.E] at h; cases h) (fun xs hp => by
    dsimp only [spec_allIn.E] at hp ⊢
    split at hp
    · exact h _ _ _ hp
    · cases hp)
theorem spec_allIn.loop (fuel : Nat) (xs : List Int) (lo hi : Int) (hx : xs.length < 9223372036854775808) : ∀ (m n j : Nat), xs.length - j = m → m < n → j ≤ xs.length →
    spec_allIn.L0 fuel n (spec_allIn.t0 xs lo hi (j : Int)) (spec_allIn.k0 fuel) = some ([.one (.bool (allB (xs.drop j) lo hi), false)], []) := by
  intro m
  induction m with
  | zero =>
    intro n j h1 h2 h3
    obtain ⟨n, rfl⟩ : ∃ n', n = n' + 1 := ⟨n - 1, by omega⟩
    have hj : ¬ j < xs.length := by omega
    rw [spec_allIn.s0, dge hj, dropE hj]
    rfl
  | succ m ih =>
    intro n j h1 h2 h3
    obtain ⟨n, rfl⟩ : ∃ n', n = n' + 1 := ⟨n - 1, by omega⟩
    have hj : j < xs.length := by omega
    rw [spec_allIn.s0, dlt hj, idx_nat hj, w1 (by omega), dropS hj]
    simp only [cond_true, Option.bind_some, getS hj, allB_cons]
    rw [ih n (j + 1) (by omega) (by omega) (by omega)]
    cases decide (lo ≤ xs[j]) && decide (xs[j] ≤ hi) <;> rfl

theorem spec_allIn.ok : CallSpec Try.prog spec_allIn.E := spec_allIn.ok_of (by simp [spec_allIn.X, spec_inRange.ok]) fun xs lo hi h => by
  simp only [decide_eq_true_eq] at h
  refine ⟨xs.length + 1, ?_⟩
  rw [spec_allIn.e]
  exact spec_allIn.loop (xs.length + 1) xs lo hi h xs.length (xs.length + 1) 0 (by omega) (by omega) (by omega)

namespace spec_volume
noncomputable def E : Entry := ⟨33, true, false, fun | [.d (.ints .i64 xs)] => decide (xs.length < 9223372036854775808) | _ => false, fun | [.d (.ints .i64 xs)] => ([.one ((.int .i64 (volW xs)), false)], []) | _ => ([], []), fun _ => [], false, fun _ => none⟩
end spec_volume
namespace spec_volume
noncomputable def X : List Entry := []
noncomputable def I : List Inl := [⟨33, Try.f33, ⟨[], [(1000003, [1, 2, 5, 6, 7, 8, 9, 10, 11, 12, 13, 14, 15, 16, 17])], [], [], [], []⟩⟩]
theorem I_ok : ∀ i ∈ I, Try.prog.funcs[i.f]? = some i.fn ∧ (i.fn.name == "runtime.NumGoroutine") = false := by
  intro i hi
  simp only [I, List.mem_cons, List.not_mem_nil, or_false] at hi
  subst hi
  exact ⟨by kernel_rfl, by kernel_rfl⟩
noncomputable abbrev L0 (fuel n : Nat) (s : St) (k : Kont) := lAt Try.prog X I fuel true 0 false 33 (bodyOf Try.f33) [1, 1, 0, 1, 0] n s k
noncomputable abbrev k0  (fuel : Nat) : Kont := (kAt Try.prog X I fuel true 0 false 33 (bodyOf Try.f33) [1, 1, 0, 1, 0] [] (endK Try.prog Try.f33))
noncomputable def t0 (p0 : List Int) (x0q1 : Int) (x0q2 : Int) : St := ⟨[(.imm (.ints .i64 p0)), .dead, .dead, (.imm (.int .i64 x0q1)), (.imm (.int .i64 x0q2)), .dead, .dead, .dead, .dead, .dead, .dead, .dead, .dead, .dead, .dead, .dead, .dead, .dead], hOf [], [], []⟩
theorem e (fuel : Nat) (p0 : List Int) : runF Try.prog X I 0 fuel 33 Try.f33 [.d (.ints .i64 p0)] =
  L0 fuel fuel (t0 p0 1 0) (k0  fuel) := by kernel_rfl
theorem s0 (fuel n0 : Nat) (p0 : List Int) (x0q1 : Int) (x0q2 : Int) : L0 fuel (n0 + 1) (t0 p0 x0q1 x0q2) (k0  fuel) =
  (bif (decide ((x0q2 : Int) < ((p0.length : Nat) : Int))) then
  (idx x0q2 p0.length).bind fun j5 =>
  (p0[j5]?).bind fun v6 =>
  L0 fuel n0 (t0 p0 ((IntKind.wrap .i64 (x0q1 * v6))) ((IntKind.wrap .i64 (x0q2 + 1)))) (k0  fuel)
  else
  some ([.one ((.int .i64 x0q1), false)], [])) := by kernel_rfl
end spec_volume
theorem spec_volume.ok_of (hX : ∀ E ∈ spec_volume.X, CallSpec Try.prog E) (h : ∀ (xs : List Int), (decide (xs.length < 9223372036854775808)) = true → ∃ fuel, runF Try.prog spec_volume.X spec_volume.I 0 fuel 33 Try.f33 [.d (.ints .i64 xs)] = some ([.one ((.int .i64 (volW xs)), false)], [])) : CallSpec Try.prog spec_volume.E :=
  callSpec_of (d := 0) hX (by kernel_rfl) spec_volume.I_ok (by kernel_rfl) (by kernel_rfl) (by kernel_rfl) (fun _ _ _ _ h => by dsimp only [spec_volume.E] at h; cases h) (fun xs hp => by
    dsimp only [spec_volume.E] at hp ⊢
    split at hp
    · exact h _ hp
    · cases hp)
theorem spec_volume.loop (fuel : Nat) (xs : List Int) (hx : xs.length < 9223372036854775808) : ∀ (m n j : Nat) (a : Int), xs.length - j = m → m < n → j ≤ xs.length →
    spec_volume.L0 fuel n (spec_volume.t0 xs a (j : Int)) (spec_volume.k0 fuel) = some ([.one (.int .i64 (volFrom (xs.drop j) a), false)], []) := by
  intro m
  induction m with
  | zero =>
    intro n j a h1 h2 h3
    obtain ⟨n, rfl⟩ : ∃ n', n = n' + 1 := ⟨n - 1, by omega⟩
    have hj : ¬ j < xs.length := by omega
    rw [spec_volume.s0, dge hj, dropE hj]
    rfl
  | succ m ih =>
    intro n j a h1 h2 h3
    obtain ⟨n, rfl⟩ : ∃ n', n = n' + 1 := ⟨n - 1, by omega⟩
    have hj : j < xs.length := by omega
    rw [spec_volume.s0, dlt hj, idx_nat hj, w1 (by omega), dropS hj]
    simp only [cond_true, Option.bind_some, getS hj, volFrom]
    exact ih n (j + 1) _ (by omega) (by omega) (by omega)

theorem spec_volume.ok : CallSpec Try.prog spec_volume.E := spec_volume.ok_of (by simp [spec_volume.X]) fun xs h => by
  simp only [decide_eq_true_eq] at h
  refine ⟨xs.length + 1, ?_⟩
  rw [spec_volume.e]
  exact spec_volume.loop (xs.length + 1) xs h xs.length (xs.length + 1) 0 1 (by omega) (by omega) (by omega)

namespace spec_validBases
noncomputable def E : Entry := ⟨31, true, false, fun | [.d (.ints .i64 xs)] => decide (xs.length < 9223372036854775808) | _ => false, fun | [.d (.ints .i64 xs)] => ([.one ((.bool (bsB xs)), false)], []) | _ => ([], []), fun _ => [], false, fun _ => none⟩
end spec_validBases
namespace spec_validBases
noncomputable def X : List Entry := [spec_inRange.E, spec_allIn.E, spec_volume.E]
noncomputable def I : List Inl := [⟨31, Try.f31, ⟨[], [], [], [], [], []⟩⟩]
theorem I_ok : ∀ i ∈ I, Try.prog.funcs[i.f]? = some i.fn ∧ (i.fn.name == "runtime.NumGoroutine") = false := by
  intro i hi
  simp only [I, List.mem_cons, List.not_mem_nil, or_false] at hi
  subst hi
  exact ⟨by kernel_rfl, by kernel_rfl⟩
theorem e (fuel : Nat) (p0 : List Int) : runF Try.prog X I 0 fuel 31 Try.f31 [.d (.ints .i64 p0)] =
  (bif (decide (1 ≤ (((p0.length : Nat) : Int))) && decide ((((p0.length : Nat) : Int)) ≤ 6)) then
  (bif decide (p0.length < 9223372036854775808) then
  (bif (allB p0 1 1000) then
  (bif decide (p0.length < 9223372036854775808) then
  some ([.one ((.bool (decide (((volW p0) : Int) ≤ 1000000))), false)], [])
  else
  none)
  else
  some ([.one ((.bool false), false)], []))
  else
  none)
  else
  some ([.one ((.bool false), false)], [])) := by kernel_rfl
end spec_validBases
theorem spec_validBases.ok_of (hX : ∀ E ∈ spec_validBases.X, CallSpec Try.prog E) (h : ∀ (xs : List Int), (decide (xs.length < 9223372036854775808)) = true → ∃ fuel, runF Try.prog spec_validBases.X spec_validBases.I 0 fuel 31 Try.f31 [.d (.ints .i64 xs)] = some ([.one ((.bool (bsB xs)), false)], [])) : CallSpec Try.prog spec_validBases.E :=
  callSpec_of (d := 0) hX (by kernel_rfl) spec_validBases.I_ok (by kernel_rfl) (by kernel_rfl) (by kernel_rfl) (fun _ _ _ _ h => by dsimp only [spec_validBases.E] at h; cases h) (fun xs hp => by
    dsimp only [spec_validBases.E] at hp ⊢
    split at hp
    · exact h _ hp
    · cases hp)
theorem spec_validBases.ok : CallSpec Try.prog spec_validBases.E := spec_validBases.ok_of (by simp [spec_validBases.X, spec_inRange.ok, spec_allIn.ok, spec_volume.ok]) fun xs h => ⟨0, by
  rw [spec_validBases.e, h]
  unfold bsB
  by_cases h1 : 1 ≤ xs.length
  · by_cases h2 : xs.length ≤ 6
    · rw [decide_eq_true (p := (1 : Int) ≤ ((xs.length : Nat) : Int)) (by omega), decide_eq_true (p := ((xs.length : Nat) : Int) ≤ 6) (by omega), decide_eq_true h1, decide_eq_true h2]
      cases allB xs 1 1000 <;> rfl
    · rw [decide_eq_true (p := (1 : Int) ≤ ((xs.length : Nat) : Int)) (by omega), decide_eq_false (p := ((xs.length : Nat) : Int) ≤ 6) (by omega), decide_eq_false h2]
      simp only [Bool.and_false, Bool.false_and]
      rfl
  · rw [decide_eq_false (p := (1 : Int) ≤ ((xs.length : Nat) : Int)) (by omega), decide_eq_false h1]
    rfl⟩

namespace spec_EncodeNum
noncomputable def E : Entry := ⟨12, false, false, fun | [.d (.ints .i64 xs), .d (.int .i64 n)] => decide (xs.length < 9223372036854775808) | _ => false, fun | [.d (.ints .i64 xs), .d (.int .i64 n)] => ([.one ((.ints .i64 (enD xs n)), true)], []) | _ => ([], []), fun _ => [], true, fun _ => none⟩
end spec_EncodeNum
namespace spec_EncodeNum
noncomputable def X : List Entry := [spec_validBases.E, spec_volume.E, spec_inRange.E, spec_placeIn_b.E]
noncomputable def I : List Inl := [⟨12, Try.f12, ⟨[18], [(3, [2, 3, 4, 5, 6, 7, 8, 9, 10, 11, 12, 13, 14, 15, 16, 17, 18])], [], [], [], []⟩⟩]
theorem I_ok : ∀ i ∈ I, Try.prog.funcs[i.f]? = some i.fn ∧ (i.fn.name == "runtime.NumGoroutine") = false := by
  intro i hi
  simp only [I, List.mem_cons, List.not_mem_nil, or_false] at hi
  subst hi
  exact ⟨by kernel_rfl, by kernel_rfl⟩
theorem e (fuel : Nat) (p0 : List Int) (p1 : Int) : runF Try.prog X I 0 fuel 12 Try.f12 [.d (.ints .i64 p0), .d (.int .i64 p1)] =
  (bif decide (p0.length < 9223372036854775808) then
  (bif (!(bsB p0)) then
  some ([.one ((.ints .i64 []), true)], [])
  else
  (bif decide (p0.length < 9223372036854775808) then
  (bif (!(decide (0 ≤ p1) && decide (p1 ≤ ((IntKind.wrap .i64 ((volW p0) - 1)))))) then
  some ([.one ((.ints .i64 []), true)], [])
  else
  (bif posB p0 && decide (0 ≤ p1) && decide (p1 ≤ 1000000) then
  some ([.one ((.ints .i64 (plN p0 p1.toNat)), true)], [])
  else
  none))
  else
  none))
  else
  none) := by kernel_rfl
end spec_EncodeNum
theorem spec_EncodeNum.ok_of (hX : ∀ E ∈ spec_EncodeNum.X, CallSpec Try.prog E) (h : ∀ (xs : List Int) (n : Int), (decide (xs.length < 9223372036854775808)) = true → ∃ fuel, runF Try.prog spec_EncodeNum.X spec_EncodeNum.I 0 fuel 12 Try.f12 [.d (.ints .i64 xs), .d (.int .i64 n)] = some ([.one ((.ints .i64 (enD xs n)), true)], [])) : CallSpec Try.prog spec_EncodeNum.E :=
  callSpec_of (d := 0) hX (by kernel_rfl) spec_EncodeNum.I_ok (by kernel_rfl) (by kernel_rfl) (by kernel_rfl) (fun _ _ _ _ h => by dsimp only [spec_EncodeNum.E] at h; cases h) (fun xs hp => by
    dsimp only [spec_EncodeNum.E] at hp ⊢
    split at hp
    · exact h _ _ hp
    · cases hp)
theorem spec_EncodeNum.ok : CallSpec Try.prog spec_EncodeNum.E := spec_EncodeNum.ok_of (by simp [spec_EncodeNum.X, spec_validBases.ok, spec_volume.ok, spec_inRange.ok, spec_placeIn_b.ok]) fun xs n h => ⟨0, by
  rw [spec_EncodeNum.e, h]
  unfold enD enB
  cases hb : bsB xs with
  | false => rfl
  | true =>
    obtain ⟨b1, b2, b3, b4, b5, b6, b7⟩ := bsB_inv hb
    rw [b4, wS (x := ((prodN xs : Nat) : Int) - 1) (by omega) (by omega), b7]
    by_cases h0 : 0 ≤ n
    · by_cases h1 : n < ((prodN xs : Nat) : Int)
      · rw [decide_eq_true h0, decide_eq_true h1, decide_eq_true (p := n ≤ ((prodN xs : Nat) : Int) - 1) (by omega), decide_eq_true (p := n ≤ 1000000) (by omega)]; rfl
      · rw [decide_eq_true h0, decide_eq_false h1, decide_eq_false (p := n ≤ ((prodN xs : Nat) : Int) - 1) (by omega)]; rfl
    · rw [decide_eq_false h0]; rfl⟩

namespace laws_equalInts
noncomputable def E : Entry := ⟨11, true, false, fun | [.d (.ints .i64 xs), .d (.ints .i64 ys)] => decide (xs.length < 9223372036854775808) && decide (ys.length < 9223372036854775808) | _ => false, fun | [.d (.ints .i64 xs), .d (.ints .i64 ys)] => ([.one ((.bool (decide (xs = ys))), false)], []) | _ => ([], []), fun _ => [], false, fun _ => none⟩
end laws_equalInts
namespace laws_equalInts
noncomputable def X : List Entry := []
noncomputable def I : List Inl := [⟨11, Try.f11, ⟨[], [(1000004, [2, 3, 4, 6, 7, 8, 9, 10, 11, 12, 13, 14, 15, 16, 17, 18, 19, 20, 21, 22, 23, 24, 25])], [], [(6, [0, 1, 4, 5, 2, 3, 6, 7, 8])], [], []⟩⟩]
theorem I_ok : ∀ i ∈ I, Try.prog.funcs[i.f]? = some i.fn ∧ (i.fn.name == "runtime.NumGoroutine") = false := by
  intro i hi
  simp only [I, List.mem_cons, List.not_mem_nil, or_false] at hi
  subst hi
  exact ⟨by kernel_rfl, by kernel_rfl⟩
noncomputable abbrev L0 (fuel n : Nat) (s : St) (k : Kont) := lAt Try.prog X I fuel true 0 false 11 (bodyOf Try.f11) [1, 1, 0, 1, 0] n s k
noncomputable abbrev k0  (fuel : Nat) : Kont := (kAt Try.prog X I fuel true 0 false 11 (bodyOf Try.f11) [1, 1, 0, 1, 0] [] (endK Try.prog Try.f11))
noncomputable def t0 (p0 : List Int) (p1 : List Int) (x0q2 : Int) : St := ⟨[(.imm (.ints .i64 p0)), (.imm (.ints .i64 p1)), .dead, .dead, .dead, (.imm (.int .i64 x0q2)), .dead, .dead, .dead, .dead, .dead, .dead, .dead, .dead, .dead, .dead, .dead, .dead, .dead, .dead, .dead, .dead, .dead, .dead, .dead, .dead], hOf [], [], []⟩
theorem e (fuel : Nat) (p0 : List Int) (p1 : List Int) : runF Try.prog X I 0 fuel 11 Try.f11 [.d (.ints .i64 p0), .d (.ints .i64 p1)] =
  (bif ((((p0.length : Nat) : Int) : Int) != ((p1.length : Nat) : Int)) then
  some ([.one ((.bool false), false)], [])
  else
  L0 fuel fuel (t0 p0 p1 0) (k0  fuel)) := by kernel_rfl
theorem s0 (fuel n0 : Nat) (p0 : List Int) (p1 : List Int) (x0q2 : Int) : L0 fuel (n0 + 1) (t0 p0 p1 x0q2) (k0  fuel) =
  (bif (decide ((x0q2 : Int) < ((p0.length : Nat) : Int))) then
  (idx x0q2 p0.length).bind fun j9 =>
  (p0[j9]?).bind fun v10 =>
  (idx x0q2 p1.length).bind fun j11 =>
  (p1[j11]?).bind fun v12 =>
  (bif ((v10 : Int) != v12) then
  some ([.one ((.bool false), false)], [])
  else
  L0 fuel n0 (t0 p0 p1 ((IntKind.wrap .i64 (x0q2 + 1)))) (k0  fuel))
  else
  some ([.one ((.bool true), false)], [])) := by kernel_rfl
end laws_equalInts
theorem laws_equalInts.ok_of (hX : ∀ E ∈ laws_equalInts.X, CallSpec Try.prog E) (h : ∀ (xs : List Int) (ys : List Int), (decide (xs.length < 9223372036854775808) && decide (ys.length < 9223372036854775808)) = true → ∃ fuel, runF Try.prog laws_equalInts.X laws_equalInts.I 0 fuel 11 Try.f11 [.d (.ints .i64 xs), .d (.ints .i64 ys)] = some ([.one ((.bool (decide (xs = ys))), false)], [])) : CallSpec Try.prog laws_equalInts.E :=
  callSpec_of (d := 0) hX (by kernel_rfl) laws_equalInts.I_ok (by kernel_rfl) (by kernel_rfl) (by kernel_rfl) (fun _ _ _ _ h => by dsimp only [laws_equalInts.E] at h; cases h) (fun xs hp => by
    dsimp only [laws_equalInts.E] at hp ⊢
    split at hp
    · exact h _ _ hp
    · cases hp)
theorem laws_equalInts.loop (fuel : Nat) (xs ys : List Int) (hl : xs.length = ys.length) (hx : xs.length < 9223372036854775808) : ∀ (m n j : Nat), xs.length - j = m → m < n → j ≤ xs.length →
    laws_equalInts.L0 fuel n (laws_equalInts.t0 xs ys (j : Int)) (laws_equalInts.k0 fuel) = some ([.one (.bool (decide (xs.drop j = ys.drop j)), false)], []) := by
  intro m
  induction m with
  | zero =>
    intro n j h1 h2 h3
    obtain ⟨n, rfl⟩ : ∃ n', n = n' + 1 := ⟨n - 1, by omega⟩
    have hj : ¬ j < xs.length := by omega
    rw [laws_equalInts.s0, dge hj, dropE hj, dropE (xs := ys) (by omega)]
    rfl
  | succ m ih =>
    intro n j h1 h2 h3
    obtain ⟨n, rfl⟩ : ∃ n', n = n' + 1 := ⟨n - 1, by omega⟩
    have hj : j < xs.length := by omega
    have hj2 : j < ys.length := by omega
    rw [laws_equalInts.s0, dlt hj, idx_nat hj, idx_nat hj2, w1 (by omega), dropS hj, dropS hj2]
    simp only [cond_true, Option.bind_some, getS hj, getS hj2]
    rw [ih n (j + 1) (by omega) (by omega) (by omega)]
    by_cases hv : xs[j] = ys[j]
    · rw [hv]
      simp only [bne_self_eq_false, cond_false, List.cons.injEq, true_and]
    · have : (xs[j] != ys[j]) = true := by simp [hv]
      rw [this]
      simp only [cond_true, List.cons.injEq, hv, false_and, decide_false]

theorem laws_equalInts.ok : CallSpec Try.prog laws_equalInts.E := laws_equalInts.ok_of (by simp [laws_equalInts.X]) fun xs ys h => by
  simp only [Bool.and_eq_true, decide_eq_true_eq] at h
  refine ⟨xs.length + 1, ?_⟩
  rw [laws_equalInts.e]
  by_cases hl : xs.length = ys.length
  · have := laws_equalInts.loop (xs.length + 1) xs ys hl h.1 xs.length (xs.length + 1) 0 (by omega) (by omega) (by omega)
    simp only [List.drop_zero] at this
    simp only [hl, bne_self_eq_false, cond_false]
    rw [← hl]
    exact this
  · have hne : xs ≠ ys := fun e => hl (e ▸ rfl)
    have : (((xs.length : Nat) : Int) != ((ys.length : Nat) : Int)) = true := by simp; omega
    rw [this]
    simp [hne]

namespace impl_DecodeNum
noncomputable def E : Entry := ⟨13, true, false, fun | [.d (.ints .i64 xs), .d (.ints .i64 ds)] => decide (xs.length < 9223372036854775808) && decide (ds.length < 9223372036854775808) | _ => false, fun | [.d (.ints .i64 xs), .d (.ints .i64 ds)] => ([.one ((.int .i64 (deV xs ds)), false)], []) | _ => ([], []), fun _ => [], false, fun _ => none⟩
end impl_DecodeNum
namespace impl_DecodeNum
noncomputable def X : List Entry := [impl_countWith.E]
noncomputable def I : List Inl := [⟨13, Try.f13, ⟨[], [(1000006, [1, 2, 3, 4, 5, 6, 8, 9, 10, 11, 12, 13, 14, 15, 16, 17, 18, 19, 20, 21, 22, 23, 27, 28, 29, 30, 31, 32, 33, 34, 35, 36, 37, 38, 39, 40, 41, 42, 43, 44, 45, 46, 47, 48, 49, 50])], [], [], [], []⟩⟩]
theorem I_ok : ∀ i ∈ I, Try.prog.funcs[i.f]? = some i.fn ∧ (i.fn.name == "runtime.NumGoroutine") = false := by
  intro i hi
  simp only [I, List.mem_cons, List.not_mem_nil, or_false] at hi
  subst hi
  exact ⟨by kernel_rfl, by kernel_rfl⟩
noncomputable abbrev L0 (fuel n : Nat) (s : St) (k : Kont) := lAt Try.prog X I fuel true 0 false 13 (bodyOf Try.f13) [1, 1, 1, 1, 0, 1, 0] n s k
noncomputable abbrev k0  (fuel : Nat) : Kont := (kAt Try.prog X I fuel true 0 false 13 (bodyOf Try.f13) [1, 1, 1, 1, 0, 1, 0] [] (endK Try.prog Try.f13))
noncomputable def t0 (p0 : List Int) (p1 : List Int) (x0q1 : Int) (x0q4 : Int) : St := ⟨[(.imm (.ints .i64 p0)), .dead, .dead, .dead, .dead, .dead, .dead, (.imm (.int .i64 x0q1)), .dead, .dead, .dead, .dead, .dead, .dead, .dead, .dead, .dead, .dead, .dead, .dead, .dead, .dead, .dead, .dead, (.imm (.ints .i64 p1)), (.imm (.int .i64 ((p1.length : Nat) : Int))), (.imm (.int .i64 x0q4)), .dead, .dead, .dead, .dead, .dead, .dead, .dead, .dead, .dead, .dead, .dead, .dead, .dead, .dead, .dead, .dead, .dead, .dead, .dead, .dead, .dead, .dead, .dead, .dead], hOf [], [], []⟩
theorem e (fuel : Nat) (p0 : List Int) (p1 : List Int) : runF Try.prog X I 0 fuel 13 Try.f13 [.d (.ints .i64 p0), .d (.ints .i64 p1)] =
  (bif decide (p0.length < 9223372036854775808) then
  (bif (!(bsB p0)) then
  some ([.one ((.int .i64 (-1)), false)], [])
  else
  (bif ((((p1.length : Nat) : Int) : Int) != ((p0.length : Nat) : Int)) then
  some ([.one ((.int .i64 (-1)), false)], [])
  else
  L0 fuel fuel (t0 p0 p1 0 0) (k0  fuel)))
  else
  none) := by kernel_rfl
theorem s0 (fuel n0 : Nat) (p0 : List Int) (p1 : List Int) (x0q1 : Int) (x0q4 : Int) : L0 fuel (n0 + 1) (t0 p0 p1 x0q1 x0q4) (k0  fuel) =
  (bif (decide ((x0q4 : Int) < ((p1.length : Nat) : Int))) then
  (idx x0q4 p1.length).bind fun j13 =>
  (p1[j13]?).bind fun v14 =>
  (bif (decide ((v14 : Int) < 0)) then
  some ([.one ((.int .i64 (-1)), false)], [])
  else
  (idx x0q4 p0.length).bind fun j15 =>
  (p0[j15]?).bind fun v16 =>
  (bif (decide ((v14 : Int) ≥ v16)) then
  some ([.one ((.int .i64 (-1)), false)], [])
  else
  (idx x0q4 p0.length).bind fun j17 =>
  (p0[j17]?).bind fun v18 =>
  L0 fuel n0 (t0 p0 p1 ((IntKind.wrap .i64 ((IntKind.wrap .i64 (x0q1 * v18)) + v14))) ((IntKind.wrap .i64 (x0q4 + 1)))) (k0  fuel)))
  else
  some ([.one ((.int .i64 x0q1), false)], [])) := by kernel_rfl
end impl_DecodeNum
theorem impl_DecodeNum.ok_of (hX : ∀ E ∈ impl_DecodeNum.X, CallSpec Try.prog E) (h : ∀ (xs : List Int) (ds : List Int), (decide (xs.length < 9223372036854775808) && decide (ds.length < 9223372036854775808)) = true → ∃ fuel, runF Try.prog impl_DecodeNum.X impl_DecodeNum.I 0 fuel 13 Try.f13 [.d (.ints .i64 xs), .d (.ints .i64 ds)] = some ([.one ((.int .i64 (deV xs ds)), false)], [])) : CallSpec Try.prog impl_DecodeNum.E :=
  callSpec_of (d := 0) hX (by kernel_rfl) impl_DecodeNum.I_ok (by kernel_rfl) (by kernel_rfl) (by kernel_rfl) (fun _ _ _ _ h => by dsimp only [impl_DecodeNum.E] at h; cases h) (fun xs hp => by
    dsimp only [impl_DecodeNum.E] at hp ⊢
    split at hp
    · exact h _ _ hp
    · cases hp)
theorem impl_DecodeNum.loop (fuel : Nat) (xs ds : List Int) (hp : posB xs = true) (hl : ds.length = xs.length) : ∀ (m n j : Nat) (a : Int), xs.length - j = m → m < n → j ≤ xs.length →
    impl_DecodeNum.L0 fuel n (impl_DecodeNum.t0 xs ds a (j : Int)) (impl_DecodeNum.k0 fuel) = some ([.one (.int .i64 (bif isPl (xs.drop j) (ds.drop j) then offW (xs.drop j) (ds.drop j) a else -1), false)], []) := by
  obtain ⟨hx, hg⟩ := posB_inv hp
  intro m
  induction m with
  | zero =>
    intro n j a h1 h2 h3
    obtain ⟨n, rfl⟩ : ∃ n', n = n' + 1 := ⟨n - 1, by omega⟩
    have hj : ¬ j < xs.length := by omega
    rw [impl_DecodeNum.s0, dge (n := ds.length) (by omega), dropE hj, dropE (xs := ds) (by omega)]
    rfl
  | succ m ih =>
    intro n j a h1 h2 h3
    obtain ⟨n, rfl⟩ : ∃ n', n = n' + 1 := ⟨n - 1, by omega⟩
    have hj : j < xs.length := by omega
    have hj2 : j < ds.length := by omega
    obtain ⟨g1, g2, g3⟩ := hg j hj
    have g4 : xs.getD j 0 = xs[j] := by simp [hj]
    rw [impl_DecodeNum.s0, dlt hj2, idx_nat hj, idx_nat hj2, w1 (by omega), dropS hj, dropS hj2]
    simp only [cond_true, Option.bind_some, getS hj, getS hj2, offW, isPl]
    rw [ih n (j + 1) _ (by omega) (by omega) (by omega), wS (x := xs[j] - 1) (by omega) (by omega)]
    generalize ds[j] = d
    by_cases c1 : 0 ≤ d
    · by_cases c2 : d ≤ xs[j] - 1
      · rw [decide_eq_false (p := d < 0) (by omega), decide_eq_false (p := d ≥ xs[j]) (by omega), decide_eq_true c1, decide_eq_true c2]
        simp only [Bool.true_and, cond_false]
      · rw [decide_eq_false (p := d < 0) (by omega), decide_eq_true (p := d ≥ xs[j]) (by omega), decide_eq_true c1, decide_eq_false c2]
        rfl
    · rw [decide_eq_true (p := d < 0) (by omega), decide_eq_false c1]
      rfl
theorem impl_DecodeNum.ok : CallSpec Try.prog impl_DecodeNum.E := impl_DecodeNum.ok_of (by simp [impl_DecodeNum.X, impl_countWith.ok]) fun xs ds h => ⟨xs.length + 1, by
  simp only [Bool.and_eq_true] at h
  rw [impl_DecodeNum.e, h.1]
  unfold deV deB
  cases hb : bsB xs with
  | false => rfl
  | true =>
    obtain ⟨b1, b2, b3, b4, b5, b6, b7⟩ := bsB_inv hb
    by_cases hl : ds.length = xs.length
    · rw [show (((ds.length : Nat) : Int) != ((xs.length : Nat) : Int)) = false by simp [hl]]
      exact impl_DecodeNum.loop (xs.length + 1) xs ds b7 hl xs.length (xs.length + 1) 0 0 (by omega) (by omega) (by omega)
    · rw [show (((ds.length : Nat) : Int) != ((xs.length : Nat) : Int)) = true by simp; omega, isPl_ne hl]
      rfl⟩

namespace laws_FnEncodeNum
noncomputable def E : Entry := ⟨3, true, false, fun | [.d (.ints .u8 bs)] => bytesB bs | _ => false, fun | [.d (.ints .u8 bs)] => ([.one ((.bool true), false)], []) | _ => ([], []), fun _ => [], false, fun _ => none⟩
end laws_FnEncodeNum
namespace laws_FnEncodeNum
noncomputable def X : List Entry := [spec_DrawEncodeNum.E, impl_EncodeNum.E, spec_EncodeNum.E, laws_equalInts.E, impl_DecodeNum.E]
noncomputable def I : List Inl := [⟨3, Try.f3, ⟨[12, 17, 21, 32], [(1000008, [0, 1, 2, 7, 8, 9, 10, 11, 12, 13, 14, 15, 16, 17, 18, 19, 20, 21, 22, 23, 24, 25, 26, 27, 28, 29, 30, 31, 32, 33, 34, 35, 36, 37, 38, 39, 40, 41, 42, 43, 44, 45, 46, 47, 48, 49, 50, 51, 52, 53, 54, 55, 56, 57, 58, 59, 60, 61, 62, 63, 64, 65, 66, 67])], [], [(10, [0, 1, 2, 3, 4, 5, 6, 7, 10, 11, 8, 9, 12, 13, 14, 15])], [], []⟩⟩]
theorem I_ok : ∀ i ∈ I, Try.prog.funcs[i.f]? = some i.fn ∧ (i.fn.name == "runtime.NumGoroutine") = false := by
  intro i hi
  simp only [I, List.mem_cons, List.not_mem_nil, or_false] at hi
  subst hi
  exact ⟨by kernel_rfl, by kernel_rfl⟩
noncomputable abbrev L0 (fuel n : Nat) (s : St) (k : Kont) := lAt Try.prog X I fuel true 0 false 3 (bodyOf Try.f3) [1, 1, 1, 1, 1, 0, 1, 0] n s k
noncomputable abbrev k0  (fuel : Nat) : Kont := (kAt Try.prog X I fuel true 0 false 3 (bodyOf Try.f3) [1, 1, 1, 1, 1, 0, 1, 0] [] (endK Try.prog Try.f3))
noncomputable def t0 (p0 : List Int) (x0q2 : Int) : St := ⟨[.dead, .dead, .dead, (.imm (.ints .i64 (aBs (cutC p0) 0))), (.imm (.int .i64 (dEn (cutC p0)))), (.all 1000000000 1), (.imm (.int .i64 x0q2)), .dead, .dead, .dead, .dead, .dead, .dead, .dead, .dead, .dead, .dead, .dead, .dead, .dead, .dead, .dead, .dead, .dead, .dead, .dead, .dead, .dead, .dead, .dead, .dead, .dead, .dead, .dead, .dead, .dead, .dead, .dead, .dead, .dead, .dead, .dead, .dead, .dead, .dead, .dead, .dead, .dead, .dead, .dead, .dead, .dead, .dead, .dead, .dead, .dead, .dead, .dead, .dead, .dead, .dead, .dead, .dead, .dead, .dead, .dead, .dead, .dead], hOf [(1000000000, (.ints .i64 (enD ((aBs (cutC p0) 0)) ((dEn (cutC p0))))))], [], []⟩
theorem e (fuel : Nat) (p0 : List Int) : runF Try.prog X I 0 fuel 3 Try.f3 [.d (.ints .u8 p0)] =
  (bif (decide ((((p0.length : Nat) : Int) : Int) > 1048576)) then
  some ([.one ((.bool true), false)], [])
  else
  (bif bytesB p0 then
  (bif decide (((aBs (cutC p0) 0)).length < 9223372036854775808) then
  (bif decide (((aBs (cutC p0) 0)).length < 9223372036854775808) then
  (bif decide (((enD ((aBs (cutC p0) 0)) ((dEn (cutC p0))))).length < 9223372036854775808) && decide (((enD ((aBs (cutC p0) 0)) ((dEn (cutC p0))))).length < 9223372036854775808) then
  (bif (!(decide (((enD ((aBs (cutC p0) 0)) ((dEn (cutC p0))))) = ((enD ((aBs (cutC p0) 0)) ((dEn (cutC p0)))))))) then
  (bif decide (((aBs (cutC p0) 0)).length < 9223372036854775808) then
  (bif decide (((enD ((aBs (cutC p0) 0)) ((dEn (cutC p0))))).length < 9223372036854775808) && decide (((enD ((aBs (cutC p0) 0)) ((dEn (cutC p0))))).length < 9223372036854775808) then
  some ([.one ((.bool (decide (((enD ((aBs (cutC p0) 0)) ((dEn (cutC p0))))) = ((enD ((aBs (cutC p0) 0)) ((dEn (cutC p0)))))))), false)], [])
  else
  none)
  else
  none)
  else
  (bif (((((enD ((aBs (cutC p0) 0)) ((dEn (cutC p0)))).length : Nat) : Int) : Int) == 0) then
  (bif decide (((aBs (cutC p0) 0)).length < 9223372036854775808) then
  (bif decide (((enD ((aBs (cutC p0) 0)) ((dEn (cutC p0))))).length < 9223372036854775808) && decide (((enD ((aBs (cutC p0) 0)) ((dEn (cutC p0))))).length < 9223372036854775808) then
  some ([.one ((.bool (decide (((enD ((aBs (cutC p0) 0)) ((dEn (cutC p0))))) = ((enD ((aBs (cutC p0) 0)) ((dEn (cutC p0)))))))), false)], [])
  else
  none)
  else
  none)
  else
  L0 fuel fuel (t0 p0 0) (k0  fuel)))
  else
  none)
  else
  none)
  else
  none)
  else
  none)) := by kernel_rfl
theorem s0 (fuel n0 : Nat) (p0 : List Int) (x0q2 : Int) : L0 fuel (n0 + 1) (t0 p0 x0q2) (k0  fuel) =
  (bif (decide ((x0q2 : Int) < (((enD ((aBs (cutC p0) 0)) ((dEn (cutC p0)))).length : Nat) : Int))) then
  (idx x0q2 (enD ((aBs (cutC p0) 0)) ((dEn (cutC p0)))).length).bind fun j13 =>
  ((enD ((aBs (cutC p0) 0)) ((dEn (cutC p0))))[j13]?).bind fun v14 =>
  (bif (decide ((v14 : Int) < 0)) then
  some ([.one ((.bool false), false)], [])
  else
  (idx x0q2 (enD ((aBs (cutC p0) 0)) ((dEn (cutC p0)))).length).bind fun j15 =>
  ((enD ((aBs (cutC p0) 0)) ((dEn (cutC p0))))[j15]?).bind fun v16 =>
  (idx x0q2 (aBs (cutC p0) 0).length).bind fun j17 =>
  ((aBs (cutC p0) 0)[j17]?).bind fun v18 =>
  (bif (decide ((v16 : Int) ≥ v18)) then
  some ([.one ((.bool false), false)], [])
  else
  L0 fuel n0 (t0 p0 ((IntKind.wrap .i64 (x0q2 + 1)))) (k0  fuel)))
  else
  (bif decide (((aBs (cutC p0) 0)).length < 9223372036854775808) && decide (((enD ((aBs (cutC p0) 0)) ((dEn (cutC p0))))).length < 9223372036854775808) then
  (bif (((deV ((aBs (cutC p0) 0)) ((enD ((aBs (cutC p0) 0)) ((dEn (cutC p0)))))) : Int) == (dEn (cutC p0))) then
  some ([.one ((.bool (((((enD ((aBs (cutC p0) 0)) ((dEn (cutC p0)))).length : Nat) : Int) : Int) == (((aBs (cutC p0) 0).length : Nat) : Int))), false)], [])
  else
  some ([.one ((.bool false), false)], []))
  else
  none)) := by kernel_rfl
end laws_FnEncodeNum
theorem laws_FnEncodeNum.ok_of (hX : ∀ E ∈ laws_FnEncodeNum.X, CallSpec Try.prog E) (h : ∀ (bs : List Int), (bytesB bs) = true → ∃ fuel, runF Try.prog laws_FnEncodeNum.X laws_FnEncodeNum.I 0 fuel 3 Try.f3 [.d (.ints .u8 bs)] = some ([.one ((.bool true), false)], [])) : CallSpec Try.prog laws_FnEncodeNum.E :=
  callSpec_of (d := 0) hX (by kernel_rfl) laws_FnEncodeNum.I_ok (by kernel_rfl) (by kernel_rfl) (by kernel_rfl) (fun _ _ _ _ h => by dsimp only [laws_FnEncodeNum.E] at h; cases h) (fun xs hp => by
    dsimp only [laws_FnEncodeNum.E] at hp ⊢
    split at hp
    · exact h _ hp
    · cases hp)
theorem laws_FnEncodeNum.ok : CallSpec Try.prog laws_FnEncodeNum.E := laws_FnEncodeNum.ok_of (by simp [laws_FnEncodeNum.X, spec_DrawEncodeNum.ok, impl_EncodeNum.ok, spec_EncodeNum.ok, laws_equalInts.ok, impl_DecodeNum.ok]) fun bs h => by
  obtain ⟨F, hF⟩ : ∃ F : Nat, 4000 < F := ⟨4001, by omega⟩
  refine ⟨F, ?_⟩
  rw [laws_FnEncodeNum.e]
  by_cases hl : ((bs.length : Nat) : Int) > 1048576
  · rw [decide_eq_true hl]; rfl
  rw [decide_eq_false hl, cond_false, h, cond_true]
  have r0 := cut_ok h (p := 0) (by omega) (by omega)
  obtain ⟨a1, _, _⟩ := aBs_bd r0
  have hnm : dEn (cutC bs) ∈ encL := oneV_mem (rd_le (q := aBsP (cutC bs) 0) r0 (by omega) (by omega)) (by simp [encL]) (by simp [encL])
  have hnb : -1 ≤ dEn (cutC bs) ∧ dEn (cutC bs) ≤ 1000000 := by
    simp only [encL, List.mem_cons, List.not_mem_nil, or_false] at hnm
    omega
  obtain ⟨xs, hxs⟩ : ∃ x, aBs (cutC bs) 0 = x := ⟨_, rfl⟩
  obtain ⟨n, hn⟩ : ∃ x, dEn (cutC bs) = x := ⟨_, rfl⟩
  rw [hxs] at a1
  rw [hn] at hnb
  have g1 := lt_of (xs := xs) (by omega)
  have el := en_len xs n
  have g2 := lt_of (xs := enD xs n) (by omega)
  simp only [hxs, hn]
  cases hb : enB xs n with
  | false =>
    have e0 : enD xs n = [] := by simp only [enD, hb, cond_false]
    simp only [Bool.and_self, Bool.and_true, Bool.true_and, cond_true, cond_false, Bool.not_true, Bool.not_false, bne_self_eq_false, beq_self_eq_true, decide_true, eq_self, g1, e0]
    rfl
  | true =>
    obtain ⟨j, rfl, hbs, hj, hp, ho, he⟩ := enB_inv hb
    obtain ⟨b1, b2, b3, b4, b5, b6, b7⟩ := bsB_inv hbs
    have hpl := plN_length xs j
    obtain ⟨_, hpos⟩ := posB_inv b7
    have e0 : ((((plN xs j).length : Nat) : Int) == 0) = false := by rw [hpl]; exact beq0 (by omega)
    have e00 : (((xs.length : Nat) : Int) == 0) = false := beq0 (by omega)
    rw [he] at g2 el
    simp only [Bool.and_self, Bool.and_true, Bool.true_and, cond_true, cond_false, Bool.not_true, Bool.not_false, bne_self_eq_false, beq_self_eq_true, decide_true, eq_self, g1, g2, he, e0]
    refine run_loop (N := xs.length) (fun m i (_ : Unit) => laws_FnEncodeNum.L0 F m (laws_FnEncodeNum.t0 bs (i : Int)) (laws_FnEncodeNum.k0 F)) (fun _ _ => True) ?_ ?_ F 0 () (by omega) (by omega) trivial
    · intro m _ _
      have hd : deV xs (plN xs j) = (j : Int) := by simp only [deV, deB, hbs, hp, Bool.and_self, cond_true, ho]
      rw [laws_FnEncodeNum.s0]
      simp only [hxs, hn, he, hpl]
      rw [dge (by omega)]
      simp only [Bool.and_self, Bool.and_true, Bool.true_and, cond_true, cond_false, Bool.not_true, Bool.not_false, bne_self_eq_false, beq_self_eq_true, decide_true, eq_self, g1, g2, hd]
    · intro m i _ hi _
      refine ⟨(), trivial, ?_⟩
      obtain ⟨p1, p2, p3⟩ := hpos i hi
      have hpg := plN_get (n := j) hi
      have hlt : j / behN xs i % lenN xs i < lenN xs i := Nat.mod_lt _ (by omega)
      have q1 : (plN xs j)[i]? = some ((j / behN xs i % lenN xs i : Nat) : Int) := by rw [getD_get (by omega), hpg]
      rw [laws_FnEncodeNum.s0]
      simp only [hxs, hn, he, hpl]
      rw [dlt hi, cond_true, idx_nat hi, w1 (by omega)]
      simp only [Option.bind_some, q1, getD_get hi, p1]
      rw [decide_eq_false (by omega), decide_eq_false (by omega)]
      rfl

namespace laws_product
noncomputable def E : Entry := ⟨14, true, false, fun | [.d (.ints .i64 xs)] => decide (xs.length < 9223372036854775808) | _ => false, fun | [.d (.ints .i64 xs)] => ([.one ((.int .i64 (volW xs)), false)], []) | _ => ([], []), fun _ => [], false, fun _ => none⟩
end laws_product
namespace laws_product
noncomputable def X : List Entry := []
noncomputable def I : List Inl := [⟨14, Try.f14, ⟨[], [(1000003, [1, 2, 5, 6, 7, 8, 9, 10, 11, 12, 13, 14, 15, 16, 17])], [], [], [], []⟩⟩]
theorem I_ok : ∀ i ∈ I, Try.prog.funcs[i.f]? = some i.fn ∧ (i.fn.name == "runtime.NumGoroutine") = false := by
  intro i hi
  simp only [I, List.mem_cons, List.not_mem_nil, or_false] at hi
  subst hi
  exact ⟨by kernel_rfl, by kernel_rfl⟩
noncomputable abbrev L0 (fuel n : Nat) (s : St) (k : Kont) := lAt Try.prog X I fuel true 0 false 14 (bodyOf Try.f14) [1, 1, 0, 1, 0] n s k
noncomputable abbrev k0  (fuel : Nat) : Kont := (kAt Try.prog X I fuel true 0 false 14 (bodyOf Try.f14) [1, 1, 0, 1, 0] [] (endK Try.prog Try.f14))
noncomputable def t0 (p0 : List Int) (x0q1 : Int) (x0q2 : Int) : St := ⟨[(.imm (.ints .i64 p0)), .dead, .dead, (.imm (.int .i64 x0q1)), (.imm (.int .i64 x0q2)), .dead, .dead, .dead, .dead, .dead, .dead, .dead, .dead, .dead, .dead, .dead, .dead, .dead], hOf [], [], []⟩
theorem e (fuel : Nat) (p0 : List Int) : runF Try.prog X I 0 fuel 14 Try.f14 [.d (.ints .i64 p0)] =
  L0 fuel fuel (t0 p0 1 0) (k0  fuel) := by kernel_rfl
theorem s0 (fuel n0 : Nat) (p0 : List Int) (x0q1 : Int) (x0q2 : Int) : L0 fuel (n0 + 1) (t0 p0 x0q1 x0q2) (k0  fuel) =
  (bif (decide ((x0q2 : Int) < ((p0.length : Nat) : Int))) then
  (idx x0q2 p0.length).bind fun j5 =>
  (p0[j5]?).bind fun v6 =>
  L0 fuel n0 (t0 p0 ((IntKind.wrap .i64 (x0q1 * v6))) ((IntKind.wrap .i64 (x0q2 + 1)))) (k0  fuel)
  else
  some ([.one ((.int .i64 x0q1), false)], [])) := by kernel_rfl
end laws_product
theorem laws_product.ok_of (hX : ∀ E ∈ laws_product.X, CallSpec Try.prog E) (h : ∀ (xs : List Int), (decide (xs.length < 9223372036854775808)) = true → ∃ fuel, runF Try.prog laws_product.X laws_product.I 0 fuel 14 Try.f14 [.d (.ints .i64 xs)] = some ([.one ((.int .i64 (volW xs)), false)], [])) : CallSpec Try.prog laws_product.E :=
  callSpec_of (d := 0) hX (by kernel_rfl) laws_product.I_ok (by kernel_rfl) (by kernel_rfl) (by kernel_rfl) (fun _ _ _ _ h => by dsimp only [laws_product.E] at h; cases h) (fun xs hp => by
    dsimp only [laws_product.E] at hp ⊢
    split at hp
    · exact h _ hp
    · cases hp)
theorem laws_product.loop (fuel : Nat) (xs : List Int) (hx : xs.length < 9223372036854775808) : ∀ (m n j : Nat) (a : Int), xs.length - j = m → m < n → j ≤ xs.length →
    laws_product.L0 fuel n (laws_product.t0 xs a (j : Int)) (laws_product.k0 fuel) = some ([.one (.int .i64 (volFrom (xs.drop j) a), false)], []) := by
  intro m
  induction m with
  | zero =>
    intro n j a h1 h2 h3
    obtain ⟨n, rfl⟩ : ∃ n', n = n' + 1 := ⟨n - 1, by omega⟩
    have hj : ¬ j < xs.length := by omega
    rw [laws_product.s0, dge hj, dropE hj]
    rfl
  | succ m ih =>
    intro n j a h1 h2 h3
    obtain ⟨n, rfl⟩ : ∃ n', n = n' + 1 := ⟨n - 1, by omega⟩
    have hj : j < xs.length := by omega
    rw [laws_product.s0, dlt hj, idx_nat hj, w1 (by omega), dropS hj]
    simp only [cond_true, Option.bind_some, getS hj, volFrom]
    exact ih n (j + 1) _ (by omega) (by omega) (by omega)

theorem laws_product.ok : CallSpec Try.prog laws_product.E := laws_product.ok_of (by simp [laws_product.X]) fun xs h => by
  simp only [decide_eq_true_eq] at h
  refine ⟨xs.length + 1, ?_⟩
  rw [laws_product.e]
  exact laws_product.loop (xs.length + 1) xs h xs.length (xs.length + 1) 0 1 (by omega) (by omega) (by omega)

namespace laws_FnEncodeNumNext
noncomputable def E : Entry := ⟨4, true, false, fun | [.d (.ints .u8 bs)] => bytesB bs | _ => false, fun | [.d (.ints .u8 bs)] => ([.one ((.bool true), false)], []) | _ => ([], []), fun _ => [], false, fun _ => none⟩
end laws_FnEncodeNumNext
namespace laws_FnEncodeNumNext
noncomputable def X : List Entry := [spec_DrawEncodeNum.E, impl_EncodeNum.E, spec_EncodeNum.E, laws_equalInts.E, laws_product.E]
noncomputable def I : List Inl := [⟨4, Try.f4, ⟨[13, 18, 22, 33, 38], [], [], [(9, [0, 1, 2, 3, 4, 5, 6, 7, 8, 9, 10, 11, 13, 12, 14, 15, 16, 17, 18, 21, 22, 26, 27, 19, 20, 23, 24, 25, 28, 29, 30, 31, 32, 33, 34])], [], []⟩⟩]
theorem I_ok : ∀ i ∈ I, Try.prog.funcs[i.f]? = some i.fn ∧ (i.fn.name == "runtime.NumGoroutine") = false := by
  intro i hi
  simp only [I, List.mem_cons, List.not_mem_nil, or_false] at hi
  subst hi
  exact ⟨by kernel_rfl, by kernel_rfl⟩
theorem e (fuel : Nat) (p0 : List Int) : runF Try.prog X I 0 fuel 4 Try.f4 [.d (.ints .u8 p0)] =
  (bif (decide ((((p0.length : Nat) : Int) : Int) > 1048576)) then
  some ([.one ((.bool true), false)], [])
  else
  (bif bytesB p0 then
  (bif decide (((aBs (cutC p0) 0)).length < 9223372036854775808) then
  (bif decide (((aBs (cutC p0) 0)).length < 9223372036854775808) then
  (bif decide (((enD ((aBs (cutC p0) 0)) ((dEn (cutC p0))))).length < 9223372036854775808) && decide (((enD ((aBs (cutC p0) 0)) ((dEn (cutC p0))))).length < 9223372036854775808) then
  (bif (!(decide (((enD ((aBs (cutC p0) 0)) ((dEn (cutC p0))))) = ((enD ((aBs (cutC p0) 0)) ((dEn (cutC p0)))))))) then
  (bif decide (((aBs (cutC p0) 0)).length < 9223372036854775808) then
  (bif decide (((enD ((aBs (cutC p0) 0)) ((dEn (cutC p0))))).length < 9223372036854775808) && decide (((enD ((aBs (cutC p0) 0)) ((dEn (cutC p0))))).length < 9223372036854775808) then
  some ([.one ((.bool (decide (((enD ((aBs (cutC p0) 0)) ((dEn (cutC p0))))) = ((enD ((aBs (cutC p0) 0)) ((dEn (cutC p0)))))))), false)], [])
  else
  none)
  else
  none)
  else
  (bif (((((enD ((aBs (cutC p0) 0)) ((dEn (cutC p0)))).length : Nat) : Int) : Int) == 0) then
  (bif decide (((aBs (cutC p0) 0)).length < 9223372036854775808) then
  (bif decide (((enD ((aBs (cutC p0) 0)) ((dEn (cutC p0))))).length < 9223372036854775808) && decide (((enD ((aBs (cutC p0) 0)) ((dEn (cutC p0))))).length < 9223372036854775808) then
  some ([.one ((.bool (decide (((enD ((aBs (cutC p0) 0)) ((dEn (cutC p0))))) = ((enD ((aBs (cutC p0) 0)) ((dEn (cutC p0)))))))), false)], [])
  else
  none)
  else
  none)
  else
  (bif decide (((aBs (cutC p0) 0)).length < 9223372036854775808) then
  (bif (((((enD ((aBs (cutC p0) 0)) ((IntKind.wrap .i64 ((dEn (cutC p0)) + 1)))).length : Nat) : Int) : Int) == 0) then
  (bif decide (((aBs (cutC p0) 0)).length < 9223372036854775808) then
  (bif (((IntKind.wrap .i64 ((dEn (cutC p0)) + 1)) : Int) == (volW ((aBs (cutC p0) 0)))) then
  some ([.one ((.bool true), false)], [])
  else
  (bif (((((enD ((aBs (cutC p0) 0)) ((IntKind.wrap .i64 ((dEn (cutC p0)) + 1)))).length : Nat) : Int) : Int) == (((enD ((aBs (cutC p0) 0)) ((dEn (cutC p0)))).length : Nat) : Int)) then
  (idx (IntKind.wrap .i64 ((((enD ((aBs (cutC p0) 0)) ((dEn (cutC p0)))).length : Nat) : Int) - 1)) (enD ((aBs (cutC p0) 0)) ((IntKind.wrap .i64 ((dEn (cutC p0)) + 1)))).length).bind fun j1 =>
  ((enD ((aBs (cutC p0) 0)) ((IntKind.wrap .i64 ((dEn (cutC p0)) + 1))))[j1]?).bind fun v2 =>
  (idx (IntKind.wrap .i64 ((((enD ((aBs (cutC p0) 0)) ((dEn (cutC p0)))).length : Nat) : Int) - 1)) (enD ((aBs (cutC p0) 0)) ((dEn (cutC p0)))).length).bind fun j3 =>
  ((enD ((aBs (cutC p0) 0)) ((dEn (cutC p0))))[j3]?).bind fun v4 =>
  (idx (IntKind.wrap .i64 ((((enD ((aBs (cutC p0) 0)) ((dEn (cutC p0)))).length : Nat) : Int) - 1)) (aBs (cutC p0) 0).length).bind fun j5 =>
  ((aBs (cutC p0) 0)[j5]?).bind fun v6 =>
  (bif decide ((v6 : Int) = 0) then
  none
  else
  some ([.one ((.bool ((v2 : Int) == (Int.tmod (IntKind.wrap .i64 (v4 + 1)) v6))), false)], []))
  else
  some ([.one ((.bool false), false)], [])))
  else
  none)
  else
  (bif (((((enD ((aBs (cutC p0) 0)) ((IntKind.wrap .i64 ((dEn (cutC p0)) + 1)))).length : Nat) : Int) : Int) == (((enD ((aBs (cutC p0) 0)) ((dEn (cutC p0)))).length : Nat) : Int)) then
  (idx (IntKind.wrap .i64 ((((enD ((aBs (cutC p0) 0)) ((dEn (cutC p0)))).length : Nat) : Int) - 1)) (enD ((aBs (cutC p0) 0)) ((IntKind.wrap .i64 ((dEn (cutC p0)) + 1)))).length).bind fun j7 =>
  ((enD ((aBs (cutC p0) 0)) ((IntKind.wrap .i64 ((dEn (cutC p0)) + 1))))[j7]?).bind fun v8 =>
  (idx (IntKind.wrap .i64 ((((enD ((aBs (cutC p0) 0)) ((dEn (cutC p0)))).length : Nat) : Int) - 1)) (enD ((aBs (cutC p0) 0)) ((dEn (cutC p0)))).length).bind fun j9 =>
  ((enD ((aBs (cutC p0) 0)) ((dEn (cutC p0))))[j9]?).bind fun v10 =>
  (idx (IntKind.wrap .i64 ((((enD ((aBs (cutC p0) 0)) ((dEn (cutC p0)))).length : Nat) : Int) - 1)) (aBs (cutC p0) 0).length).bind fun j11 =>
  ((aBs (cutC p0) 0)[j11]?).bind fun v12 =>
  (bif decide ((v12 : Int) = 0) then
  none
  else
  some ([.one ((.bool ((v8 : Int) == (Int.tmod (IntKind.wrap .i64 (v10 + 1)) v12))), false)], []))
  else
  some ([.one ((.bool false), false)], [])))
  else
  none)))
  else
  none)
  else
  none)
  else
  none)
  else
  none)) := by kernel_rfl
end laws_FnEncodeNumNext
theorem laws_FnEncodeNumNext.ok_of (hX : ∀ E ∈ laws_FnEncodeNumNext.X, CallSpec Try.prog E) (h : ∀ (bs : List Int), (bytesB bs) = true → ∃ fuel, runF Try.prog laws_FnEncodeNumNext.X laws_FnEncodeNumNext.I 0 fuel 4 Try.f4 [.d (.ints .u8 bs)] = some ([.one ((.bool true), false)], [])) : CallSpec Try.prog laws_FnEncodeNumNext.E :=
  callSpec_of (d := 0) hX (by kernel_rfl) laws_FnEncodeNumNext.I_ok (by kernel_rfl) (by kernel_rfl) (by kernel_rfl) (fun _ _ _ _ h => by dsimp only [laws_FnEncodeNumNext.E] at h; cases h) (fun xs hp => by
    dsimp only [laws_FnEncodeNumNext.E] at hp ⊢
    split at hp
    · exact h _ hp
    · cases hp)
theorem laws_FnEncodeNumNext.ok : CallSpec Try.prog laws_FnEncodeNumNext.E := laws_FnEncodeNumNext.ok_of (by simp [laws_FnEncodeNumNext.X, spec_DrawEncodeNum.ok, impl_EncodeNum.ok, spec_EncodeNum.ok, laws_equalInts.ok, laws_product.ok]) fun bs h => by
  obtain ⟨F, hF⟩ : ∃ F : Nat, 4000 < F := ⟨4001, by omega⟩
  refine ⟨F, ?_⟩
  rw [laws_FnEncodeNumNext.e]
  by_cases hl : ((bs.length : Nat) : Int) > 1048576
  · rw [decide_eq_true hl]; rfl
  rw [decide_eq_false hl, cond_false, h, cond_true]
  have r0 := cut_ok h (p := 0) (by omega) (by omega)
  obtain ⟨a1, _, _⟩ := aBs_bd r0
  have hnm : dEn (cutC bs) ∈ encL := oneV_mem (rd_le (q := aBsP (cutC bs) 0) r0 (by omega) (by omega)) (by simp [encL]) (by simp [encL])
  have hnb : -1 ≤ dEn (cutC bs) ∧ dEn (cutC bs) ≤ 1000000 := by
    simp only [encL, List.mem_cons, List.not_mem_nil, or_false] at hnm
    omega
  obtain ⟨xs, hxs⟩ : ∃ x, aBs (cutC bs) 0 = x := ⟨_, rfl⟩
  obtain ⟨n, hn⟩ : ∃ x, dEn (cutC bs) = x := ⟨_, rfl⟩
  rw [hxs] at a1
  rw [hn] at hnb
  have g1 := lt_of (xs := xs) (by omega)
  have el := en_len xs n
  have g2 := lt_of (xs := enD xs n) (by omega)
  simp only [hxs, hn]
  cases hb : enB xs n with
  | false =>
    have e0 : enD xs n = [] := by simp only [enD, hb, cond_false]
    simp only [Bool.and_self, Bool.and_true, Bool.true_and, cond_true, cond_false, Bool.not_true, Bool.not_false, bne_self_eq_false, beq_self_eq_true, decide_true, eq_self, g1, e0]
    rfl
  | true =>
    obtain ⟨j, rfl, hbs, hj, hp, ho, he⟩ := enB_inv hb
    obtain ⟨b1, b2, b3, b4, b5, b6, b7⟩ := bsB_inv hbs
    have hpl := plN_length xs j
    obtain ⟨_, hpos⟩ := posB_inv b7
    have e0 : ((((plN xs j).length : Nat) : Int) == 0) = false := by rw [hpl]; exact beq0 (by omega)
    have e00 : (((xs.length : Nat) : Int) == 0) = false := beq0 (by omega)
    rw [he] at g2 el
    obtain ⟨k, hk⟩ : ∃ k, xs.length = k + 1 := ⟨xs.length - 1, by omega⟩
    obtain ⟨p1, p2, p3⟩ := hpos k (by omega)
    have hw : IntKind.wrap .i64 ((j : Int) + 1) = ((j + 1 : Nat) : Int) := w1 (by omega)
    have hpk : (plN xs j)[k]? = some ((j % lenN xs k : Nat) : Int) := by rw [getD_get (by omega), plN_last hk]
    simp only [Bool.and_self, Bool.and_true, Bool.true_and, cond_true, cond_false, Bool.not_true, Bool.not_false, bne_self_eq_false, beq_self_eq_true, decide_true, eq_self, g1, g2, he, e0, e00, hw, hpl]
    by_cases hj2 : j + 1 < prodN xs
    · have hb2 := enB_of hbs hj2
      obtain ⟨j3, q1, _, _, _, _, he2⟩ := enB_inv hb2
      obtain rfl : j3 = j + 1 := by omega
      have hpl2 := plN_length xs (j + 1)
      have hpk2 : (plN xs (j + 1))[k]? = some (((j + 1) % lenN xs k : Nat) : Int) := by rw [getD_get (by omega), plN_last hk]
      have e1 : (((xs.length : Nat) : Int) == 0) = false := beq0 (by omega)
      have hml : (j % lenN xs k) < lenN xs k := Nat.mod_lt _ (by omega)
      have e3 : (((j + 1) % lenN xs k : Nat) : Int) = ((((j % lenN xs k) + 1) % lenN xs k : Nat) : Int) := by rw [Nat.mod_add_mod]
      simp only [he2, hpl2, e1, cond_false, beq_self_eq_true, cond_true]
      rw [show IntKind.wrap .i64 (((xs.length : Nat) : Int) - 1) = (k : Int) by rw [hk, wS (by omega) (by omega)]; omega, idx_nat (show k < xs.length by omega)]
      simp only [Option.bind_some, hpk, hpk2, getD_get (show k < xs.length by omega), p1]
      rw [decide_eq_false (by omega), cond_false, w1 (by omega), tmodN, e3]
      simp
    · have : enB xs ((j + 1 : Nat) : Int) = false := by
        rw [Bool.eq_false_iff]
        intro hh
        obtain ⟨j3, q1, _, q2, _⟩ := enB_inv hh
        omega
      have e1 : enD xs ((j + 1 : Nat) : Int) = [] := by simp only [enD, this, cond_false]
      have e2 : (((j + 1 : Nat) : Int) == volW xs) = true := by rw [b4]; simp; omega
      rw [e1, e2]
      rfl

namespace spec_anyPlace
noncomputable def E : Entry := ⟨35, false, false, fun | [.box [(.ints .u8 bs), (.int .i64 p)], .d (.ints .i64 sh)] => rdOk bs p && decide ((p : Int) ≤ 1000000) && decide ((sh : List Int).length ≤ 1000) | _ => false, fun | [.box [(.ints .u8 bs), (.int .i64 p)], .d (.ints .i64 sh)] => ([.one ((.ints .i64 (aPl bs p sh)), false)], [[(.ints .u8 bs), (.int .i64 (aPlP bs p sh))]]) | _ => ([], []), fun _ => [], false, fun _ => none⟩
end spec_anyPlace
namespace spec_anyPlace
noncomputable def X : List Entry := [spec_reader_pick.E, spec_reader_spoil.E]
noncomputable def I : List Inl := [⟨35, Try.f35, ⟨[32], [(1000003, [2, 3, 4, 7, 8, 9, 10, 11, 12, 13, 14, 15, 16, 17, 18, 19, 20, 21, 22, 23, 24, 25, 26, 27, 28, 29, 30, 31, 32, 33])], [(8, [5]), (3000032, [31])], [], [], [32]⟩⟩]
theorem I_ok : ∀ i ∈ I, Try.prog.funcs[i.f]? = some i.fn ∧ (i.fn.name == "runtime.NumGoroutine") = false := by
  intro i hi
  simp only [I, List.mem_cons, List.not_mem_nil, or_false] at hi
  subst hi
  exact ⟨by kernel_rfl, by kernel_rfl⟩
noncomputable abbrev L0 (fuel n : Nat) (s : St) (k : Kont) := lAt Try.prog X I fuel false 0 false 35 (bodyOf Try.f35) [1, 1, 0, 1, 0] n s k
noncomputable abbrev k0  (fuel : Nat) : Kont := (kAt Try.prog X I fuel false 0 false 35 (bodyOf Try.f35) [1, 1, 0, 1, 0] [] (endK Try.prog Try.f35))
noncomputable def t0 (p1 : List Int) (p0q0 : List Int) (x0q1 : Int) (x0q3 : Int) (x0q4 : List Int) : St := ⟨[(.ptr 1000000000 0 0), (.imm (.ints .i64 p1)), .dead, .dead, .dead, (.all 1000000001 1), (.imm (.int .i64 x0q1)), .dead, .dead, .dead, .dead, .dead, .dead, .dead, .dead, .dead, .dead, .dead, .dead, .dead, .dead, .dead, .dead, .dead, .dead, .dead, .dead, .dead, .dead, .dead, .dead, .dead, .dead, .dead], hOf [(1000000000, (.box [(.imm (.ints .u8 p0q0)), (.imm (.int .i64 x0q3))])), (1000000001, (.ints .i64 x0q4))], [(.ptr 1000000000 0 0)], []⟩
theorem e (fuel : Nat) (p0q0 : List Int) (p0q1 : Int) (p1 : List Int) : runF Try.prog X I 0 fuel 35 Try.f35 [.box [(.ints .u8 p0q0), (.int .i64 p0q1)], .d (.ints .i64 p1)] =
  L0 fuel fuel (t0 p1 p0q0 0 p0q1 ([])) (k0  fuel) := by kernel_rfl
theorem s0 (fuel n0 : Nat) (p1 : List Int) (p0q0 : List Int) (x0q1 : Int) (x0q3 : Int) (x0q4 : List Int) : L0 fuel (n0 + 1) (t0 p1 p0q0 x0q1 x0q3 x0q4) (k0  fuel) =
  (bif (decide ((x0q1 : Int) < ((p1.length : Nat) : Int))) then
  (idx x0q1 p1.length).bind fun j5 =>
  (p1[j5]?).bind fun v6 =>
  (bif rdOk p0q0 x0q3 && decide ((((maxI 1 (minI v6 9))) : Int) ≤ 1048576) then
  (bif fits (x0q4.length + ([(pickV p0q0 x0q3 ((maxI 1 (minI v6 9))))] : List Int).length) 8 then
  L0 fuel n0 (t0 p1 p0q0 ((IntKind.wrap .i64 (x0q1 + 1))) ((x0q3 + 1)) ((x0q4 ++ [(pickV p0q0 x0q3 ((maxI 1 (minI v6 9))))]))) (k0  fuel)
  else
  none)
  else
  none)
  else
  (bif rdOk p0q0 x0q3 && decide ((8 : Int) ≤ 1048576) then
  (bif (((pickV p0q0 x0q3 8) : Int) == 0) then
  (bif fits (x0q4.length + ([0] : List Int).length) 8 then
  (bif rdOk p0q0 ((x0q3 + 1)) && decide ((((x0q3 + 1)) : Int) ≤ 2000000) && decide ((((x0q4 ++ [0])) : List Int).length ≤ 1000000) then
  some ([.one ((.ints .i64 (spV p0q0 ((x0q3 + 1)) ((x0q4 ++ [0])) 4)), false)], [[(.ints .u8 p0q0), (.int .i64 (spP p0q0 ((x0q3 + 1)) ((x0q4 ++ [0]))))]])
  else
  none)
  else
  none)
  else
  some ([.one ((.ints .i64 x0q4), false)], [[(.ints .u8 p0q0), (.int .i64 (x0q3 + 1))]]))
  else
  none)) := by kernel_rfl
end spec_anyPlace
theorem spec_anyPlace.ok_of (hX : ∀ E ∈ spec_anyPlace.X, CallSpec Try.prog E) (h : ∀ (bs : List Int) (p : Int) (sh : List Int), (rdOk bs p && decide ((p : Int) ≤ 1000000) && decide ((sh : List Int).length ≤ 1000)) = true → ∃ fuel, runF Try.prog spec_anyPlace.X spec_anyPlace.I 0 fuel 35 Try.f35 [.box [(.ints .u8 bs), (.int .i64 p)], .d (.ints .i64 sh)] = some ([.one ((.ints .i64 (aPl bs p sh)), false)], [[(.ints .u8 bs), (.int .i64 (aPlP bs p sh))]])) : CallSpec Try.prog spec_anyPlace.E :=
  callSpec_of (d := 0) hX (by kernel_rfl) spec_anyPlace.I_ok (by kernel_rfl) (by kernel_rfl) (by kernel_rfl) (fun _ _ _ _ h => by dsimp only [spec_anyPlace.E] at h; cases h) (fun xs hp => by
    dsimp only [spec_anyPlace.E] at hp ⊢
    split at hp
    · exact h _ _ _ hp
    · cases hp)
theorem spec_anyPlace.ok : CallSpec Try.prog spec_anyPlace.E := spec_anyPlace.ok_of (by simp [spec_anyPlace.X, spec_reader_pick.ok, spec_reader_spoil.ok]) fun bs p sh h => by
  obtain ⟨F, hF⟩ : ∃ F : Nat, 1000 < F := ⟨1001, by omega⟩
  refine ⟨F, ?_⟩
  simp only [Bool.and_eq_true, decide_eq_true_eq] at h
  obtain ⟨⟨h1, h2⟩, h3⟩ := h
  have hlen := aPl0_length bs p sh
  rw [spec_anyPlace.e]
  refine run_loop (N := sh.length) (fun n j (st : Int × List Int) => spec_anyPlace.L0 F n (spec_anyPlace.t0 sh bs (j : Int) st.1 st.2) (spec_anyPlace.k0 F)) (fun j st => st.1 = p + ((j : Nat) : Int) ∧ st.2 = (aPl0 bs p sh).take j) ?_ ?_ F 0 (p, []) (by omega) (by omega) ⟨by simp, by simp⟩
  · rintro n ⟨q, out⟩ ⟨e1, e2⟩
    simp only at e1 e2
    rw [← hlen, List.take_length] at e2
    subst e1
    subst e2
    have r1 := rd_le (q := p + ((sh.length : Nat) : Int)) h1 (by omega) (by omega)
    have r2 := rd_le (q := p + ((sh.length : Nat) : Int) + 1) h1 (by omega) (by omega)
    have hz : (aPl0 bs p sh ++ [0]).length ≤ 1000000 := by rw [List.length_append, List.length_cons, List.length_nil]; omega
    rw [spec_anyPlace.s0, dge (by omega), cond_false, r1, r2, fitsOk (by simp only [List.length_cons, List.length_nil]; omega), decide_eq_true hz, decide_eq_true (p := (8 : Int) ≤ 1048576) (by omega), decide_eq_true (p := p + ((sh.length : Nat) : Int) + 1 ≤ 2000000) (by omega)]
    unfold aPl aPlP
    cases pickV bs (p + ((sh.length : Nat) : Int)) 8 == 0 <;> rfl
  · rintro n j ⟨q, out⟩ hj ⟨e1, e2⟩
    simp only at e1 e2
    subst e1
    have hol : out.length = j := by rw [e2, take_len (by omega)]
    have r1 := rd_le (q := p + ((j : Nat) : Int)) h1 (by omega) (by omega)
    have hm : maxI 1 (minI (sh.getD j 0) 9) ≤ 1048576 := by unfold maxI minI; split <;> split <;> omega
    rw [spec_anyPlace.s0, dlt hj, cond_true, idx_nat hj, w1 (by omega)]
    simp only [Option.bind_some, getD_get hj]
    rw [r1, decide_eq_true hm, fitsOk (by simp only [List.length_cons, List.length_nil]; omega)]
    simp only [Bool.and_self, cond_true]
    refine ⟨(p + ((j + 1 : Nat) : Int), out ++ [pickV bs (p + ((j : Nat) : Int)) (maxI 1 (minI (sh.getD j 0) 9))]), ⟨rfl, ?_⟩, by rw [show p + ((j + 1 : Nat) : Int) = p + ((j : Nat) : Int) + 1 by omega]⟩
    simp only
    rw [e2]
    refine take_push (by omega) ?_
    simp only [aPl0]
    rw [tab_getD hj]

namespace spec_DrawDecodeNum
noncomputable def E : Entry := ⟨15, true, false, fun | [.d (.ints .u8 bs)] => bytesB bs | _ => false, fun | [.d (.ints .u8 bs)] => ([.one ((.ints .i64 (aBs (cutC bs) 0)), false), .one ((.ints .i64 (dDd (cutC bs))), false)], []) | _ => ([], []), fun _ => [], false, fun _ => none⟩
end spec_DrawDecodeNum
namespace spec_DrawDecodeNum
noncomputable def X : List Entry := [spec_newReader.E, spec_anyBases.E, spec_anyPlace.E]
noncomputable def I : List Inl := [⟨15, Try.f15, ⟨[9, 13], [], [], [], [], []⟩⟩]
theorem I_ok : ∀ i ∈ I, Try.prog.funcs[i.f]? = some i.fn ∧ (i.fn.name == "runtime.NumGoroutine") = false := by
  intro i hi
  simp only [I, List.mem_cons, List.not_mem_nil, or_false] at hi
  subst hi
  exact ⟨by kernel_rfl, by kernel_rfl⟩
theorem e (fuel : Nat) (p0 : List Int) : runF Try.prog X I 0 fuel 15 Try.f15 [.d (.ints .u8 p0)] =
  (bif rdOk ((cutC p0)) 0 && decide ((0 : Int) ≤ 900000) then
  (bif rdOk (((cutC p0))) ((aBsP ((cutC p0)) 0)) && decide ((((aBsP ((cutC p0)) 0)) : Int) ≤ 1000000) && decide ((((aBs ((cutC p0)) 0)) : List Int).length ≤ 1000) then
  some ([.one ((.ints .i64 (aBs ((cutC p0)) 0)), false), .one ((.ints .i64 (aPl (((cutC p0))) ((aBsP ((cutC p0)) 0)) ((aBs ((cutC p0)) 0)))), false)], [])
  else
  none)
  else
  none) := by kernel_rfl
end spec_DrawDecodeNum
theorem spec_DrawDecodeNum.ok_of (hX : ∀ E ∈ spec_DrawDecodeNum.X, CallSpec Try.prog E) (h : ∀ (bs : List Int), (bytesB bs) = true → ∃ fuel, runF Try.prog spec_DrawDecodeNum.X spec_DrawDecodeNum.I 0 fuel 15 Try.f15 [.d (.ints .u8 bs)] = some ([.one ((.ints .i64 (aBs (cutC bs) 0)), false), .one ((.ints .i64 (dDd (cutC bs))), false)], [])) : CallSpec Try.prog spec_DrawDecodeNum.E :=
  callSpec_of (d := 0) hX (by kernel_rfl) spec_DrawDecodeNum.I_ok (by kernel_rfl) (by kernel_rfl) (by kernel_rfl) (fun _ _ _ _ h => by dsimp only [spec_DrawDecodeNum.E] at h; cases h) (fun xs hp => by
    dsimp only [spec_DrawDecodeNum.E] at hp ⊢
    split at hp
    · exact h _ hp
    · cases hp)
theorem spec_DrawDecodeNum.ok : CallSpec Try.prog spec_DrawDecodeNum.E := spec_DrawDecodeNum.ok_of (by simp [spec_DrawDecodeNum.X, spec_newReader.ok, spec_anyBases.ok, spec_anyPlace.ok]) fun bs h => ⟨0, by
  have r0 := cut_ok h (p := 0) (by omega) (by omega)
  obtain ⟨a1, a2, a3⟩ := aBs_bd r0
  rw [spec_DrawDecodeNum.e, r0, rd_le (q := aBsP (cutC bs) 0) r0 (by omega) (by omega), decide_eq_true (p := aBsP (cutC bs) 0 ≤ 1000000) (by omega), decide_eq_true (p := (aBs (cutC bs) 0).length ≤ 1000) (by omega)]
  rfl⟩

namespace spec_isPlace
noncomputable def E : Entry := ⟨36, true, false, fun | [.d (.ints .i64 sh), .d (.ints .i64 pl)] => decide (sh.length < 9223372036854775808) && decide (pl.length < 9223372036854775808) | _ => false, fun | [.d (.ints .i64 sh), .d (.ints .i64 pl)] => ([.one ((.bool (isPl sh pl)), false)], []) | _ => ([], []), fun _ => [], false, fun _ => none⟩
end spec_isPlace
namespace spec_isPlace
noncomputable def X : List Entry := [spec_inRange.E]
noncomputable def I : List Inl := [⟨36, Try.f36, ⟨[], [(1000004, [2, 3, 4, 6, 7, 8, 9, 10, 11, 12, 13, 14, 15, 16, 17, 18, 19, 20, 21, 22, 23, 24, 25, 26, 27])], [], [(6, [0, 1, 4, 5, 2, 3, 6, 7, 8, 9, 10])], [], []⟩⟩]
theorem I_ok : ∀ i ∈ I, Try.prog.funcs[i.f]? = some i.fn ∧ (i.fn.name == "runtime.NumGoroutine") = false := by
  intro i hi
  simp only [I, List.mem_cons, List.not_mem_nil, or_false] at hi
  subst hi
  exact ⟨by kernel_rfl, by kernel_rfl⟩
noncomputable abbrev L0 (fuel n : Nat) (s : St) (k : Kont) := lAt Try.prog X I fuel true 0 false 36 (bodyOf Try.f36) [1, 1, 0, 1, 0] n s k
noncomputable abbrev k0  (fuel : Nat) : Kont := (kAt Try.prog X I fuel true 0 false 36 (bodyOf Try.f36) [1, 1, 0, 1, 0] [] (endK Try.prog Try.f36))
noncomputable def t0 (p0 : List Int) (p1 : List Int) (x0q2 : Int) : St := ⟨[(.imm (.ints .i64 p0)), (.imm (.ints .i64 p1)), .dead, .dead, .dead, (.imm (.int .i64 x0q2)), .dead, .dead, .dead, .dead, .dead, .dead, .dead, .dead, .dead, .dead, .dead, .dead, .dead, .dead, .dead, .dead, .dead, .dead, .dead, .dead, .dead, .dead], hOf [], [], []⟩
theorem e (fuel : Nat) (p0 : List Int) (p1 : List Int) : runF Try.prog X I 0 fuel 36 Try.f36 [.d (.ints .i64 p0), .d (.ints .i64 p1)] =
  (bif ((((p1.length : Nat) : Int) : Int) != ((p0.length : Nat) : Int)) then
  some ([.one ((.bool false), false)], [])
  else
  L0 fuel fuel (t0 p0 p1 0) (k0  fuel)) := by kernel_rfl
theorem s0 (fuel n0 : Nat) (p0 : List Int) (p1 : List Int) (x0q2 : Int) : L0 fuel (n0 + 1) (t0 p0 p1 x0q2) (k0  fuel) =
  (bif (decide ((x0q2 : Int) < ((p0.length : Nat) : Int))) then
  (idx x0q2 p1.length).bind fun j9 =>
  (p1[j9]?).bind fun v10 =>
  (idx x0q2 p0.length).bind fun j11 =>
  (p0[j11]?).bind fun v12 =>
  (bif (!(decide (0 ≤ v10) && decide (v10 ≤ ((IntKind.wrap .i64 (v12 - 1)))))) then
  some ([.one ((.bool false), false)], [])
  else
  L0 fuel n0 (t0 p0 p1 ((IntKind.wrap .i64 (x0q2 + 1)))) (k0  fuel))
  else
  some ([.one ((.bool true), false)], [])) := by kernel_rfl
end spec_isPlace
theorem spec_isPlace.ok_of (hX : ∀ E ∈ spec_isPlace.X, CallSpec Try.prog E) (h : ∀ (sh : List Int) (pl : List Int), (decide (sh.length < 9223372036854775808) && decide (pl.length < 9223372036854775808)) = true → ∃ fuel, runF Try.prog spec_isPlace.X spec_isPlace.I 0 fuel 36 Try.f36 [.d (.ints .i64 sh), .d (.ints .i64 pl)] = some ([.one ((.bool (isPl sh pl)), false)], [])) : CallSpec Try.prog spec_isPlace.E :=
  callSpec_of (d := 0) hX (by kernel_rfl) spec_isPlace.I_ok (by kernel_rfl) (by kernel_rfl) (by kernel_rfl) (fun _ _ _ _ h => by dsimp only [spec_isPlace.E] at h; cases h) (fun xs hp => by
    dsimp only [spec_isPlace.E] at hp ⊢
    split at hp
    · exact h _ _ hp
    · cases hp)
theorem spec_isPlace.loop (fuel : Nat) (sh pl : List Int) (hx : sh.length < 9223372036854775808) (hl : pl.length = sh.length) : ∀ (m n j : Nat), sh.length - j = m → m < n → j ≤ sh.length →
    spec_isPlace.L0 fuel n (spec_isPlace.t0 sh pl (j : Int)) (spec_isPlace.k0 fuel) = some ([.one (.bool (isPl (sh.drop j) (pl.drop j)), false)], []) := by
  intro m
  induction m with
  | zero =>
    intro n j h1 h2 h3
    obtain ⟨n, rfl⟩ : ∃ n', n = n' + 1 := ⟨n - 1, by omega⟩
    have hj : ¬ j < sh.length := by omega
    rw [spec_isPlace.s0, dge hj, dropE hj, dropE (xs := pl) (by omega)]
    rfl
  | succ m ih =>
    intro n j h1 h2 h3
    obtain ⟨n, rfl⟩ : ∃ n', n = n' + 1 := ⟨n - 1, by omega⟩
    have hj : j < sh.length := by omega
    have hj2 : j < pl.length := by omega
    rw [spec_isPlace.s0, dlt hj, idx_nat hj, idx_nat hj2, w1 (by omega), dropS hj, dropS hj2]
    simp only [cond_true, Option.bind_some, getS hj, getS hj2, isPl]
    rw [ih n (j + 1) (by omega) (by omega) (by omega)]
    cases decide (0 ≤ pl[j]) && decide (pl[j] ≤ IntKind.wrap .i64 (sh[j] - 1)) <;> rfl

theorem spec_isPlace.ok : CallSpec Try.prog spec_isPlace.E := spec_isPlace.ok_of (by simp [spec_isPlace.X, spec_inRange.ok]) fun sh pl h => by
  simp only [Bool.and_eq_true, decide_eq_true_eq] at h
  refine ⟨sh.length + 1, ?_⟩
  rw [spec_isPlace.e]
  by_cases hl : pl.length = sh.length
  · have := spec_isPlace.loop (sh.length + 1) sh pl h.1 hl sh.length (sh.length + 1) 0 (by omega) (by omega) (by omega)
    simp only [hl, bne_self_eq_false, cond_false]
    exact this
  · rw [isPl_ne hl]
    have : (((pl.length : Nat) : Int) != ((sh.length : Nat) : Int)) = true := by simp; omega
    rw [this]
    rfl

namespace spec_offset
noncomputable def E : Entry := ⟨37, true, false, fun | [.d (.ints .i64 sh), .d (.ints .i64 pl)] => decide (sh.length < 9223372036854775808) && decide (pl.length < 9223372036854775808) && decide (sh.length ≤ pl.length) | _ => false, fun | [.d (.ints .i64 sh), .d (.ints .i64 pl)] => ([.one ((.int .i64 (offW sh pl 0)), false)], []) | _ => ([], []), fun _ => [], false, fun _ => none⟩
end spec_offset
namespace spec_offset
noncomputable def X : List Entry := []
noncomputable def I : List Inl := [⟨37, Try.f37, ⟨[], [(1000003, [2, 3, 4, 7, 8, 9, 10, 11, 12, 13, 14, 15, 16, 17, 18, 19, 20, 21, 22, 23, 24])], [], [(5, [0, 1, 2, 6, 7, 3, 4, 5, 8, 9, 10, 11])], [], []⟩⟩]
theorem I_ok : ∀ i ∈ I, Try.prog.funcs[i.f]? = some i.fn ∧ (i.fn.name == "runtime.NumGoroutine") = false := by
  intro i hi
  simp only [I, List.mem_cons, List.not_mem_nil, or_false] at hi
  subst hi
  exact ⟨by kernel_rfl, by kernel_rfl⟩
noncomputable abbrev L0 (fuel n : Nat) (s : St) (k : Kont) := lAt Try.prog X I fuel true 0 false 37 (bodyOf Try.f37) [1, 1, 0, 1, 0] n s k
noncomputable abbrev k0  (fuel : Nat) : Kont := (kAt Try.prog X I fuel true 0 false 37 (bodyOf Try.f37) [1, 1, 0, 1, 0] [] (endK Try.prog Try.f37))
noncomputable def t0 (p0 : List Int) (p1 : List Int) (x0q2 : Int) (x0q3 : Int) : St := ⟨[(.imm (.ints .i64 p0)), (.imm (.ints .i64 p1)), .dead, .dead, .dead, (.imm (.int .i64 x0q2)), (.imm (.int .i64 x0q3)), .dead, .dead, .dead, .dead, .dead, .dead, .dead, .dead, .dead, .dead, .dead, .dead, .dead, .dead, .dead, .dead, .dead, .dead], hOf [], [], []⟩
theorem e (fuel : Nat) (p0 : List Int) (p1 : List Int) : runF Try.prog X I 0 fuel 37 Try.f37 [.d (.ints .i64 p0), .d (.ints .i64 p1)] =
  L0 fuel fuel (t0 p0 p1 0 0) (k0  fuel) := by kernel_rfl
theorem s0 (fuel n0 : Nat) (p0 : List Int) (p1 : List Int) (x0q2 : Int) (x0q3 : Int) : L0 fuel (n0 + 1) (t0 p0 p1 x0q2 x0q3) (k0  fuel) =
  (bif (decide ((x0q3 : Int) < ((p0.length : Nat) : Int))) then
  (idx x0q3 p0.length).bind fun j9 =>
  (p0[j9]?).bind fun v10 =>
  (idx x0q3 p1.length).bind fun j11 =>
  (p1[j11]?).bind fun v12 =>
  L0 fuel n0 (t0 p0 p1 ((IntKind.wrap .i64 ((IntKind.wrap .i64 (x0q2 * v10)) + v12))) ((IntKind.wrap .i64 (x0q3 + 1)))) (k0  fuel)
  else
  some ([.one ((.int .i64 x0q2), false)], [])) := by kernel_rfl
end spec_offset
theorem spec_offset.ok_of (hX : ∀ E ∈ spec_offset.X, CallSpec Try.prog E) (h : ∀ (sh : List Int) (pl : List Int), (decide (sh.length < 9223372036854775808) && decide (pl.length < 9223372036854775808) && decide (sh.length ≤ pl.length)) = true → ∃ fuel, runF Try.prog spec_offset.X spec_offset.I 0 fuel 37 Try.f37 [.d (.ints .i64 sh), .d (.ints .i64 pl)] = some ([.one ((.int .i64 (offW sh pl 0)), false)], [])) : CallSpec Try.prog spec_offset.E :=
  callSpec_of (d := 0) hX (by kernel_rfl) spec_offset.I_ok (by kernel_rfl) (by kernel_rfl) (by kernel_rfl) (fun _ _ _ _ h => by dsimp only [spec_offset.E] at h; cases h) (fun xs hp => by
    dsimp only [spec_offset.E] at hp ⊢
    split at hp
    · exact h _ _ hp
    · cases hp)
theorem spec_offset.loop (fuel : Nat) (sh pl : List Int) (hx : sh.length < 9223372036854775808) (hl : sh.length ≤ pl.length) : ∀ (m n j : Nat) (a : Int), sh.length - j = m → m < n → j ≤ sh.length →
    spec_offset.L0 fuel n (spec_offset.t0 sh pl a (j : Int)) (spec_offset.k0 fuel) = some ([.one (.int .i64 (offW (sh.drop j) (pl.drop j) a), false)], []) := by
  intro m
  induction m with
  | zero =>
    intro n j a h1 h2 h3
    obtain ⟨n, rfl⟩ : ∃ n', n = n' + 1 := ⟨n - 1, by omega⟩
    have hj : ¬ j < sh.length := by omega
    rw [spec_offset.s0, dge hj, dropE hj]
    rfl
  | succ m ih =>
    intro n j a h1 h2 h3
    obtain ⟨n, rfl⟩ : ∃ n', n = n' + 1 := ⟨n - 1, by omega⟩
    have hj : j < sh.length := by omega
    have hj2 : j < pl.length := by omega
    rw [spec_offset.s0, dlt hj, idx_nat hj, idx_nat hj2, w1 (by omega), dropS hj, dropS hj2]
    simp only [cond_true, Option.bind_some, getS hj, getS hj2, offW]
    exact ih n (j + 1) _ (by omega) (by omega) (by omega)

theorem spec_offset.ok : CallSpec Try.prog spec_offset.E := spec_offset.ok_of (by simp [spec_offset.X]) fun sh pl h => by
  simp only [Bool.and_eq_true, decide_eq_true_eq] at h
  refine ⟨sh.length + 1, ?_⟩
  rw [spec_offset.e]
  exact spec_offset.loop (sh.length + 1) sh pl h.1.1 h.2 sh.length (sh.length + 1) 0 0 (by omega) (by omega) (by omega)

namespace spec_DecodeNum
noncomputable def E : Entry := ⟨16, true, false, fun | [.d (.ints .i64 xs), .d (.ints .i64 ds)] => decide (xs.length < 9223372036854775808) && decide (ds.length < 9223372036854775808) | _ => false, fun | [.d (.ints .i64 xs), .d (.ints .i64 ds)] => ([.one ((.int .i64 (deV xs ds)), false)], []) | _ => ([], []), fun _ => [], false, fun _ => none⟩
end spec_DecodeNum
namespace spec_DecodeNum
noncomputable def X : List Entry := [spec_validBases.E, spec_isPlace.E, spec_offset.E]
noncomputable def I : List Inl := [⟨16, Try.f16, ⟨[], [], [], [], [], []⟩⟩]
theorem I_ok : ∀ i ∈ I, Try.prog.funcs[i.f]? = some i.fn ∧ (i.fn.name == "runtime.NumGoroutine") = false := by
  intro i hi
  simp only [I, List.mem_cons, List.not_mem_nil, or_false] at hi
  subst hi
  exact ⟨by kernel_rfl, by kernel_rfl⟩
theorem e (fuel : Nat) (p0 : List Int) (p1 : List Int) : runF Try.prog X I 0 fuel 16 Try.f16 [.d (.ints .i64 p0), .d (.ints .i64 p1)] =
  (bif decide (p0.length < 9223372036854775808) then
  (bif (!(bsB p0)) then
  some ([.one ((.int .i64 (-1)), false)], [])
  else
  (bif decide (p0.length < 9223372036854775808) && decide (p1.length < 9223372036854775808) then
  (bif (!(isPl p0 p1)) then
  some ([.one ((.int .i64 (-1)), false)], [])
  else
  (bif decide (p0.length < 9223372036854775808) && decide (p1.length < 9223372036854775808) && decide (p0.length ≤ p1.length) then
  some ([.one ((.int .i64 (offW p0 p1 0)), false)], [])
  else
  none))
  else
  none))
  else
  none) := by kernel_rfl
end spec_DecodeNum
theorem spec_DecodeNum.ok_of (hX : ∀ E ∈ spec_DecodeNum.X, CallSpec Try.prog E) (h : ∀ (xs : List Int) (ds : List Int), (decide (xs.length < 9223372036854775808) && decide (ds.length < 9223372036854775808)) = true → ∃ fuel, runF Try.prog spec_DecodeNum.X spec_DecodeNum.I 0 fuel 16 Try.f16 [.d (.ints .i64 xs), .d (.ints .i64 ds)] = some ([.one ((.int .i64 (deV xs ds)), false)], [])) : CallSpec Try.prog spec_DecodeNum.E :=
  callSpec_of (d := 0) hX (by kernel_rfl) spec_DecodeNum.I_ok (by kernel_rfl) (by kernel_rfl) (by kernel_rfl) (fun _ _ _ _ h => by dsimp only [spec_DecodeNum.E] at h; cases h) (fun xs hp => by
    dsimp only [spec_DecodeNum.E] at hp ⊢
    split at hp
    · exact h _ _ hp
    · cases hp)
theorem spec_DecodeNum.ok : CallSpec Try.prog spec_DecodeNum.E := spec_DecodeNum.ok_of (by simp [spec_DecodeNum.X, spec_validBases.ok, spec_isPlace.ok, spec_offset.ok]) fun xs ds h => ⟨0, by
  simp only [Bool.and_eq_true] at h
  rw [spec_DecodeNum.e, h.1, h.2]
  unfold deV deB
  cases hb : bsB xs with
  | false => rfl
  | true =>
    cases hp : isPl xs ds with
    | false => rfl
    | true =>
      rw [decide_eq_true (p := xs.length ≤ ds.length) (by rw [isPl_len hp]; omega)]
      rfl⟩

namespace laws_FnDecodeNum
noncomputable def E : Entry := ⟨5, true, false, fun | [.d (.ints .u8 bs)] => bytesB bs | _ => false, fun | [.d (.ints .u8 bs)] => ([.one ((.bool true), false)], []) | _ => ([], []), fun _ => [], false, fun _ => none⟩
end laws_FnDecodeNum
namespace laws_FnDecodeNum
noncomputable def X : List Entry := [spec_DrawDecodeNum.E, impl_DecodeNum.E, spec_DecodeNum.E, impl_EncodeNum.E, laws_equalInts.E, laws_product.E]
noncomputable def I : List Inl := [⟨5, Try.f5, ⟨[11, 33], [], [], [], [], []⟩⟩]
theorem I_ok : ∀ i ∈ I, Try.prog.funcs[i.f]? = some i.fn ∧ (i.fn.name == "runtime.NumGoroutine") = false := by
  intro i hi
  simp only [I, List.mem_cons, List.not_mem_nil, or_false] at hi
  subst hi
  exact ⟨by kernel_rfl, by kernel_rfl⟩
theorem e (fuel : Nat) (p0 : List Int) : runF Try.prog X I 0 fuel 5 Try.f5 [.d (.ints .u8 p0)] =
  (bif (decide ((((p0.length : Nat) : Int) : Int) > 1048576)) then
  some ([.one ((.bool true), false)], [])
  else
  (bif bytesB p0 then
  (bif decide (((aBs (cutC p0) 0)).length < 9223372036854775808) && decide (((dDd (cutC p0))).length < 9223372036854775808) then
  (bif decide (((aBs (cutC p0) 0)).length < 9223372036854775808) && decide (((dDd (cutC p0))).length < 9223372036854775808) then
  (bif (((deV ((aBs (cutC p0) 0)) ((dDd (cutC p0)))) : Int) != (deV ((aBs (cutC p0) 0)) ((dDd (cutC p0))))) then
  (bif decide (((aBs (cutC p0) 0)).length < 9223372036854775808) && decide (((dDd (cutC p0))).length < 9223372036854775808) then
  some ([.one ((.bool (((deV ((aBs (cutC p0) 0)) ((dDd (cutC p0)))) : Int) == (deV ((aBs (cutC p0) 0)) ((dDd (cutC p0)))))), false)], [])
  else
  none)
  else
  (bif (decide (((deV ((aBs (cutC p0) 0)) ((dDd (cutC p0)))) : Int) < 0)) then
  (bif decide (((aBs (cutC p0) 0)).length < 9223372036854775808) && decide (((dDd (cutC p0))).length < 9223372036854775808) then
  some ([.one ((.bool (((deV ((aBs (cutC p0) 0)) ((dDd (cutC p0)))) : Int) == (deV ((aBs (cutC p0) 0)) ((dDd (cutC p0)))))), false)], [])
  else
  none)
  else
  (bif decide (((aBs (cutC p0) 0)).length < 9223372036854775808) then
  (bif decide (((enD ((aBs (cutC p0) 0)) ((deV ((aBs (cutC p0) 0)) ((dDd (cutC p0))))))).length < 9223372036854775808) && decide (((dDd (cutC p0))).length < 9223372036854775808) then
  (bif (decide (((enD ((aBs (cutC p0) 0)) ((deV ((aBs (cutC p0) 0)) ((dDd (cutC p0))))))) = ((dDd (cutC p0))))) then
  (bif decide (((aBs (cutC p0) 0)).length < 9223372036854775808) then
  some ([.one ((.bool (decide (((deV ((aBs (cutC p0) 0)) ((dDd (cutC p0)))) : Int) < (volW ((aBs (cutC p0) 0)))))), false)], [])
  else
  none)
  else
  some ([.one ((.bool false), false)], []))
  else
  none)
  else
  none)))
  else
  none)
  else
  none)
  else
  none)) := by kernel_rfl
end laws_FnDecodeNum
theorem laws_FnDecodeNum.ok_of (hX : ∀ E ∈ laws_FnDecodeNum.X, CallSpec Try.prog E) (h : ∀ (bs : List Int), (bytesB bs) = true → ∃ fuel, runF Try.prog laws_FnDecodeNum.X laws_FnDecodeNum.I 0 fuel 5 Try.f5 [.d (.ints .u8 bs)] = some ([.one ((.bool true), false)], [])) : CallSpec Try.prog laws_FnDecodeNum.E :=
  callSpec_of (d := 0) hX (by kernel_rfl) laws_FnDecodeNum.I_ok (by kernel_rfl) (by kernel_rfl) (by kernel_rfl) (fun _ _ _ _ h => by dsimp only [laws_FnDecodeNum.E] at h; cases h) (fun xs hp => by
    dsimp only [laws_FnDecodeNum.E] at hp ⊢
    split at hp
    · exact h _ hp
    · cases hp)
theorem laws_FnDecodeNum.ok : CallSpec Try.prog laws_FnDecodeNum.E := laws_FnDecodeNum.ok_of (by simp [laws_FnDecodeNum.X, spec_DrawDecodeNum.ok, impl_DecodeNum.ok, spec_DecodeNum.ok, impl_EncodeNum.ok, laws_equalInts.ok, laws_product.ok]) fun bs h => by
  obtain ⟨F, hF⟩ : ∃ F : Nat, 4000 < F := ⟨4001, by omega⟩
  refine ⟨F, ?_⟩
  rw [laws_FnDecodeNum.e]
  by_cases hl : ((bs.length : Nat) : Int) > 1048576
  · rw [decide_eq_true hl]; rfl
  rw [decide_eq_false hl, cond_false, h, cond_true]
  have r0 := cut_ok h (p := 0) (by omega) (by omega)
  obtain ⟨a1, a2, a3⟩ := aBs_bd r0
  have a4 := (aPl_bd (cutC bs) (aBsP (cutC bs) 0) (aBs (cutC bs) 0)).1
  obtain ⟨xs, hxs⟩ : ∃ x, aBs (cutC bs) 0 = x := ⟨_, rfl⟩
  have a5 : (dDd (cutC bs)).length ≤ 10 := by unfold dDd; omega
  obtain ⟨ds, hds⟩ : ∃ x, dDd (cutC bs) = x := ⟨_, rfl⟩
  rw [hxs] at a1
  rw [hds] at a5
  have g1 := lt_of (xs := xs) (by omega)
  have g2 := lt_of (xs := ds) (by omega)
  simp only [hxs, hds]
  cases hb : deB xs ds with
  | false =>
    have e0 : deV xs ds = -1 := by simp only [deV, hb, cond_false]
    simp only [Bool.and_self, Bool.and_true, Bool.true_and, cond_true, cond_false, Bool.not_true, Bool.not_false, bne_self_eq_false, beq_self_eq_true, decide_true, eq_self, g1, g2, e0]
    rfl
  | true =>
    have hb' := hb
    simp only [deB, Bool.and_eq_true] at hb'
    obtain ⟨b1, b2, b3, b4, b5, b6, b7⟩ := bsB_inv hb'.1
    obtain ⟨m, m1, m2, m3⟩ := pl_dec b3 hb'.2
    have e0 : deV xs ds = (m : Int) := by
      have := m3 0 (by omega)
      rw [Nat.zero_mul, Nat.zero_add] at this
      simp only [deV, hb, cond_true]
      exact this
    obtain ⟨m', q1, _, _, _, _, he⟩ := enB_inv (enB_of hb'.1 m1)
    obtain rfl : m' = m := by omega
    simp only [Bool.and_self, Bool.and_true, Bool.true_and, cond_true, cond_false, Bool.not_true, Bool.not_false, bne_self_eq_false, beq_self_eq_true, decide_true, eq_self, g1, g2, e0, he, m2]
    rw [decide_eq_false (by omega), b4, decide_eq_true (by omega)]
    rfl

namespace impl_limited
noncomputable def E : Entry := ⟨45, true, false, fun | [.d (.int .i64 n)] => true | _ => false, fun | [.d (.int .i64 n)] => ([.one ((.int .i64 (limV n)), false)], []) | _ => ([], []), fun _ => [], false, fun _ => none⟩
end impl_limited
namespace impl_limited
noncomputable def X : List Entry := []
noncomputable def I : List Inl := [⟨45, Try.f45, ⟨[], [], [], [], [], []⟩⟩]
theorem I_ok : ∀ i ∈ I, Try.prog.funcs[i.f]? = some i.fn ∧ (i.fn.name == "runtime.NumGoroutine") = false := by
  intro i hi
  simp only [I, List.mem_cons, List.not_mem_nil, or_false] at hi
  subst hi
  exact ⟨by kernel_rfl, by kernel_rfl⟩
theorem e (fuel : Nat) (p0 : Int) : runF Try.prog X I 0 fuel 45 Try.f45 [.d (.int .i64 p0)] =
  some ([.one ((.int .i64 (minI (maxI p0 (-1000000)) 1000000)), false)], []) := by kernel_rfl
end impl_limited
theorem impl_limited.ok_of (hX : ∀ E ∈ impl_limited.X, CallSpec Try.prog E) (h : ∀ (n : Int), (true) = true → ∃ fuel, runF Try.prog impl_limited.X impl_limited.I 0 fuel 45 Try.f45 [.d (.int .i64 n)] = some ([.one ((.int .i64 (limV n)), false)], [])) : CallSpec Try.prog impl_limited.E :=
  callSpec_of (d := 0) hX (by kernel_rfl) impl_limited.I_ok (by kernel_rfl) (by kernel_rfl) (by kernel_rfl) (fun _ _ _ _ h => by dsimp only [impl_limited.E] at h; cases h) (fun xs hp => by
    dsimp only [impl_limited.E] at hp ⊢
    split at hp
    · exact h _ hp
    · cases hp)
theorem impl_limited.ok : CallSpec Try.prog impl_limited.E := impl_limited.ok_of (by simp [impl_limited.X]) fun n _ => ⟨0, by rw [impl_limited.e]; rfl⟩

namespace impl_functionOfTwo_1
noncomputable def E : Entry := ⟨53, true, false, fun | [.d (.int .i64 a), .d (.int .i64 b)] => true | _ => false, fun | [.d (.int .i64 a), .d (.int .i64 b)] => ([.one ((.int .i64 (limV (IntKind.wrap .i64 (a + b)))), false)], []) | _ => ([], []), fun _ => [], false, fun | [] => some (false, q2, (q2v (operF 1))) | _ => none⟩
end impl_functionOfTwo_1
namespace impl_functionOfTwo_1
noncomputable def X : List Entry := [impl_limited.E]
noncomputable def I : List Inl := [⟨53, Try.f53, ⟨[], [], [], [], [], []⟩⟩]
theorem I_ok : ∀ i ∈ I, Try.prog.funcs[i.f]? = some i.fn ∧ (i.fn.name == "runtime.NumGoroutine") = false := by
  intro i hi
  simp only [I, List.mem_cons, List.not_mem_nil, or_false] at hi
  subst hi
  exact ⟨by kernel_rfl, by kernel_rfl⟩
theorem e (fuel : Nat) (p0 : Int) (p1 : Int) : runF Try.prog X I 0 fuel 53 Try.f53 [.d (.int .i64 p0), .d (.int .i64 p1)] =
  some ([.one ((.int .i64 (limV ((IntKind.wrap .i64 (p0 + p1))))), false)], []) := by kernel_rfl
end impl_functionOfTwo_1
theorem impl_functionOfTwo_1.ok_of (hX : ∀ E ∈ impl_functionOfTwo_1.X, CallSpec Try.prog E) (hfn : ∀ ds rb dom G, impl_functionOfTwo_1.E.fnOf ds = some (rb, dom, G) → ∀ qs, dom qs = true → impl_functionOfTwo_1.E.m ((qs.map fun q => .d q.d) ++ ds.map .d) = some ([.one (fnD rb (G qs), false)], [])) (h : ∀ (a : Int) (b : Int), (true) = true → ∃ fuel, runF Try.prog impl_functionOfTwo_1.X impl_functionOfTwo_1.I 0 fuel 53 Try.f53 [.d (.int .i64 a), .d (.int .i64 b)] = some ([.one ((.int .i64 (limV (IntKind.wrap .i64 (a + b)))), false)], [])) : CallSpec Try.prog impl_functionOfTwo_1.E :=
  callSpec_of (d := 0) hX (by kernel_rfl) impl_functionOfTwo_1.I_ok (by kernel_rfl) (by kernel_rfl) (by kernel_rfl) hfn (fun xs hp => by
    dsimp only [impl_functionOfTwo_1.E] at hp ⊢
    split at hp
    · exact h _ _ hp
    · cases hp)
theorem impl_functionOfTwo_1.ok : CallSpec Try.prog impl_functionOfTwo_1.E := impl_functionOfTwo_1.ok_of (by simp [impl_functionOfTwo_1.X, impl_limited.ok]) (fun ds rb dom G h qs hq => by
  dsimp only [impl_functionOfTwo_1.E] at h
  split at h
  case h_2 => cases h
  cases h
  match qs, hq with
  | [.i a, .i b], _ => rfl) fun a b _ => ⟨0, by rw [impl_functionOfTwo_1.e]⟩

namespace impl_functionOfTwo_2
noncomputable def E : Entry := ⟨54, true, false, fun | [.d (.int .i64 a), .d (.int .i64 b)] => true | _ => false, fun | [.d (.int .i64 a), .d (.int .i64 b)] => ([.one ((.int .i64 (limV (IntKind.wrap .i64 (a - b)))), false)], []) | _ => ([], []), fun _ => [], false, fun | [] => some (false, q2, (q2v (operF 2))) | _ => none⟩
end impl_functionOfTwo_2
namespace impl_functionOfTwo_2
noncomputable def X : List Entry := [impl_limited.E]
noncomputable def I : List Inl := [⟨54, Try.f54, ⟨[], [], [], [], [], []⟩⟩]
theorem I_ok : ∀ i ∈ I, Try.prog.funcs[i.f]? = some i.fn ∧ (i.fn.name == "runtime.NumGoroutine") = false := by
  intro i hi
  simp only [I, List.mem_cons, List.not_mem_nil, or_false] at hi
  subst hi
  exact ⟨by kernel_rfl, by kernel_rfl⟩
theorem e (fuel : Nat) (p0 : Int) (p1 : Int) : runF Try.prog X I 0 fuel 54 Try.f54 [.d (.int .i64 p0), .d (.int .i64 p1)] =
  some ([.one ((.int .i64 (limV ((IntKind.wrap .i64 (p0 - p1))))), false)], []) := by kernel_rfl
end impl_functionOfTwo_2
theorem impl_functionOfTwo_2.ok_of (hX : ∀ E ∈ impl_functionOfTwo_2.X, CallSpec Try.prog E) (hfn : ∀ ds rb dom G, impl_functionOfTwo_2.E.fnOf ds = some (rb, dom, G) → ∀ qs, dom qs = true → impl_functionOfTwo_2.E.m ((qs.map fun q => .d q.d) ++ ds.map .d) = some ([.one (fnD rb (G qs), false)], [])) (h : ∀ (a : Int) (b : Int), (true) = true → ∃ fuel, runF Try.prog impl_functionOfTwo_2.X impl_functionOfTwo_2.I 0 fuel 54 Try.f54 [.d (.int .i64 a), .d (.int .i64 b)] = some ([.one ((.int .i64 (limV (IntKind.wrap .i64 (a - b)))), false)], [])) : CallSpec Try.prog impl_functionOfTwo_2.E :=
  callSpec_of (d := 0) hX (by kernel_rfl) impl_functionOfTwo_2.I_ok (by kernel_rfl) (by kernel_rfl) (by kernel_rfl) hfn (fun xs hp => by
    dsimp only [impl_functionOfTwo_2.E] at hp ⊢
    split at hp
    · exact h _ _ hp
    · cases hp)
theorem impl_functionOfTwo_2.ok : CallSpec Try.prog impl_functionOfTwo_2.E := impl_functionOfTwo_2.ok_of (by simp [impl_functionOfTwo_2.X, impl_limited.ok]) (fun ds rb dom G h qs hq => by
  dsimp only [impl_functionOfTwo_2.E] at h
  split at h
  case h_2 => cases h
  cases h
  match qs, hq with
  | [.i a, .i b], _ => rfl) fun a b _ => ⟨0, by rw [impl_functionOfTwo_2.e]⟩

namespace impl_functionOfTwo_3
noncomputable def E : Entry := ⟨55, true, false, fun | [.d (.int .i64 a), .d (.int .i64 b)] => true | _ => false, fun | [.d (.int .i64 a), .d (.int .i64 b)] => ([.one ((.int .i64 (limV (IntKind.wrap .i64 (a * b)))), false)], []) | _ => ([], []), fun _ => [], false, fun | [] => some (false, q2, (q2v (operF 3))) | _ => none⟩
end impl_functionOfTwo_3
namespace impl_functionOfTwo_3
noncomputable def X : List Entry := [impl_limited.E]
noncomputable def I : List Inl := [⟨55, Try.f55, ⟨[], [], [], [], [], []⟩⟩]
theorem I_ok : ∀ i ∈ I, Try.prog.funcs[i.f]? = some i.fn ∧ (i.fn.name == "runtime.NumGoroutine") = false := by
  intro i hi
  simp only [I, List.mem_cons, List.not_mem_nil, or_false] at hi
  subst hi
  exact ⟨by kernel_rfl, by kernel_rfl⟩
theorem e (fuel : Nat) (p0 : Int) (p1 : Int) : runF Try.prog X I 0 fuel 55 Try.f55 [.d (.int .i64 p0), .d (.int .i64 p1)] =
  some ([.one ((.int .i64 (limV ((IntKind.wrap .i64 (p0 * p1))))), false)], []) := by kernel_rfl
end impl_functionOfTwo_3
theorem impl_functionOfTwo_3.ok_of (hX : ∀ E ∈ impl_functionOfTwo_3.X, CallSpec Try.prog E) (hfn : ∀ ds rb dom G, impl_functionOfTwo_3.E.fnOf ds = some (rb, dom, G) → ∀ qs, dom qs = true → impl_functionOfTwo_3.E.m ((qs.map fun q => .d q.d) ++ ds.map .d) = some ([.one (fnD rb (G qs), false)], [])) (h : ∀ (a : Int) (b : Int), (true) = true → ∃ fuel, runF Try.prog impl_functionOfTwo_3.X impl_functionOfTwo_3.I 0 fuel 55 Try.f55 [.d (.int .i64 a), .d (.int .i64 b)] = some ([.one ((.int .i64 (limV (IntKind.wrap .i64 (a * b)))), false)], [])) : CallSpec Try.prog impl_functionOfTwo_3.E :=
  callSpec_of (d := 0) hX (by kernel_rfl) impl_functionOfTwo_3.I_ok (by kernel_rfl) (by kernel_rfl) (by kernel_rfl) hfn (fun xs hp => by
    dsimp only [impl_functionOfTwo_3.E] at hp ⊢
    split at hp
    · exact h _ _ hp
    · cases hp)
theorem impl_functionOfTwo_3.ok : CallSpec Try.prog impl_functionOfTwo_3.E := impl_functionOfTwo_3.ok_of (by simp [impl_functionOfTwo_3.X, impl_limited.ok]) (fun ds rb dom G h qs hq => by
  dsimp only [impl_functionOfTwo_3.E] at h
  split at h
  case h_2 => cases h
  cases h
  match qs, hq with
  | [.i a, .i b], _ => rfl) fun a b _ => ⟨0, by rw [impl_functionOfTwo_3.e]⟩

namespace impl_functionOfTwo_4
noncomputable def E : Entry := ⟨56, true, false, fun | [.d (.int .i64 a), .d (.int .i64 b)] => true | _ => false, fun | [.d (.int .i64 a), .d (.int .i64 b)] => ([.one ((.int .i64 (minI a b)), false)], []) | _ => ([], []), fun _ => [], false, fun | [] => some (false, q2, (q2v (operF 4))) | _ => none⟩
end impl_functionOfTwo_4
namespace impl_functionOfTwo_4
noncomputable def X : List Entry := []
noncomputable def I : List Inl := [⟨56, Try.f56, ⟨[], [], [], [], [], []⟩⟩]
theorem I_ok : ∀ i ∈ I, Try.prog.funcs[i.f]? = some i.fn ∧ (i.fn.name == "runtime.NumGoroutine") = false := by
  intro i hi
  simp only [I, List.mem_cons, List.not_mem_nil, or_false] at hi
  subst hi
  exact ⟨by kernel_rfl, by kernel_rfl⟩
theorem e (fuel : Nat) (p0 : Int) (p1 : Int) : runF Try.prog X I 0 fuel 56 Try.f56 [.d (.int .i64 p0), .d (.int .i64 p1)] =
  some ([.one ((.int .i64 (minI p0 p1)), false)], []) := by kernel_rfl
end impl_functionOfTwo_4
theorem impl_functionOfTwo_4.ok_of (hX : ∀ E ∈ impl_functionOfTwo_4.X, CallSpec Try.prog E) (hfn : ∀ ds rb dom G, impl_functionOfTwo_4.E.fnOf ds = some (rb, dom, G) → ∀ qs, dom qs = true → impl_functionOfTwo_4.E.m ((qs.map fun q => .d q.d) ++ ds.map .d) = some ([.one (fnD rb (G qs), false)], [])) (h : ∀ (a : Int) (b : Int), (true) = true → ∃ fuel, runF Try.prog impl_functionOfTwo_4.X impl_functionOfTwo_4.I 0 fuel 56 Try.f56 [.d (.int .i64 a), .d (.int .i64 b)] = some ([.one ((.int .i64 (minI a b)), false)], [])) : CallSpec Try.prog impl_functionOfTwo_4.E :=
  callSpec_of (d := 0) hX (by kernel_rfl) impl_functionOfTwo_4.I_ok (by kernel_rfl) (by kernel_rfl) (by kernel_rfl) hfn (fun xs hp => by
    dsimp only [impl_functionOfTwo_4.E] at hp ⊢
    split at hp
    · exact h _ _ hp
    · cases hp)
theorem impl_functionOfTwo_4.ok : CallSpec Try.prog impl_functionOfTwo_4.E := impl_functionOfTwo_4.ok_of (by simp [impl_functionOfTwo_4.X]) (fun ds rb dom G h qs hq => by
  dsimp only [impl_functionOfTwo_4.E] at h
  split at h
  case h_2 => cases h
  cases h
  match qs, hq with
  | [.i a, .i b], _ => rfl) fun a b _ => ⟨0, by rw [impl_functionOfTwo_4.e]⟩

namespace impl_functionOfTwo_5
noncomputable def E : Entry := ⟨57, true, false, fun | [.d (.int .i64 a), .d (.int .i64 b)] => true | _ => false, fun | [.d (.int .i64 a), .d (.int .i64 b)] => ([.one ((.int .i64 (maxI a b)), false)], []) | _ => ([], []), fun _ => [], false, fun | [] => some (false, q2, (q2v (operF 5))) | _ => none⟩
end impl_functionOfTwo_5
namespace impl_functionOfTwo_5
noncomputable def X : List Entry := []
noncomputable def I : List Inl := [⟨57, Try.f57, ⟨[], [], [], [], [], []⟩⟩]
theorem I_ok : ∀ i ∈ I, Try.prog.funcs[i.f]? = some i.fn ∧ (i.fn.name == "runtime.NumGoroutine") = false := by
  intro i hi
  simp only [I, List.mem_cons, List.not_mem_nil, or_false] at hi
  subst hi
  exact ⟨by kernel_rfl, by kernel_rfl⟩
theorem e (fuel : Nat) (p0 : Int) (p1 : Int) : runF Try.prog X I 0 fuel 57 Try.f57 [.d (.int .i64 p0), .d (.int .i64 p1)] =
  some ([.one ((.int .i64 (maxI p0 p1)), false)], []) := by kernel_rfl
end impl_functionOfTwo_5
theorem impl_functionOfTwo_5.ok_of (hX : ∀ E ∈ impl_functionOfTwo_5.X, CallSpec Try.prog E) (hfn : ∀ ds rb dom G, impl_functionOfTwo_5.E.fnOf ds = some (rb, dom, G) → ∀ qs, dom qs = true → impl_functionOfTwo_5.E.m ((qs.map fun q => .d q.d) ++ ds.map .d) = some ([.one (fnD rb (G qs), false)], [])) (h : ∀ (a : Int) (b : Int), (true) = true → ∃ fuel, runF Try.prog impl_functionOfTwo_5.X impl_functionOfTwo_5.I 0 fuel 57 Try.f57 [.d (.int .i64 a), .d (.int .i64 b)] = some ([.one ((.int .i64 (maxI a b)), false)], [])) : CallSpec Try.prog impl_functionOfTwo_5.E :=
  callSpec_of (d := 0) hX (by kernel_rfl) impl_functionOfTwo_5.I_ok (by kernel_rfl) (by kernel_rfl) (by kernel_rfl) hfn (fun xs hp => by
    dsimp only [impl_functionOfTwo_5.E] at hp ⊢
    split at hp
    · exact h _ _ hp
    · cases hp)
theorem impl_functionOfTwo_5.ok : CallSpec Try.prog impl_functionOfTwo_5.E := impl_functionOfTwo_5.ok_of (by simp [impl_functionOfTwo_5.X]) (fun ds rb dom G h qs hq => by
  dsimp only [impl_functionOfTwo_5.E] at h
  split at h
  case h_2 => cases h
  cases h
  match qs, hq with
  | [.i a, .i b], _ => rfl) fun a b _ => ⟨0, by rw [impl_functionOfTwo_5.e]⟩

namespace impl_truth
noncomputable def E : Entry := ⟨59, true, false, fun | [.d (.bool b)] => true | _ => false, fun | [.d (.bool b)] => ([.one ((.int .i64 (tInt b)), false)], []) | _ => ([], []), fun _ => [], false, fun _ => none⟩
end impl_truth
namespace impl_truth
noncomputable def X : List Entry := []
noncomputable def I : List Inl := [⟨59, Try.f59, ⟨[], [], [], [], [], []⟩⟩]
theorem I_ok : ∀ i ∈ I, Try.prog.funcs[i.f]? = some i.fn ∧ (i.fn.name == "runtime.NumGoroutine") = false := by
  intro i hi
  simp only [I, List.mem_cons, List.not_mem_nil, or_false] at hi
  subst hi
  exact ⟨by kernel_rfl, by kernel_rfl⟩
theorem e (fuel : Nat) (p0 : Bool) : runF Try.prog X I 0 fuel 59 Try.f59 [.d (.bool p0)] =
  (bif p0 then
  some ([.one ((.int .i64 1), false)], [])
  else
  some ([.one ((.int .i64 0), false)], [])) := by kernel_rfl
end impl_truth
theorem impl_truth.ok_of (hX : ∀ E ∈ impl_truth.X, CallSpec Try.prog E) (h : ∀ (b : Bool), (true) = true → ∃ fuel, runF Try.prog impl_truth.X impl_truth.I 0 fuel 59 Try.f59 [.d (.bool b)] = some ([.one ((.int .i64 (tInt b)), false)], [])) : CallSpec Try.prog impl_truth.E :=
  callSpec_of (d := 0) hX (by kernel_rfl) impl_truth.I_ok (by kernel_rfl) (by kernel_rfl) (by kernel_rfl) (fun _ _ _ _ h => by dsimp only [impl_truth.E] at h; cases h) (fun xs hp => by
    dsimp only [impl_truth.E] at hp ⊢
    split at hp
    · exact h _ hp
    · cases hp)
theorem impl_truth.ok : CallSpec Try.prog impl_truth.E := impl_truth.ok_of (by simp [impl_truth.X]) fun b _ => ⟨0, by rw [impl_truth.e]; cases b <;> rfl⟩

namespace impl_functionOfTwo_6
noncomputable def E : Entry := ⟨58, true, false, fun | [.d (.int .i64 a), .d (.int .i64 b)] => true | _ => false, fun | [.d (.int .i64 a), .d (.int .i64 b)] => ([.one ((.int .i64 (tInt (a == b))), false)], []) | _ => ([], []), fun _ => [], false, fun | [] => some (false, q2, (q2v (operF 6))) | _ => none⟩
end impl_functionOfTwo_6
namespace impl_functionOfTwo_6
noncomputable def X : List Entry := [impl_truth.E]
noncomputable def I : List Inl := [⟨58, Try.f58, ⟨[], [], [], [], [], []⟩⟩]
theorem I_ok : ∀ i ∈ I, Try.prog.funcs[i.f]? = some i.fn ∧ (i.fn.name == "runtime.NumGoroutine") = false := by
  intro i hi
  simp only [I, List.mem_cons, List.not_mem_nil, or_false] at hi
  subst hi
  exact ⟨by kernel_rfl, by kernel_rfl⟩
theorem e (fuel : Nat) (p0 : Int) (p1 : Int) : runF Try.prog X I 0 fuel 58 Try.f58 [.d (.int .i64 p0), .d (.int .i64 p1)] =
  some ([.one ((.int .i64 (tInt (((p0 : Int) == p1)))), false)], []) := by kernel_rfl
end impl_functionOfTwo_6
theorem impl_functionOfTwo_6.ok_of (hX : ∀ E ∈ impl_functionOfTwo_6.X, CallSpec Try.prog E) (hfn : ∀ ds rb dom G, impl_functionOfTwo_6.E.fnOf ds = some (rb, dom, G) → ∀ qs, dom qs = true → impl_functionOfTwo_6.E.m ((qs.map fun q => .d q.d) ++ ds.map .d) = some ([.one (fnD rb (G qs), false)], [])) (h : ∀ (a : Int) (b : Int), (true) = true → ∃ fuel, runF Try.prog impl_functionOfTwo_6.X impl_functionOfTwo_6.I 0 fuel 58 Try.f58 [.d (.int .i64 a), .d (.int .i64 b)] = some ([.one ((.int .i64 (tInt (a == b))), false)], [])) : CallSpec Try.prog impl_functionOfTwo_6.E :=
  callSpec_of (d := 0) hX (by kernel_rfl) impl_functionOfTwo_6.I_ok (by kernel_rfl) (by kernel_rfl) (by kernel_rfl) hfn (fun xs hp => by
    dsimp only [impl_functionOfTwo_6.E] at hp ⊢
    split at hp
    · exact h _ _ hp
    · cases hp)
theorem impl_functionOfTwo_6.ok : CallSpec Try.prog impl_functionOfTwo_6.E := impl_functionOfTwo_6.ok_of (by simp [impl_functionOfTwo_6.X, impl_truth.ok]) (fun ds rb dom G h qs hq => by
  dsimp only [impl_functionOfTwo_6.E] at h
  split at h
  case h_2 => cases h
  cases h
  match qs, hq with
  | [.i a, .i b], _ => rfl) fun a b _ => ⟨0, by rw [impl_functionOfTwo_6.e]⟩

namespace impl_functionOfTwo_7
noncomputable def E : Entry := ⟨60, true, false, fun | [.d (.int .i64 a), .d (.int .i64 b)] => true | _ => false, fun | [.d (.int .i64 a), .d (.int .i64 b)] => ([.one ((.int .i64 (tInt (decide (a < b)))), false)], []) | _ => ([], []), fun _ => [], false, fun | [] => some (false, q2, (q2v (operF 7))) | _ => none⟩
end impl_functionOfTwo_7
namespace impl_functionOfTwo_7
noncomputable def X : List Entry := [impl_truth.E]
noncomputable def I : List Inl := [⟨60, Try.f60, ⟨[], [], [], [], [], []⟩⟩]
theorem I_ok : ∀ i ∈ I, Try.prog.funcs[i.f]? = some i.fn ∧ (i.fn.name == "runtime.NumGoroutine") = false := by
  intro i hi
  simp only [I, List.mem_cons, List.not_mem_nil, or_false] at hi
  subst hi
  exact ⟨by kernel_rfl, by kernel_rfl⟩
theorem e (fuel : Nat) (p0 : Int) (p1 : Int) : runF Try.prog X I 0 fuel 60 Try.f60 [.d (.int .i64 p0), .d (.int .i64 p1)] =
  some ([.one ((.int .i64 (tInt ((decide ((p0 : Int) < p1))))), false)], []) := by kernel_rfl
end impl_functionOfTwo_7
theorem impl_functionOfTwo_7.ok_of (hX : ∀ E ∈ impl_functionOfTwo_7.X, CallSpec Try.prog E) (hfn : ∀ ds rb dom G, impl_functionOfTwo_7.E.fnOf ds = some (rb, dom, G) → ∀ qs, dom qs = true → impl_functionOfTwo_7.E.m ((qs.map fun q => .d q.d) ++ ds.map .d) = some ([.one (fnD rb (G qs), false)], [])) (h : ∀ (a : Int) (b : Int), (true) = true → ∃ fuel, runF Try.prog impl_functionOfTwo_7.X impl_functionOfTwo_7.I 0 fuel 60 Try.f60 [.d (.int .i64 a), .d (.int .i64 b)] = some ([.one ((.int .i64 (tInt (decide (a < b)))), false)], [])) : CallSpec Try.prog impl_functionOfTwo_7.E :=
  callSpec_of (d := 0) hX (by kernel_rfl) impl_functionOfTwo_7.I_ok (by kernel_rfl) (by kernel_rfl) (by kernel_rfl) hfn (fun xs hp => by
    dsimp only [impl_functionOfTwo_7.E] at hp ⊢
    split at hp
    · exact h _ _ hp
    · cases hp)
theorem impl_functionOfTwo_7.ok : CallSpec Try.prog impl_functionOfTwo_7.E := impl_functionOfTwo_7.ok_of (by simp [impl_functionOfTwo_7.X, impl_truth.ok]) (fun ds rb dom G h qs hq => by
  dsimp only [impl_functionOfTwo_7.E] at h
  split at h
  case h_2 => cases h
  cases h
  match qs, hq with
  | [.i a, .i b], _ => rfl) fun a b _ => ⟨0, by rw [impl_functionOfTwo_7.e]⟩

namespace impl_restOf
noncomputable def E : Entry := ⟨61, true, false, fun | [.d (.int .i64 d), .d (.int .i64 n)] => true | _ => false, fun | [.d (.int .i64 d), .d (.int .i64 n)] => ([.one ((.int .i64 (restV d n)), false)], []) | _ => ([], []), fun _ => [], false, fun | [] => some (false, q2, (q2v (operF 8))) | _ => none⟩
end impl_restOf
namespace impl_restOf
noncomputable def X : List Entry := []
noncomputable def I : List Inl := [⟨61, Try.f61, ⟨[], [], [], [], [], []⟩⟩]
theorem I_ok : ∀ i ∈ I, Try.prog.funcs[i.f]? = some i.fn ∧ (i.fn.name == "runtime.NumGoroutine") = false := by
  intro i hi
  simp only [I, List.mem_cons, List.not_mem_nil, or_false] at hi
  subst hi
  exact ⟨by kernel_rfl, by kernel_rfl⟩
theorem e (fuel : Nat) (p0 : Int) (p1 : Int) : runF Try.prog X I 0 fuel 61 Try.f61 [.d (.int .i64 p0), .d (.int .i64 p1)] =
  (bif (decide ((p0 : Int) ≤ 0)) then
  some ([.one ((.int .i64 p1), false)], [])
  else
  (bif decide ((p0 : Int) = 0) then
  none
  else
  (bif decide ((p0 : Int) = 0) then
  none
  else
  some ([.one ((.int .i64 (Int.tmod (IntKind.wrap .i64 ((Int.tmod p1 p0) + p0)) p0)), false)], [])))) := by kernel_rfl
end impl_restOf
theorem impl_restOf.ok_of (hX : ∀ E ∈ impl_restOf.X, CallSpec Try.prog E) (hfn : ∀ ds rb dom G, impl_restOf.E.fnOf ds = some (rb, dom, G) → ∀ qs, dom qs = true → impl_restOf.E.m ((qs.map fun q => .d q.d) ++ ds.map .d) = some ([.one (fnD rb (G qs), false)], [])) (h : ∀ (d : Int) (n : Int), (true) = true → ∃ fuel, runF Try.prog impl_restOf.X impl_restOf.I 0 fuel 61 Try.f61 [.d (.int .i64 d), .d (.int .i64 n)] = some ([.one ((.int .i64 (restV d n)), false)], [])) : CallSpec Try.prog impl_restOf.E :=
  callSpec_of (d := 0) hX (by kernel_rfl) impl_restOf.I_ok (by kernel_rfl) (by kernel_rfl) (by kernel_rfl) hfn (fun xs hp => by
    dsimp only [impl_restOf.E] at hp ⊢
    split at hp
    · exact h _ _ hp
    · cases hp)
theorem impl_restOf.ok : CallSpec Try.prog impl_restOf.E := impl_restOf.ok_of (by simp [impl_restOf.X]) (fun ds rb dom G h qs hq => by
  dsimp only [impl_restOf.E] at h
  split at h
  case h_2 => cases h
  cases h
  match qs, hq with
  | [.i a, .i b], _ => rfl) fun d n _ => ⟨0, by
  rw [impl_restOf.e]
  unfold restV
  by_cases h : d ≤ 0
  · rw [decide_eq_true h]; rfl
  · rw [decide_eq_false h, decide_eq_false (p := d = 0) (by omega)]; rfl⟩

namespace impl_functionOfTwo
noncomputable def E : Entry := ⟨38, true, false, fun | [.d (.int .i64 op)] => true | _ => false, fun | [.d (.int .i64 op)] => ([.one (.nilf, false)], []) | _ => ([], []), fun | [.d (.int .i64 op)] => [(decide (op = 1), ([.one ((.clo 53 []), false)], [])), (decide (op = 2), ([.one ((.clo 54 []), false)], [])), (decide (op = 3), ([.one ((.clo 55 []), false)], [])), (decide (op = 4), ([.one ((.clo 56 []), false)], [])), (decide (op = 5), ([.one ((.clo 57 []), false)], [])), (decide (op = 6), ([.one ((.clo 58 []), false)], [])), (decide (op = 7), ([.one ((.clo 60 []), false)], [])), (decide (op = 8), ([.one ((.clo 61 []), false)], []))] | _ => [], false, fun _ => none⟩
end impl_functionOfTwo
namespace impl_functionOfTwo
noncomputable def X : List Entry := []
noncomputable def I : List Inl := [⟨38, Try.f38, ⟨[], [], [], [], [], []⟩⟩]
theorem I_ok : ∀ i ∈ I, Try.prog.funcs[i.f]? = some i.fn ∧ (i.fn.name == "runtime.NumGoroutine") = false := by
  intro i hi
  simp only [I, List.mem_cons, List.not_mem_nil, or_false] at hi
  subst hi
  exact ⟨by kernel_rfl, by kernel_rfl⟩
theorem e (fuel : Nat) (p0 : Int) : runF Try.prog X I 0 fuel 38 Try.f38 [.d (.int .i64 p0)] =
  (bif (decide ((p0 : Int) < 0)) then
  some ([.one (.nilf, false)], [])
  else
  (bif (decide ((p0 : Int) ≥ 9)) then
  some ([.one (.nilf, false)], [])
  else
  (bif decide (p0 = ((0 : Nat) : Int)) then
  some ([.one (.nilf, false)], [])
  else
  (bif decide (p0 = ((1 : Nat) : Int)) then
  some ([.one ((.clo 53 []), false)], [])
  else
  (bif decide (p0 = ((2 : Nat) : Int)) then
  some ([.one ((.clo 54 []), false)], [])
  else
  (bif decide (p0 = ((3 : Nat) : Int)) then
  some ([.one ((.clo 55 []), false)], [])
  else
  (bif decide (p0 = ((4 : Nat) : Int)) then
  some ([.one ((.clo 56 []), false)], [])
  else
  (bif decide (p0 = ((5 : Nat) : Int)) then
  some ([.one ((.clo 57 []), false)], [])
  else
  (bif decide (p0 = ((6 : Nat) : Int)) then
  some ([.one ((.clo 58 []), false)], [])
  else
  (bif decide (p0 = ((7 : Nat) : Int)) then
  some ([.one ((.clo 60 []), false)], [])
  else
  (bif decide (p0 = ((8 : Nat) : Int)) then
  some ([.one ((.clo 61 []), false)], [])
  else
  none))))))))))) := by kernel_rfl
end impl_functionOfTwo
theorem impl_functionOfTwo.ok_of (hX : ∀ E ∈ impl_functionOfTwo.X, CallSpec Try.prog E) (h : ∀ (op : Int), (true) = true → ∃ fuel, runF Try.prog impl_functionOfTwo.X impl_functionOfTwo.I 0 fuel 38 Try.f38 [.d (.int .i64 op)] = some (bif decide (op = 1) then ([.one ((.clo 53 []), false)], []) else (bif decide (op = 2) then ([.one ((.clo 54 []), false)], []) else (bif decide (op = 3) then ([.one ((.clo 55 []), false)], []) else (bif decide (op = 4) then ([.one ((.clo 56 []), false)], []) else (bif decide (op = 5) then ([.one ((.clo 57 []), false)], []) else (bif decide (op = 6) then ([.one ((.clo 58 []), false)], []) else (bif decide (op = 7) then ([.one ((.clo 60 []), false)], []) else (bif decide (op = 8) then ([.one ((.clo 61 []), false)], []) else ([.one (.nilf, false)], [])))))))))) : CallSpec Try.prog impl_functionOfTwo.E :=
  callSpec_of (d := 0) hX (by kernel_rfl) impl_functionOfTwo.I_ok (by kernel_rfl) (by kernel_rfl) (by kernel_rfl) (fun _ _ _ _ h => by dsimp only [impl_functionOfTwo.E] at h; cases h) (fun xs hp => by
    dsimp only [impl_functionOfTwo.E] at hp ⊢
    split at hp
    · exact h _ hp
    · cases hp)
theorem impl_functionOfTwo.ok : CallSpec Try.prog impl_functionOfTwo.E := impl_functionOfTwo.ok_of (by simp [impl_functionOfTwo.X]) fun op _ => ⟨0, by
  rw [impl_functionOfTwo.e]
  cases ho : opOk op with
  | true => rcases opOk_cases ho with rfl | rfl | rfl | rfl | rfl | rfl | rfl | rfl <;> rfl
  | false =>
    have h := opOk_no ho
    rw [decide_eq_false (p := op = 1) (by omega), decide_eq_false (p := op = 2) (by omega), decide_eq_false (p := op = 3) (by omega), decide_eq_false (p := op = 4) (by omega),
      decide_eq_false (p := op = 5) (by omega), decide_eq_false (p := op = 6) (by omega), decide_eq_false (p := op = 7) (by omega), decide_eq_false (p := op = 8) (by omega)]
    by_cases h1 : op < 0
    · rw [decide_eq_true h1]; rfl
    · by_cases h2 : op ≥ 9
      · rw [decide_eq_false h1, decide_eq_true h2]; rfl
      · have : op = 0 := by omega
        subst this
        rfl⟩

namespace impl_isNumber
noncomputable def E : Entry := ⟨39, true, false, fun | [.d (.int .i64 v)] => true | _ => false, fun | [.d (.int .i64 v)] => ([.one ((.bool (numB v)), false)], []) | _ => ([], []), fun _ => [], false, fun _ => none⟩
end impl_isNumber
namespace impl_isNumber
noncomputable def X : List Entry := []
noncomputable def I : List Inl := [⟨39, Try.f39, ⟨[], [], [], [], [], []⟩⟩]
theorem I_ok : ∀ i ∈ I, Try.prog.funcs[i.f]? = some i.fn ∧ (i.fn.name == "runtime.NumGoroutine") = false := by
  intro i hi
  simp only [I, List.mem_cons, List.not_mem_nil, or_false] at hi
  subst hi
  exact ⟨by kernel_rfl, by kernel_rfl⟩
theorem e (fuel : Nat) (p0 : Int) : runF Try.prog X I 0 fuel 39 Try.f39 [.d (.int .i64 p0)] =
  (bif (decide (((-1000000) : Int) ≤ p0)) then
  some ([.one ((.bool (decide ((p0 : Int) ≤ 1000000))), false)], [])
  else
  some ([.one ((.bool false), false)], [])) := by kernel_rfl
end impl_isNumber
theorem impl_isNumber.ok_of (hX : ∀ E ∈ impl_isNumber.X, CallSpec Try.prog E) (h : ∀ (v : Int), (true) = true → ∃ fuel, runF Try.prog impl_isNumber.X impl_isNumber.I 0 fuel 39 Try.f39 [.d (.int .i64 v)] = some ([.one ((.bool (numB v)), false)], [])) : CallSpec Try.prog impl_isNumber.E :=
  callSpec_of (d := 0) hX (by kernel_rfl) impl_isNumber.I_ok (by kernel_rfl) (by kernel_rfl) (by kernel_rfl) (fun _ _ _ _ h => by dsimp only [impl_isNumber.E] at h; cases h) (fun xs hp => by
    dsimp only [impl_isNumber.E] at hp ⊢
    split at hp
    · exact h _ hp
    · cases hp)
theorem impl_isNumber.ok : CallSpec Try.prog impl_isNumber.E := impl_isNumber.ok_of (by simp [impl_isNumber.X]) fun v _ => ⟨0, by
  rw [impl_isNumber.e]
  unfold numB
  cases decide (-1000000 ≤ v) <;> rfl⟩

namespace impl_Operate
noncomputable def E : Entry := ⟨17, true, false, fun | [.d (.int .i64 op), .d (.int .i64 a), .d (.int .i64 b)] => true | _ => false, fun | [.d (.int .i64 op), .d (.int .i64 a), .d (.int .i64 b)] => ([.one ((.int .i64 (operV op a b)), false)], []) | _ => ([], []), fun _ => [], false, fun _ => none⟩
end impl_Operate
namespace impl_Operate
noncomputable def X : List Entry := [impl_functionOfTwo.E, impl_isNumber.E, impl_restOf.E, impl_functionOfTwo_7.E, impl_functionOfTwo_6.E, impl_functionOfTwo_5.E, impl_functionOfTwo_4.E, impl_functionOfTwo_3.E, impl_functionOfTwo_2.E, impl_functionOfTwo_1.E]
noncomputable def I : List Inl := [⟨17, Try.f17, ⟨[], [], [], [], [], []⟩⟩]
theorem I_ok : ∀ i ∈ I, Try.prog.funcs[i.f]? = some i.fn ∧ (i.fn.name == "runtime.NumGoroutine") = false := by
  intro i hi
  simp only [I, List.mem_cons, List.not_mem_nil, or_false] at hi
  subst hi
  exact ⟨by kernel_rfl, by kernel_rfl⟩
theorem e (fuel : Nat) (p0 : Int) (p1 : Int) (p2 : Int) : runF Try.prog X I 0 fuel 17 Try.f17 [.d (.int .i64 p0), .d (.int .i64 p1), .d (.int .i64 p2)] =
  (bif decide (p0 = 1) then
  (bif (!(numB p1)) then
  some ([.one ((.int .i64 0), false)], [])
  else
  (bif (!(numB p2)) then
  some ([.one ((.int .i64 0), false)], [])
  else
  some ([.one ((.int .i64 (limV (IntKind.wrap .i64 (p1 + p2)))), false)], [])))
  else
  (bif decide (p0 = 2) then
  (bif (!(numB p1)) then
  some ([.one ((.int .i64 0), false)], [])
  else
  (bif (!(numB p2)) then
  some ([.one ((.int .i64 0), false)], [])
  else
  some ([.one ((.int .i64 (limV (IntKind.wrap .i64 (p1 - p2)))), false)], [])))
  else
  (bif decide (p0 = 3) then
  (bif (!(numB p1)) then
  some ([.one ((.int .i64 0), false)], [])
  else
  (bif (!(numB p2)) then
  some ([.one ((.int .i64 0), false)], [])
  else
  some ([.one ((.int .i64 (limV (IntKind.wrap .i64 (p1 * p2)))), false)], [])))
  else
  (bif decide (p0 = 4) then
  (bif (!(numB p1)) then
  some ([.one ((.int .i64 0), false)], [])
  else
  (bif (!(numB p2)) then
  some ([.one ((.int .i64 0), false)], [])
  else
  some ([.one ((.int .i64 (minI p1 p2)), false)], [])))
  else
  (bif decide (p0 = 5) then
  (bif (!(numB p1)) then
  some ([.one ((.int .i64 0), false)], [])
  else
  (bif (!(numB p2)) then
  some ([.one ((.int .i64 0), false)], [])
  else
  some ([.one ((.int .i64 (maxI p1 p2)), false)], [])))
  else
  (bif decide (p0 = 6) then
  (bif (!(numB p1)) then
  some ([.one ((.int .i64 0), false)], [])
  else
  (bif (!(numB p2)) then
  some ([.one ((.int .i64 0), false)], [])
  else
  some ([.one ((.int .i64 (tInt (p1 == p2))), false)], [])))
  else
  (bif decide (p0 = 7) then
  (bif (!(numB p1)) then
  some ([.one ((.int .i64 0), false)], [])
  else
  (bif (!(numB p2)) then
  some ([.one ((.int .i64 0), false)], [])
  else
  some ([.one ((.int .i64 (tInt (decide (p1 < p2)))), false)], [])))
  else
  (bif decide (p0 = 8) then
  (bif (!(numB p1)) then
  some ([.one ((.int .i64 0), false)], [])
  else
  (bif (!(numB p2)) then
  some ([.one ((.int .i64 0), false)], [])
  else
  some ([.one ((.int .i64 (restV p1 p2)), false)], [])))
  else
  some ([.one ((.int .i64 0), false)], []))))))))) := by kernel_rfl
end impl_Operate
theorem impl_Operate.ok_of (hX : ∀ E ∈ impl_Operate.X, CallSpec Try.prog E) (h : ∀ (op : Int) (a : Int) (b : Int), (true) = true → ∃ fuel, runF Try.prog impl_Operate.X impl_Operate.I 0 fuel 17 Try.f17 [.d (.int .i64 op), .d (.int .i64 a), .d (.int .i64 b)] = some ([.one ((.int .i64 (operV op a b)), false)], [])) : CallSpec Try.prog impl_Operate.E :=
  callSpec_of (d := 0) hX (by kernel_rfl) impl_Operate.I_ok (by kernel_rfl) (by kernel_rfl) (by kernel_rfl) (fun _ _ _ _ h => by dsimp only [impl_Operate.E] at h; cases h) (fun xs hp => by
    dsimp only [impl_Operate.E] at hp ⊢
    split at hp
    · exact h _ _ _ hp
    · cases hp)
theorem impl_Operate.ok : CallSpec Try.prog impl_Operate.E := impl_Operate.ok_of (by simp [impl_Operate.X, impl_functionOfTwo.ok, impl_isNumber.ok, impl_restOf.ok, impl_functionOfTwo_1.ok, impl_functionOfTwo_2.ok, impl_functionOfTwo_3.ok, impl_functionOfTwo_4.ok, impl_functionOfTwo_5.ok, impl_functionOfTwo_6.ok, impl_functionOfTwo_7.ok]) fun op a b _ => ⟨0, by
  rw [impl_Operate.e]
  unfold operV
  cases ho : opOk op with
  | true =>
    rcases opOk_cases ho with rfl | rfl | rfl | rfl | rfl | rfl | rfl | rfl <;> cases numB a <;> cases numB b <;> rfl
  | false =>
    have h := opOk_no ho
    rw [decide_eq_false (p := op = 1) (by omega), decide_eq_false (p := op = 2) (by omega), decide_eq_false (p := op = 3) (by omega), decide_eq_false (p := op = 4) (by omega),
      decide_eq_false (p := op = 5) (by omega), decide_eq_false (p := op = 6) (by omega), decide_eq_false (p := op = 7) (by omega), decide_eq_false (p := op = 8) (by omega)]
    rfl⟩

namespace laws_FnEncodeNumLast
noncomputable def E : Entry := ⟨6, true, false, fun | [.d (.ints .u8 bs)] => bytesB bs | _ => false, fun | [.d (.ints .u8 bs)] => ([.one ((.bool true), false)], []) | _ => ([], []), fun _ => [], false, fun _ => none⟩
end laws_FnEncodeNumLast
namespace laws_FnEncodeNumLast
noncomputable def X : List Entry := [spec_DrawEncodeNum.E, impl_EncodeNum.E, spec_EncodeNum.E, laws_equalInts.E, impl_Operate.E]
noncomputable def I : List Inl := [⟨6, Try.f6, ⟨[12, 17, 21, 32], [], [], [(8, [0, 1, 4, 5, 8, 2, 3, 6, 7, 9, 10, 11])], [], []⟩⟩]
theorem I_ok : ∀ i ∈ I, Try.prog.funcs[i.f]? = some i.fn ∧ (i.fn.name == "runtime.NumGoroutine") = false := by
  intro i hi
  simp only [I, List.mem_cons, List.not_mem_nil, or_false] at hi
  subst hi
  exact ⟨by kernel_rfl, by kernel_rfl⟩
theorem e (fuel : Nat) (p0 : List Int) : runF Try.prog X I 0 fuel 6 Try.f6 [.d (.ints .u8 p0)] =
  (bif (decide ((((p0.length : Nat) : Int) : Int) > 1048576)) then
  some ([.one ((.bool true), false)], [])
  else
  (bif bytesB p0 then
  (bif decide (((aBs (cutC p0) 0)).length < 9223372036854775808) then
  (bif decide (((aBs (cutC p0) 0)).length < 9223372036854775808) then
  (bif decide (((enD ((aBs (cutC p0) 0)) ((dEn (cutC p0))))).length < 9223372036854775808) && decide (((enD ((aBs (cutC p0) 0)) ((dEn (cutC p0))))).length < 9223372036854775808) then
  (bif (!(decide (((enD ((aBs (cutC p0) 0)) ((dEn (cutC p0))))) = ((enD ((aBs (cutC p0) 0)) ((dEn (cutC p0)))))))) then
  (bif decide (((aBs (cutC p0) 0)).length < 9223372036854775808) then
  (bif decide (((enD ((aBs (cutC p0) 0)) ((dEn (cutC p0))))).length < 9223372036854775808) && decide (((enD ((aBs (cutC p0) 0)) ((dEn (cutC p0))))).length < 9223372036854775808) then
  some ([.one ((.bool (decide (((enD ((aBs (cutC p0) 0)) ((dEn (cutC p0))))) = ((enD ((aBs (cutC p0) 0)) ((dEn (cutC p0)))))))), false)], [])
  else
  none)
  else
  none)
  else
  (bif (((((enD ((aBs (cutC p0) 0)) ((dEn (cutC p0)))).length : Nat) : Int) : Int) == 0) then
  (bif decide (((aBs (cutC p0) 0)).length < 9223372036854775808) then
  (bif decide (((enD ((aBs (cutC p0) 0)) ((dEn (cutC p0))))).length < 9223372036854775808) && decide (((enD ((aBs (cutC p0) 0)) ((dEn (cutC p0))))).length < 9223372036854775808) then
  some ([.one ((.bool (decide (((enD ((aBs (cutC p0) 0)) ((dEn (cutC p0))))) = ((enD ((aBs (cutC p0) 0)) ((dEn (cutC p0)))))))), false)], [])
  else
  none)
  else
  none)
  else
  (idx (IntKind.wrap .i64 ((((aBs (cutC p0) 0).length : Nat) : Int) - 1)) (enD ((aBs (cutC p0) 0)) ((dEn (cutC p0)))).length).bind fun j1 =>
  ((enD ((aBs (cutC p0) 0)) ((dEn (cutC p0))))[j1]?).bind fun v2 =>
  (idx (IntKind.wrap .i64 ((((aBs (cutC p0) 0).length : Nat) : Int) - 1)) (aBs (cutC p0) 0).length).bind fun j3 =>
  ((aBs (cutC p0) 0)[j3]?).bind fun v4 =>
  some ([.one ((.bool ((v2 : Int) == (operV 8 v4 ((dEn (cutC p0)))))), false)], [])))
  else
  none)
  else
  none)
  else
  none)
  else
  none)) := by kernel_rfl
end laws_FnEncodeNumLast
theorem laws_FnEncodeNumLast.ok_of (hX : ∀ E ∈ laws_FnEncodeNumLast.X, CallSpec Try.prog E) (h : ∀ (bs : List Int), (bytesB bs) = true → ∃ fuel, runF Try.prog laws_FnEncodeNumLast.X laws_FnEncodeNumLast.I 0 fuel 6 Try.f6 [.d (.ints .u8 bs)] = some ([.one ((.bool true), false)], [])) : CallSpec Try.prog laws_FnEncodeNumLast.E :=
  callSpec_of (d := 0) hX (by kernel_rfl) laws_FnEncodeNumLast.I_ok (by kernel_rfl) (by kernel_rfl) (by kernel_rfl) (fun _ _ _ _ h => by dsimp only [laws_FnEncodeNumLast.E] at h; cases h) (fun xs hp => by
    dsimp only [laws_FnEncodeNumLast.E] at hp ⊢
    split at hp
    · exact h _ hp
    · cases hp)
theorem laws_FnEncodeNumLast.ok : CallSpec Try.prog laws_FnEncodeNumLast.E := laws_FnEncodeNumLast.ok_of (by simp [laws_FnEncodeNumLast.X, spec_DrawEncodeNum.ok, impl_EncodeNum.ok, spec_EncodeNum.ok, laws_equalInts.ok, impl_Operate.ok]) fun bs h => by
  obtain ⟨F, hF⟩ : ∃ F : Nat, 4000 < F := ⟨4001, by omega⟩
  refine ⟨F, ?_⟩
  rw [laws_FnEncodeNumLast.e]
  by_cases hl : ((bs.length : Nat) : Int) > 1048576
  · rw [decide_eq_true hl]; rfl
  rw [decide_eq_false hl, cond_false, h, cond_true]
  have r0 := cut_ok h (p := 0) (by omega) (by omega)
  obtain ⟨a1, _, _⟩ := aBs_bd r0
  have hnm : dEn (cutC bs) ∈ encL := oneV_mem (rd_le (q := aBsP (cutC bs) 0) r0 (by omega) (by omega)) (by simp [encL]) (by simp [encL])
  have hnb : -1 ≤ dEn (cutC bs) ∧ dEn (cutC bs) ≤ 1000000 := by
    simp only [encL, List.mem_cons, List.not_mem_nil, or_false] at hnm
    omega
  obtain ⟨xs, hxs⟩ : ∃ x, aBs (cutC bs) 0 = x := ⟨_, rfl⟩
  obtain ⟨n, hn⟩ : ∃ x, dEn (cutC bs) = x := ⟨_, rfl⟩
  rw [hxs] at a1
  rw [hn] at hnb
  have g1 := lt_of (xs := xs) (by omega)
  have el := en_len xs n
  have g2 := lt_of (xs := enD xs n) (by omega)
  simp only [hxs, hn]
  cases hb : enB xs n with
  | false =>
    have e0 : enD xs n = [] := by simp only [enD, hb, cond_false]
    simp only [Bool.and_self, Bool.and_true, Bool.true_and, cond_true, cond_false, Bool.not_true, Bool.not_false, bne_self_eq_false, beq_self_eq_true, decide_true, eq_self, g1, e0]
    rfl
  | true =>
    obtain ⟨j, rfl, hbs, hj, hp, ho, he⟩ := enB_inv hb
    obtain ⟨b1, b2, b3, b4, b5, b6, b7⟩ := bsB_inv hbs
    have hpl := plN_length xs j
    obtain ⟨_, hpos⟩ := posB_inv b7
    have e0 : ((((plN xs j).length : Nat) : Int) == 0) = false := by rw [hpl]; exact beq0 (by omega)
    have e00 : (((xs.length : Nat) : Int) == 0) = false := beq0 (by omega)
    rw [he] at g2 el
    obtain ⟨k, hk⟩ : ∃ k, xs.length = k + 1 := ⟨xs.length - 1, by omega⟩
    obtain ⟨p1, p2, p3⟩ := hpos k (by omega)
    have hpk : (plN xs j)[k]? = some ((j % lenN xs k : Nat) : Int) := by rw [getD_get (by omega), plN_last hk]
    have ho8 : operV 8 ((lenN xs k : Nat) : Int) (j : Int) = ((j % lenN xs k : Nat) : Int) := by
      have n1 : numB ((lenN xs k : Nat) : Int) = true := numB_of (by omega)
      have n2 : numB (j : Int) = true := numB_of (by omega)
      have e : operF 8 ((lenN xs k : Nat) : Int) (j : Int) = restV ((lenN xs k : Nat) : Int) (j : Int) := rfl
      simp only [operV, n1, n2, show opOk 8 = true from rfl, Bool.and_self, cond_true, e, restV]
      rw [decide_eq_false (by omega), cond_false, modV_eq (by omega) (by omega) (by omega) (by omega)]
      omega
    simp only [Bool.and_self, Bool.and_true, Bool.true_and, cond_true, cond_false, Bool.not_true, Bool.not_false, bne_self_eq_false, beq_self_eq_true, decide_true, eq_self, g1, g2, he, e0, e00, hpl]
    rw [show IntKind.wrap .i64 (((xs.length : Nat) : Int) - 1) = (k : Int) by rw [hk, wS (by omega) (by omega)]; omega, idx_nat (show k < xs.length by omega)]
    simp only [Option.bind_some, hpk, getD_get (show k < xs.length by omega), p1, ho8, beq_self_eq_true]

namespace spec_DrawBitsOf
noncomputable def E : Entry := ⟨18, true, false, fun | [.d (.ints .u8 bs)] => bytesB bs | _ => false, fun | [.d (.ints .u8 bs)] => ([.one ((.int .i64 (oneV (cutC bs) 0 bitL)), false)], []) | _ => ([], []), fun _ => [], false, fun _ => none⟩
end spec_DrawBitsOf
namespace spec_DrawBitsOf
noncomputable def X : List Entry := [spec_newReader.E, spec_reader_one.E]
noncomputable def I : List Inl := [⟨18, Try.f18, ⟨[], [], [], [], [5], []⟩⟩]
theorem I_ok : ∀ i ∈ I, Try.prog.funcs[i.f]? = some i.fn ∧ (i.fn.name == "runtime.NumGoroutine") = false := by
  intro i hi
  simp only [I, List.mem_cons, List.not_mem_nil, or_false] at hi
  subst hi
  exact ⟨by kernel_rfl, by kernel_rfl⟩
theorem e (fuel : Nat) (p0 : List Int) : runF Try.prog X I 0 fuel 18 Try.f18 [.d (.ints .u8 p0)] =
  (bif rdOk ((cutC p0)) 0 && decide (0 < ((([0, 1, 2, 5, 255, 1000000, 1000001, (-1), 12345] : List Int)) : List Int).length) && decide (((([0, 1, 2, 5, 255, 1000000, 1000001, (-1), 12345] : List Int)) : List Int).length ≤ 1048576) then
  some ([.one ((.int .i64 (oneV ((cutC p0)) 0 (([0, 1, 2, 5, 255, 1000000, 1000001, (-1), 12345] : List Int)))), false)], [])
  else
  none) := by kernel_rfl
end spec_DrawBitsOf
theorem spec_DrawBitsOf.ok_of (hX : ∀ E ∈ spec_DrawBitsOf.X, CallSpec Try.prog E) (h : ∀ (bs : List Int), (bytesB bs) = true → ∃ fuel, runF Try.prog spec_DrawBitsOf.X spec_DrawBitsOf.I 0 fuel 18 Try.f18 [.d (.ints .u8 bs)] = some ([.one ((.int .i64 (oneV (cutC bs) 0 bitL)), false)], [])) : CallSpec Try.prog spec_DrawBitsOf.E :=
  callSpec_of (d := 0) hX (by kernel_rfl) spec_DrawBitsOf.I_ok (by kernel_rfl) (by kernel_rfl) (by kernel_rfl) (fun _ _ _ _ h => by dsimp only [spec_DrawBitsOf.E] at h; cases h) (fun xs hp => by
    dsimp only [spec_DrawBitsOf.E] at hp ⊢
    split at hp
    · exact h _ hp
    · cases hp)
theorem spec_DrawBitsOf.ok : CallSpec Try.prog spec_DrawBitsOf.E := spec_DrawBitsOf.ok_of (by simp [spec_DrawBitsOf.X, spec_newReader.ok, spec_reader_one.ok]) fun bs h => ⟨0, by
  have r0 := cut_ok h (p := 0) (by omega) (by omega)
  rw [spec_DrawBitsOf.e, r0]
  rfl⟩

namespace math_bits_Len64
noncomputable def E : Entry := ⟨63, true, false, fun | [.d (.int .u64 x)] => decide (0 ≤ x) && decide (x ≤ 1000000) | _ => false, fun | [.d (.int .u64 x)] => ([.one ((.int .i64 ((bitN x.toNat : Nat) : Int)), false)], []) | _ => ([], []), fun _ => [], false, fun _ => none⟩
end math_bits_Len64
namespace math_bits_Len64
noncomputable def X : List Entry := []
noncomputable def I : List Inl := [⟨63, Try.f63, ⟨[], [], [], [], [], []⟩⟩]
theorem I_ok : ∀ i ∈ I, Try.prog.funcs[i.f]? = some i.fn ∧ (i.fn.name == "runtime.NumGoroutine") = false := by
  intro i hi
  simp only [I, List.mem_cons, List.not_mem_nil, or_false] at hi
  subst hi
  exact ⟨by kernel_rfl, by kernel_rfl⟩
theorem e (fuel : Nat) (p0 : Int) : runF Try.prog X I 0 fuel 63 Try.f63 [.d (.int .u64 p0)] =
  (bif (decide ((p0 : Int) ≥ 4294967296)) then
  (bif (decide (((Int.fdiv p0 (2 ^ min (32 : Int).toNat (IntKind.bits .u64))) : Int) ≥ 65536)) then
  (bif (decide (((Int.fdiv (Int.fdiv p0 (2 ^ min (32 : Int).toNat (IntKind.bits .u64))) (2 ^ min (16 : Int).toNat (IntKind.bits .u64))) : Int) ≥ 256)) then
  (if 0 ≤ (IntKind.wrap .u8 (Int.fdiv (Int.fdiv (Int.fdiv p0 (2 ^ min (32 : Int).toNat (IntKind.bits .u64))) (2 ^ min (16 : Int).toNat (IntKind.bits .u64))) (2 ^ min (8 : Int).toNat (IntKind.bits .u64)))) then len8T[((IntKind.wrap .u8 (Int.fdiv (Int.fdiv (Int.fdiv p0 (2 ^ min (32 : Int).toNat (IntKind.bits .u64))) (2 ^ min (16 : Int).toNat (IntKind.bits .u64))) (2 ^ min (8 : Int).toNat (IntKind.bits .u64))))).toNat]? else none).bind fun b1 =>
  some ([.one ((.int .i64 (IntKind.wrap .i64 ((IntKind.wrap .i64 ((IntKind.wrap .i64 (32 + 16)) + 8)) + (IntKind.wrap .i64 (b1.toNat : Int))))), false)], [])
  else
  (if 0 ≤ (IntKind.wrap .u8 (Int.fdiv (Int.fdiv p0 (2 ^ min (32 : Int).toNat (IntKind.bits .u64))) (2 ^ min (16 : Int).toNat (IntKind.bits .u64)))) then len8T[((IntKind.wrap .u8 (Int.fdiv (Int.fdiv p0 (2 ^ min (32 : Int).toNat (IntKind.bits .u64))) (2 ^ min (16 : Int).toNat (IntKind.bits .u64))))).toNat]? else none).bind fun b2 =>
  some ([.one ((.int .i64 (IntKind.wrap .i64 ((IntKind.wrap .i64 (32 + 16)) + (IntKind.wrap .i64 (b2.toNat : Int))))), false)], []))
  else
  (bif (decide (((Int.fdiv p0 (2 ^ min (32 : Int).toNat (IntKind.bits .u64))) : Int) ≥ 256)) then
  (if 0 ≤ (IntKind.wrap .u8 (Int.fdiv (Int.fdiv p0 (2 ^ min (32 : Int).toNat (IntKind.bits .u64))) (2 ^ min (8 : Int).toNat (IntKind.bits .u64)))) then len8T[((IntKind.wrap .u8 (Int.fdiv (Int.fdiv p0 (2 ^ min (32 : Int).toNat (IntKind.bits .u64))) (2 ^ min (8 : Int).toNat (IntKind.bits .u64))))).toNat]? else none).bind fun b3 =>
  some ([.one ((.int .i64 (IntKind.wrap .i64 ((IntKind.wrap .i64 (32 + 8)) + (IntKind.wrap .i64 (b3.toNat : Int))))), false)], [])
  else
  (if 0 ≤ (IntKind.wrap .u8 (Int.fdiv p0 (2 ^ min (32 : Int).toNat (IntKind.bits .u64)))) then len8T[((IntKind.wrap .u8 (Int.fdiv p0 (2 ^ min (32 : Int).toNat (IntKind.bits .u64))))).toNat]? else none).bind fun b4 =>
  some ([.one ((.int .i64 (IntKind.wrap .i64 (32 + (IntKind.wrap .i64 (b4.toNat : Int))))), false)], [])))
  else
  (bif (decide ((p0 : Int) ≥ 65536)) then
  (bif (decide (((Int.fdiv p0 (2 ^ min (16 : Int).toNat (IntKind.bits .u64))) : Int) ≥ 256)) then
  (if 0 ≤ (IntKind.wrap .u8 (Int.fdiv (Int.fdiv p0 (2 ^ min (16 : Int).toNat (IntKind.bits .u64))) (2 ^ min (8 : Int).toNat (IntKind.bits .u64)))) then len8T[((IntKind.wrap .u8 (Int.fdiv (Int.fdiv p0 (2 ^ min (16 : Int).toNat (IntKind.bits .u64))) (2 ^ min (8 : Int).toNat (IntKind.bits .u64))))).toNat]? else none).bind fun b5 =>
  some ([.one ((.int .i64 (IntKind.wrap .i64 ((IntKind.wrap .i64 ((IntKind.wrap .i64 (0 + 16)) + 8)) + (IntKind.wrap .i64 (b5.toNat : Int))))), false)], [])
  else
  (if 0 ≤ (IntKind.wrap .u8 (Int.fdiv p0 (2 ^ min (16 : Int).toNat (IntKind.bits .u64)))) then len8T[((IntKind.wrap .u8 (Int.fdiv p0 (2 ^ min (16 : Int).toNat (IntKind.bits .u64))))).toNat]? else none).bind fun b6 =>
  some ([.one ((.int .i64 (IntKind.wrap .i64 ((IntKind.wrap .i64 (0 + 16)) + (IntKind.wrap .i64 (b6.toNat : Int))))), false)], []))
  else
  (bif (decide ((p0 : Int) ≥ 256)) then
  (if 0 ≤ (IntKind.wrap .u8 (Int.fdiv p0 (2 ^ min (8 : Int).toNat (IntKind.bits .u64)))) then len8T[((IntKind.wrap .u8 (Int.fdiv p0 (2 ^ min (8 : Int).toNat (IntKind.bits .u64))))).toNat]? else none).bind fun b7 =>
  some ([.one ((.int .i64 (IntKind.wrap .i64 ((IntKind.wrap .i64 (0 + 8)) + (IntKind.wrap .i64 (b7.toNat : Int))))), false)], [])
  else
  (if 0 ≤ (IntKind.wrap .u8 p0) then len8T[((IntKind.wrap .u8 p0)).toNat]? else none).bind fun b8 =>
  some ([.one ((.int .i64 (IntKind.wrap .i64 (0 + (IntKind.wrap .i64 (b8.toNat : Int))))), false)], [])))) := by kernel_rfl
end math_bits_Len64
theorem math_bits_Len64.ok_of (hX : ∀ E ∈ math_bits_Len64.X, CallSpec Try.prog E) (h : ∀ (x : Int), (decide (0 ≤ x) && decide (x ≤ 1000000)) = true → ∃ fuel, runF Try.prog math_bits_Len64.X math_bits_Len64.I 0 fuel 63 Try.f63 [.d (.int .u64 x)] = some ([.one ((.int .i64 ((bitN x.toNat : Nat) : Int)), false)], [])) : CallSpec Try.prog math_bits_Len64.E :=
  callSpec_of (d := 0) hX (by kernel_rfl) math_bits_Len64.I_ok (by kernel_rfl) (by kernel_rfl) (by kernel_rfl) (fun _ _ _ _ h => by dsimp only [math_bits_Len64.E] at h; cases h) (fun xs hp => by
    dsimp only [math_bits_Len64.E] at hp ⊢
    split at hp
    · exact h _ hp
    · cases hp)
theorem len8_idx {i : Nat} (h : i < 256) : ∃ b : UInt8, (if 0 ≤ IntKind.wrap .u8 ((i : Nat) : Int) then len8T[(IntKind.wrap .u8 ((i : Nat) : Int)).toNat]? else none) = some b ∧ b.toNat = bitN i := by
  have e : IntKind.wrap .u8 ((i : Nat) : Int) = ((i : Nat) : Int) := by
    rw [IntKind.wrap_u8]; omega
  obtain ⟨b, h1, h2⟩ := len8_get h
  refine ⟨b, ?_, h2⟩
  rw [e, if_pos (by omega), Int.toNat_natCast, h1]
theorem bitN_le {n : Nat} (h : n ≤ 1000000) : bitN n ≤ 20 := by
  have := log2_le h
  unfold bitN
  split <;> omega
theorem math_bits_Len64.ok : CallSpec Try.prog math_bits_Len64.E := math_bits_Len64.ok_of (by simp [math_bits_Len64.X]) fun x h => ⟨0, by
  simp only [Bool.and_eq_true, decide_eq_true_eq] at h
  obtain ⟨n, rfl⟩ : ∃ n : Nat, x = n := ⟨x.toNat, by omega⟩
  have hn : n ≤ 1000000 := by omega
  have h20 := bitN_le hn
  rw [math_bits_Len64.e, Int.toNat_natCast]
  have e16 : Int.fdiv (n : Int) (2 ^ min (16 : Int).toNat (IntKind.bits .u64)) = ((n / 65536 : Nat) : Int) := fdivN n 65536
  have e8 : Int.fdiv (n : Int) (2 ^ min (8 : Int).toNat (IntKind.bits .u64)) = ((n / 256 : Nat) : Int) := fdivN n 256
  rw [e16, e8, decide_eq_false (p := (n : Int) ≥ 4294967296) (by omega), cond_false]
  by_cases h1 : 65536 ≤ n
  · obtain ⟨b, q1, q2⟩ := len8_idx (i := n / 65536) (by omega)
    have hb : bitN n = bitN (n / 65536) + 16 := by
      rw [bitN_256 (n := n) (by omega), bitN_256 (n := n / 256) (by omega), Nat.div_div_eq_div_mul]
    rw [decide_eq_true (p := (n : Int) ≥ 65536) (by omega), decide_eq_false (p := ((n / 65536 : Nat) : Int) ≥ 256) (by omega), cond_true, cond_false, q1]
    simp only [Option.bind_some]
    rw [q2, hb, wN (by omega), show IntKind.wrap .i64 (0 + 16) = ((16 : Nat) : Int) from rfl, wAdd (by omega), Nat.add_comm]
  · rw [decide_eq_false (p := (n : Int) ≥ 65536) (by omega), cond_false]
    by_cases h2 : 256 ≤ n
    · obtain ⟨b, q1, q2⟩ := len8_idx (i := n / 256) (by omega)
      have hb := bitN_256 h2
      rw [decide_eq_true (p := (n : Int) ≥ 256) (by omega), cond_true, q1]
      simp only [Option.bind_some]
      rw [q2, hb, wN (by omega), show IntKind.wrap .i64 (0 + 8) = ((8 : Nat) : Int) from rfl, wAdd (by omega), Nat.add_comm]
    · obtain ⟨b, q1, q2⟩ := len8_idx (i := n) (by omega)
      rw [decide_eq_false (p := (n : Int) ≥ 256) (by omega), cond_false, q1]
      simp only [Option.bind_some]
      rw [q2, wN (by omega), Int.zero_add, wN (by omega)]⟩

namespace math_bits_Len
noncomputable def E : Entry := ⟨40, true, false, fun | [.d (.int .u64 x)] => decide (0 ≤ x) && decide (x ≤ 1000000) | _ => false, fun | [.d (.int .u64 x)] => ([.one ((.int .i64 ((bitN x.toNat : Nat) : Int)), false)], []) | _ => ([], []), fun _ => [], false, fun _ => none⟩
end math_bits_Len
namespace math_bits_Len
noncomputable def X : List Entry := [math_bits_Len64.E]
noncomputable def I : List Inl := [⟨40, Try.f40, ⟨[], [(1, [1, 2, 3, 4, 5, 6, 7])], [], [], [], []⟩⟩]
theorem I_ok : ∀ i ∈ I, Try.prog.funcs[i.f]? = some i.fn ∧ (i.fn.name == "runtime.NumGoroutine") = false := by
  intro i hi
  simp only [I, List.mem_cons, List.not_mem_nil, or_false] at hi
  subst hi
  exact ⟨by kernel_rfl, by kernel_rfl⟩
theorem e (fuel : Nat) (p0 : Int) : runF Try.prog X I 0 fuel 40 Try.f40 [.d (.int .u64 p0)] =
  (bif decide (0 ≤ p0) && decide (p0 ≤ 1000000) then
  some ([.one ((.int .i64 ((bitN p0.toNat : Nat) : Int)), false)], [])
  else
  none) := by kernel_rfl
end math_bits_Len
theorem math_bits_Len.ok_of (hX : ∀ E ∈ math_bits_Len.X, CallSpec Try.prog E) (h : ∀ (x : Int), (decide (0 ≤ x) && decide (x ≤ 1000000)) = true → ∃ fuel, runF Try.prog math_bits_Len.X math_bits_Len.I 0 fuel 40 Try.f40 [.d (.int .u64 x)] = some ([.one ((.int .i64 ((bitN x.toNat : Nat) : Int)), false)], [])) : CallSpec Try.prog math_bits_Len.E :=
  callSpec_of (d := 0) hX (by kernel_rfl) math_bits_Len.I_ok (by kernel_rfl) (by kernel_rfl) (by kernel_rfl) (fun _ _ _ _ h => by dsimp only [math_bits_Len.E] at h; cases h) (fun xs hp => by
    dsimp only [math_bits_Len.E] at hp ⊢
    split at hp
    · exact h _ hp
    · cases hp)
theorem math_bits_Len.ok : CallSpec Try.prog math_bits_Len.E := math_bits_Len.ok_of (by simp [math_bits_Len.X, math_bits_Len64.ok]) fun x h => ⟨0, by
  rw [math_bits_Len.e, h]
  rfl⟩

namespace math_bits_Mul64
noncomputable def E : Entry := ⟨69, true, false, fun | [.d (.int .u64 x), .d (.int .u64 y)] => decide (0 ≤ x) && decide (x ≤ 60) && decide (0 ≤ y) && decide (y ≤ 60) | _ => false, fun | [.d (.int .u64 x), .d (.int .u64 y)] => ([.one ((.int .u64 0), false), .one ((.int .u64 (x * y)), false)], []) | _ => ([], []), fun _ => [], false, fun _ => none⟩
end math_bits_Mul64
namespace math_bits_Mul64
noncomputable def X : List Entry := []
noncomputable def I : List Inl := [⟨69, Try.f69, ⟨[], [], [], [], [], []⟩⟩]
theorem I_ok : ∀ i ∈ I, Try.prog.funcs[i.f]? = some i.fn ∧ (i.fn.name == "runtime.NumGoroutine") = false := by
  intro i hi
  simp only [I, List.mem_cons, List.not_mem_nil, or_false] at hi
  subst hi
  exact ⟨by kernel_rfl, by kernel_rfl⟩
theorem e (fuel : Nat) (p0 : Int) (p1 : Int) : runF Try.prog X I 0 fuel 69 Try.f69 [.d (.int .u64 p0), .d (.int .u64 p1)] =
  some ([.one ((.int .u64 (IntKind.wrap .u64 ((IntKind.wrap .u64 ((IntKind.wrap .u64 ((Int.fdiv p0 (2 ^ min (32 : Int).toNat (IntKind.bits .u64))) * (Int.fdiv p1 (2 ^ min (32 : Int).toNat (IntKind.bits .u64))))) + (Int.fdiv (IntKind.wrap .u64 ((IntKind.wrap .u64 ((Int.fdiv p0 (2 ^ min (32 : Int).toNat (IntKind.bits .u64))) * (IntKind.wrap .u64 ((BitVec.ofInt (IntKind.bits .u64) p1 &&& BitVec.ofInt (IntKind.bits .u64) 4294967295).toNat : Int)))) + (Int.fdiv (IntKind.wrap .u64 ((IntKind.wrap .u64 ((BitVec.ofInt (IntKind.bits .u64) p0 &&& BitVec.ofInt (IntKind.bits .u64) 4294967295).toNat : Int)) * (IntKind.wrap .u64 ((BitVec.ofInt (IntKind.bits .u64) p1 &&& BitVec.ofInt (IntKind.bits .u64) 4294967295).toNat : Int)))) (2 ^ min (32 : Int).toNat (IntKind.bits .u64))))) (2 ^ min (32 : Int).toNat (IntKind.bits .u64))))) + (Int.fdiv (IntKind.wrap .u64 ((IntKind.wrap .u64 ((BitVec.ofInt (IntKind.bits .u64) (IntKind.wrap .u64 ((IntKind.wrap .u64 ((Int.fdiv p0 (2 ^ min (32 : Int).toNat (IntKind.bits .u64))) * (IntKind.wrap .u64 ((BitVec.ofInt (IntKind.bits .u64) p1 &&& BitVec.ofInt (IntKind.bits .u64) 4294967295).toNat : Int)))) + (Int.fdiv (IntKind.wrap .u64 ((IntKind.wrap .u64 ((BitVec.ofInt (IntKind.bits .u64) p0 &&& BitVec.ofInt (IntKind.bits .u64) 4294967295).toNat : Int)) * (IntKind.wrap .u64 ((BitVec.ofInt (IntKind.bits .u64) p1 &&& BitVec.ofInt (IntKind.bits .u64) 4294967295).toNat : Int)))) (2 ^ min (32 : Int).toNat (IntKind.bits .u64))))) &&& BitVec.ofInt (IntKind.bits .u64) 4294967295).toNat : Int)) + (IntKind.wrap .u64 ((IntKind.wrap .u64 ((BitVec.ofInt (IntKind.bits .u64) p0 &&& BitVec.ofInt (IntKind.bits .u64) 4294967295).toNat : Int)) * (Int.fdiv p1 (2 ^ min (32 : Int).toNat (IntKind.bits .u64))))))) (2 ^ min (32 : Int).toNat (IntKind.bits .u64)))))), false), .one ((.int .u64 (IntKind.wrap .u64 (p0 * p1))), false)], []) := by kernel_rfl
end math_bits_Mul64
theorem math_bits_Mul64.ok_of (hX : ∀ E ∈ math_bits_Mul64.X, CallSpec Try.prog E) (h : ∀ (x : Int) (y : Int), (decide (0 ≤ x) && decide (x ≤ 60) && decide (0 ≤ y) && decide (y ≤ 60)) = true → ∃ fuel, runF Try.prog math_bits_Mul64.X math_bits_Mul64.I 0 fuel 69 Try.f69 [.d (.int .u64 x), .d (.int .u64 y)] = some ([.one ((.int .u64 0), false), .one ((.int .u64 (x * y)), false)], [])) : CallSpec Try.prog math_bits_Mul64.E :=
  callSpec_of (d := 0) hX (by kernel_rfl) math_bits_Mul64.I_ok (by kernel_rfl) (by kernel_rfl) (by kernel_rfl) (fun _ _ _ _ h => by dsimp only [math_bits_Mul64.E] at h; cases h) (fun xs hp => by
    dsimp only [math_bits_Mul64.E] at hp ⊢
    split at hp
    · exact h _ _ hp
    · cases hp)
theorem mul_and_fin : ∀ a : Fin 61, IntKind.wrap .u64 ((BitVec.ofInt (IntKind.bits .u64) ((a.1 : Nat) : Int) &&& BitVec.ofInt (IntKind.bits .u64) 4294967295).toNat : Int) = ((a.1 : Nat) : Int) := by decide +kernel
theorem mul_and {n : Nat} (h : n ≤ 60) : IntKind.wrap .u64 ((BitVec.ofInt (IntKind.bits .u64) (n : Int) &&& BitVec.ofInt (IntKind.bits .u64) 4294967295).toNat : Int) = (n : Int) := mul_and_fin ⟨n, by omega⟩
theorem mul_shr {n : Nat} (h : n < 4294967296) : Int.fdiv (n : Int) (2 ^ min (32 : Int).toNat (IntKind.bits .u64)) = 0 := by
  have : Int.fdiv (n : Int) (2 ^ min (32 : Int).toNat (IntKind.bits .u64)) = ((n / 4294967296 : Nat) : Int) := fdivN n 4294967296
  rw [this]
  have : n / 4294967296 = 0 := Nat.div_eq_of_lt h
  omega
theorem math_bits_Mul64.ok : CallSpec Try.prog math_bits_Mul64.E := math_bits_Mul64.ok_of (by simp [math_bits_Mul64.X]) fun x y h => ⟨0, by
  simp only [Bool.and_eq_true, decide_eq_true_eq] at h
  obtain ⟨a, rfl⟩ : ∃ n : Nat, x = n := ⟨x.toNat, by omega⟩
  obtain ⟨b, rfl⟩ : ∃ n : Nat, y = n := ⟨y.toNat, by omega⟩
  have ha : a ≤ 60 := by omega
  have hb : b ≤ 60 := by omega
  have hab : a * b ≤ 60 * 60 := Nat.mul_le_mul ha hb
  have e : ((a : Int) * (b : Int)) = ((a * b : Nat) : Int) := by rw [Int.natCast_mul]
  have z0 : IntKind.wrap .u64 0 = 0 := rfl
  have z1 : Int.fdiv 0 (2 ^ min (32 : Int).toNat (IntKind.bits .u64)) = 0 := mul_shr (n := 0) (by omega)
  have z2 : IntKind.wrap .u64 ((BitVec.ofInt (IntKind.bits .u64) 0 &&& BitVec.ofInt (IntKind.bits .u64) 4294967295).toNat : Int) = 0 := mul_and (n := 0) (by omega)
  rw [math_bits_Mul64.e, mul_and ha, mul_and hb, mul_shr (n := a) (by omega), mul_shr (n := b) (by omega), e, wU0 (by omega), mul_shr (n := a * b) (by omega)]
  simp only [Int.zero_mul, Int.mul_zero, Int.add_zero, z0, z1, z2]⟩

namespace math_bits_Mul
noncomputable def E : Entry := ⟨64, true, false, fun | [.d (.int .u64 x), .d (.int .u64 y)] => decide (0 ≤ x) && decide (x ≤ 60) && decide (0 ≤ y) && decide (y ≤ 60) | _ => false, fun | [.d (.int .u64 x), .d (.int .u64 y)] => ([.one ((.int .u64 0), false), .one ((.int .u64 (x * y)), false)], []) | _ => ([], []), fun _ => [], false, fun _ => none⟩
end math_bits_Mul
namespace math_bits_Mul
noncomputable def X : List Entry := [math_bits_Mul64.E]
noncomputable def I : List Inl := [⟨64, Try.f64, ⟨[], [(1, [2, 3, 4, 5, 6, 7, 8, 9, 10, 11, 12, 13, 14, 15, 16, 17, 18, 19, 20, 21, 22, 23, 24, 25, 26, 27, 28, 29])], [], [], [], []⟩⟩]
theorem I_ok : ∀ i ∈ I, Try.prog.funcs[i.f]? = some i.fn ∧ (i.fn.name == "runtime.NumGoroutine") = false := by
  intro i hi
  simp only [I, List.mem_cons, List.not_mem_nil, or_false] at hi
  subst hi
  exact ⟨by kernel_rfl, by kernel_rfl⟩
theorem e (fuel : Nat) (p0 : Int) (p1 : Int) : runF Try.prog X I 0 fuel 64 Try.f64 [.d (.int .u64 p0), .d (.int .u64 p1)] =
  (bif decide (0 ≤ p0) && decide (p0 ≤ 60) && decide (0 ≤ p1) && decide (p1 ≤ 60) then
  some ([.one ((.int .u64 0), false), .one ((.int .u64 (p0 * p1)), false)], [])
  else
  none) := by kernel_rfl
end math_bits_Mul
theorem math_bits_Mul.ok_of (hX : ∀ E ∈ math_bits_Mul.X, CallSpec Try.prog E) (h : ∀ (x : Int) (y : Int), (decide (0 ≤ x) && decide (x ≤ 60) && decide (0 ≤ y) && decide (y ≤ 60)) = true → ∃ fuel, runF Try.prog math_bits_Mul.X math_bits_Mul.I 0 fuel 64 Try.f64 [.d (.int .u64 x), .d (.int .u64 y)] = some ([.one ((.int .u64 0), false), .one ((.int .u64 (x * y)), false)], [])) : CallSpec Try.prog math_bits_Mul.E :=
  callSpec_of (d := 0) hX (by kernel_rfl) math_bits_Mul.I_ok (by kernel_rfl) (by kernel_rfl) (by kernel_rfl) (fun _ _ _ _ h => by dsimp only [math_bits_Mul.E] at h; cases h) (fun xs hp => by
    dsimp only [math_bits_Mul.E] at hp ⊢
    split at hp
    · exact h _ _ hp
    · cases hp)
theorem math_bits_Mul.ok : CallSpec Try.prog math_bits_Mul.E := math_bits_Mul.ok_of (by simp [math_bits_Mul.X, math_bits_Mul64.ok]) fun x y h => ⟨0, by
  rw [math_bits_Mul.e, h]
  rfl⟩

namespace slices_Repeat_int_int
noncomputable def E : Entry := ⟨41, false, false, fun | [.d (.ints .i64 xs), .d (.int .i64 n)] => decide ((xs : List Int).length = 1) && decide (0 ≤ n) && decide (n ≤ 60) | _ => false, fun | [.d (.ints .i64 xs), .d (.int .i64 n)] => ([.one ((.ints .i64 (List.replicate n.toNat (xs.getD 0 0))), true)], []) | _ => ([], []), fun _ => [], true, fun _ => none⟩
end slices_Repeat_int_int
namespace slices_Repeat_int_int
noncomputable def X : List Entry := [math_bits_Mul.E]
noncomputable def I : List Inl := [⟨41, Try.f41, ⟨[], [(1000008, [0, 1, 2, 3, 4, 5, 6, 9, 10, 11, 12, 13, 14, 15, 16, 17, 18, 19, 20, 21, 22, 23, 24, 25, 26, 27, 28, 29, 30, 31, 32, 33, 34, 35, 36, 37, 38, 39, 40, 41, 42, 43, 44, 45, 46, 47])], [], [(9, [0, 1, 2, 4, 5, 3, 6, 7, 8, 9])], [], []⟩⟩]
theorem I_ok : ∀ i ∈ I, Try.prog.funcs[i.f]? = some i.fn ∧ (i.fn.name == "runtime.NumGoroutine") = false := by
  intro i hi
  simp only [I, List.mem_cons, List.not_mem_nil, or_false] at hi
  subst hi
  exact ⟨by kernel_rfl, by kernel_rfl⟩
noncomputable abbrev L0 (fuel n : Nat) (s : St) (k : Kont) := lAt Try.prog X I fuel true 0 false 41 (bodyOf Try.f41) [1, 1, 1, 1, 1, 1, 0, 0] n s k
noncomputable abbrev k0  (fuel : Nat) : Kont := (kAt Try.prog X I fuel true 0 false 41 (bodyOf Try.f41) [1, 1, 1, 1, 1, 1, 0, 0] [] (endK Try.prog Try.f41))
noncomputable def t0 (x0q0 : Int) (x0q1 : List Int) : St := ⟨[.dead, .dead, .dead, .dead, .dead, .dead, .dead, (.all 1000000000 1), (.imm (.int .i64 x0q0)), .dead, .dead, .dead, .dead, .dead, .dead, .dead, .dead, .dead, .dead, .dead, .dead, .dead, .dead, .dead, .dead, .dead, .dead, .dead, .dead, .dead, .dead, .dead, .dead, .dead, .dead, .dead, .dead, .dead, .dead, .dead, .dead, .dead, .dead, .dead, .dead, .dead, .dead, .dead], hOf [(1000000000, (.ints .i64 x0q1))], [], []⟩
theorem e (fuel : Nat) (p0 : List Int) (p1 : Int) : runF Try.prog X I 0 fuel 41 Try.f41 [.d (.ints .i64 p0), .d (.int .i64 p1)] =
  (bif (decide ((p1 : Int) < 0)) then
  none
  else
  (bif decide (0 ≤ ((IntKind.wrap .u64 ((p0.length : Nat) : Int)))) && decide (((IntKind.wrap .u64 ((p0.length : Nat) : Int))) ≤ 60) && decide (0 ≤ ((IntKind.wrap .u64 p1))) && decide (((IntKind.wrap .u64 p1)) ≤ 60) then
  (bif (decide ((0 : Int) > 0)) then
  none
  else
  (bif (decide (((((IntKind.wrap .u64 ((p0.length : Nat) : Int))) * ((IntKind.wrap .u64 p1))) : Int) > 9223372036854775807)) then
  none
  else
  (bif decide (0 ≤ ((IntKind.wrap .i64 (((IntKind.wrap .u64 ((p0.length : Nat) : Int))) * ((IntKind.wrap .u64 p1)))) : Int)) && decide (((IntKind.wrap .i64 (((IntKind.wrap .u64 ((p0.length : Nat) : Int))) * ((IntKind.wrap .u64 p1)))) : Int) ≤ (IntKind.wrap .i64 (((IntKind.wrap .u64 ((p0.length : Nat) : Int))) * ((IntKind.wrap .u64 p1))))) && decide (((IntKind.wrap .i64 (((IntKind.wrap .u64 ((p0.length : Nat) : Int))) * ((IntKind.wrap .u64 p1)))) : Int) ≤ 1152921504606846976) && decide (((8 : Nat) : Int) * (IntKind.wrap .i64 (((IntKind.wrap .u64 ((p0.length : Nat) : Int))) * ((IntKind.wrap .u64 p1)))) ≤ 281474976710656) then
  L0 fuel fuel (t0 (((min p0.length (List.replicate ((IntKind.wrap .i64 (((IntKind.wrap .u64 ((p0.length : Nat) : Int))) * ((IntKind.wrap .u64 p1))))).toNat (0 : Int)).length : Nat) : Int)) ((copyL (List.replicate ((IntKind.wrap .i64 (((IntKind.wrap .u64 ((p0.length : Nat) : Int))) * ((IntKind.wrap .u64 p1))))).toNat (0 : Int)) 0 (List.replicate ((IntKind.wrap .i64 (((IntKind.wrap .u64 ((p0.length : Nat) : Int))) * ((IntKind.wrap .u64 p1))))).toNat (0 : Int)).length p0))) (k0  fuel)
  else
  none)))
  else
  none)) := by kernel_rfl
theorem s0 (fuel n0 : Nat) (x0q0 : Int) (x0q1 : List Int) : L0 fuel (n0 + 1) (t0 x0q0 x0q1) (k0  fuel) =
  (bif (decide ((x0q0 : Int) < ((x0q1.length : Nat) : Int))) then
  (cutEnds x0q1.length (some (.imm (.int .i64 x0q0))) (none)).bind fun cq5 =>
  (cutEnds x0q1.length (none) (some (.imm (.int .i64 x0q0)))).bind fun cq6 =>
  (bif decide (cq6.1 + (cq6.2 - cq6.1) ≤ x0q1.length) then
  (bif decide (cq5.1 + (cq5.2 - cq5.1) ≤ x0q1.length) then
  L0 fuel n0 (t0 ((IntKind.wrap .i64 (x0q0 + ((min ((x0q1.drop cq6.1).take ((cq6.2 - cq6.1))).length ((cq5.2 - cq5.1)) : Nat) : Int)))) ((copyL x0q1 cq5.1 ((cq5.2 - cq5.1)) ((x0q1.drop cq6.1).take ((cq6.2 - cq6.1)))))) (k0  fuel)
  else
  none)
  else
  none)
  else
  some ([.one ((.ints .i64 x0q1), true)], [])) := by kernel_rfl
end slices_Repeat_int_int
theorem slices_Repeat_int_int.ok_of (hX : ∀ E ∈ slices_Repeat_int_int.X, CallSpec Try.prog E) (h : ∀ (xs : List Int) (n : Int), (decide ((xs : List Int).length = 1) && decide (0 ≤ n) && decide (n ≤ 60)) = true → ∃ fuel, runF Try.prog slices_Repeat_int_int.X slices_Repeat_int_int.I 0 fuel 41 Try.f41 [.d (.ints .i64 xs), .d (.int .i64 n)] = some ([.one ((.ints .i64 (List.replicate n.toNat (xs.getD 0 0))), true)], [])) : CallSpec Try.prog slices_Repeat_int_int.E :=
  callSpec_of (d := 0) hX (by kernel_rfl) slices_Repeat_int_int.I_ok (by kernel_rfl) (by kernel_rfl) (by kernel_rfl) (fun _ _ _ _ h => by dsimp only [slices_Repeat_int_int.E] at h; cases h) (fun xs hp => by
    dsimp only [slices_Repeat_int_int.E] at hp ⊢
    split at hp
    · exact h _ _ hp
    · cases hp)
theorem rep_step {N m : Nat} {v : Int} (h1 : m ≤ N) : copyL (List.replicate m v ++ List.replicate (N - m) 0) m (N - m) (List.replicate m v) = List.replicate (m + min m (N - m)) v ++ List.replicate (N - (m + min m (N - m))) 0 := by
  have e1 : min (List.replicate m v).length (N - m) = min m (N - m) := by simp
  unfold copyL spl
  rw [e1, List.take_left' (by simp), List.take_replicate, List.length_replicate, Nat.min_eq_left (Nat.min_le_left _ _), List.replicate_append_replicate]
  congr 1
  rw [List.drop_append, List.drop_eq_nil_of_le (by simp), List.nil_append, List.length_replicate, List.drop_replicate]
  congr 1
  omega
theorem slices_Repeat_int_int.loop (fuel N : Nat) (v : Int) (hN : N ≤ 60) : ∀ (f m : Nat), 1 ≤ m → m ≤ N → N - m < f →
    slices_Repeat_int_int.L0 fuel f (slices_Repeat_int_int.t0 (m : Int) (List.replicate m v ++ List.replicate (N - m) 0)) (slices_Repeat_int_int.k0 fuel) = some ([.one ((.ints .i64 (List.replicate N v)), true)], []) := by
  intro f
  induction f with
  | zero => intro m _ _ h; omega
  | succ f ih =>
    intro m h1 h2 h3
    have hl : (List.replicate m v ++ List.replicate (N - m) 0).length = N := by simp; omega
    rw [slices_Repeat_int_int.s0, hl]
    by_cases hm : m < N
    · have et : ((List.replicate m v ++ List.replicate (N - m) 0).drop 0).take (m - 0) = List.replicate m v := by
        rw [List.drop_zero, Nat.sub_zero, List.take_left' (by simp)]
      rw [dlt hm, cond_true, cut_lo (by omega), cut_hi (by omega)]
      simp only [Option.bind_some]
      rw [decide_eq_true (p := 0 + (m - 0) ≤ N) (by omega), decide_eq_true (p := m + (N - m) ≤ N) (by omega), cond_true, cond_true, et, rep_step (by omega), List.length_replicate, wAdd (by omega)]
      exact ih (m + min m (N - m)) (by omega) (by omega) (by omega)
    · obtain rfl : m = N := by omega
      rw [dge hm, cond_false, Nat.sub_self]
      simp
theorem slices_Repeat_int_int.ok : CallSpec Try.prog slices_Repeat_int_int.E := slices_Repeat_int_int.ok_of (by simp [slices_Repeat_int_int.X, math_bits_Mul.ok]) fun xs n h => by
  obtain ⟨F, hF⟩ : ∃ F : Nat, 100 < F := ⟨101, by omega⟩
  refine ⟨F, ?_⟩
  simp only [Bool.and_eq_true, decide_eq_true_eq] at h
  obtain ⟨N, rfl⟩ : ∃ N : Nat, n = N := ⟨n.toNat, by omega⟩
  obtain ⟨v, rfl⟩ : ∃ v, xs = [v] := by
    match xs, h.1.1 with
    | [v], _ => exact ⟨v, rfl⟩
  have hN : N ≤ 60 := by omega
  have eN : IntKind.wrap .u64 ((N : Nat) : Int) = ((N : Nat) : Int) := wU0 (by omega)
  have e1 : IntKind.wrap .u64 (((([v] : List Int).length : Nat) : Int)) = 1 := rfl
  rw [slices_Repeat_int_int.e, e1, eN, Int.one_mul, wN (by omega), mkOk (by omega) (by omega), decide_eq_false (p := (N : Int) < 0) (by omega), decide_eq_true (p := (0 : Int) ≤ ((N : Nat) : Int)) (by omega), decide_eq_true (p := ((N : Nat) : Int) ≤ 60) (by omega), decide_eq_false (p := ((N : Nat) : Int) > 9223372036854775807) (by omega), Int.toNat_natCast, List.length_replicate]
  show slices_Repeat_int_int.L0 F F (slices_Repeat_int_int.t0 _ _) (slices_Repeat_int_int.k0 F) = _
  by_cases h0 : N = 0
  · subst h0
    obtain ⟨f, rfl⟩ : ∃ f, F = f + 1 := ⟨F - 1, by omega⟩
    rw [slices_Repeat_int_int.s0]
    rfl
  · have e2 : copyL (List.replicate N (0 : Int)) 0 N [v] = List.replicate 1 v ++ List.replicate (N - 1) 0 := by
      obtain ⟨M, rfl⟩ : ∃ M, N = M + 1 := ⟨N - 1, by omega⟩
      unfold copyL spl
      rw [show min ([v] : List Int).length (M + 1) = 1 by simp]
      simp
    have e3 : min ([v] : List Int).length N = 1 := by simp; omega
    rw [e2, e3]
    exact slices_Repeat_int_int.loop F N v hN F 1 (by omega) (by omega) (by omega)

namespace impl_layoutOf
noncomputable def E : Entry := ⟨43, false, false, fun | [.d (.ints .i64 sh)] => decide (sh.length < 9223372036854775808) | _ => false, fun | [.d (.ints .i64 sh)] => ([.agg [((.ints .i64 nilI), true), ((.int .i64 0), false), ((.int .i64 0), false), ((.int .i64 0), false), ((.int .i64 0), false)], .one ((.bool false), false)], []) | _ => ([], []), fun | [.d (.ints .i64 sh)] => [(validS sh, ([.agg [((.ints .i64 sh), false), ((.int .i64 (strd sh 0)), false), ((.int .i64 (strd sh 1)), false), ((.int .i64 (strd sh 2)), false), ((.int .i64 (volW sh)), false)], .one ((.bool true), false)], []))] | _ => [], true, fun _ => none⟩
end impl_layoutOf
namespace impl_layoutOf
noncomputable def X : List Entry := []
noncomputable def I : List Inl := [⟨43, Try.f43, ⟨[], [(1000005, [1, 3, 6, 7, 8, 9, 10, 11, 12, 13, 14, 15, 16, 17, 18, 19, 20, 21, 22, 23, 24, 25, 26, 27, 28, 29, 30, 31, 32, 33, 34, 35, 36, 37, 38, 39, 40, 41, 42, 43, 44, 45, 46, 47, 48, 49])], [], [(10, [0, 2, 3, 1, 4, 5, 6, 7, 8])], [], []⟩⟩]
theorem I_ok : ∀ i ∈ I, Try.prog.funcs[i.f]? = some i.fn ∧ (i.fn.name == "runtime.NumGoroutine") = false := by
  intro i hi
  simp only [I, List.mem_cons, List.not_mem_nil, or_false] at hi
  subst hi
  exact ⟨by kernel_rfl, by kernel_rfl⟩
noncomputable abbrev L0 (fuel n : Nat) (s : St) (k : Kont) := lAt Try.prog X I fuel true 0 false 43 (bodyOf Try.f43) [1, 1, 1, 0, 1, 0] n s k
noncomputable abbrev k0  (fuel : Nat) : Kont := (kAt Try.prog X I fuel true 0 false 43 (bodyOf Try.f43) [1, 1, 1, 0, 1, 0] [] (endK Try.prog Try.f43))
noncomputable def t0 (p0 : List Int) (x0q1 : Int) (x0q7 : Int) (x0q8 : Int) (x0q9 : Int) (x0q10 : Int) : St := ⟨[(.imm (.ints .i64 p0)), .dead, (.ptr 1000000000 0 0), .dead, (.ptr 1000000001 0 0), (.imm (.int .i64 x0q1)), .dead, .dead, .dead, .dead, .dead, .dead, .dead, .dead, .dead, .dead, .dead, .dead, .dead, .dead, .dead, .dead, .dead, .dead, .dead, .dead, .dead, .dead, .dead, .dead, .dead, .dead, .dead, .dead, .dead, .dead, .dead, .dead, .dead, .dead, .dead, .dead, .dead, .dead, .dead, .dead, .dead, .dead, .dead, .dead], hOf [(1000000000, (.box [(.imm .nils), (.imm (.int .i64 0)), (.imm (.int .i64 0)), (.imm (.int .i64 0)), (.imm (.int .i64 0))])), (1000000001, (.box [(.imm (.ints .i64 p0)), (.imm (.int .i64 x0q7)), (.imm (.int .i64 x0q8)), (.imm (.int .i64 x0q9)), (.imm (.int .i64 x0q10))]))], [], []⟩
theorem e (fuel : Nat) (p0 : List Int) : runF Try.prog X I 0 fuel 43 Try.f43 [.d (.ints .i64 p0)] =
  (bif (decide ((((p0.length : Nat) : Int) : Int) > 3)) then
  some ([.agg [((.ints .i64 []), true), ((.int .i64 0), false), ((.int .i64 0), false), ((.int .i64 0), false), ((.int .i64 0), false)], .one ((.bool false), false)], [])
  else
  L0 fuel fuel (t0 p0 ((IntKind.wrap .i64 (((p0.length : Nat) : Int) - 1))) 0 0 0 1) (k0  fuel)) := by kernel_rfl
theorem s0 (fuel n0 : Nat) (p0 : List Int) (x0q1 : Int) (x0q7 : Int) (x0q8 : Int) (x0q9 : Int) (x0q10 : Int) : L0 fuel (n0 + 1) (t0 p0 x0q1 x0q7 x0q8 x0q9 x0q10) (k0  fuel) =
  (bif (decide ((x0q1 : Int) ≥ 0)) then
  (idx x0q1 p0.length).bind fun j21 =>
  (p0[j21]?).bind fun v22 =>
  (bif (decide ((v22 : Int) < 0)) then
  some ([.agg [((.ints .i64 []), true), ((.int .i64 0), false), ((.int .i64 0), false), ((.int .i64 0), false), ((.int .i64 0), false)], .one ((.bool false), false)], [])
  else
  (idx x0q1 p0.length).bind fun j23 =>
  (p0[j23]?).bind fun v24 =>
  (bif (decide ((v24 : Int) > 60)) then
  some ([.agg [((.ints .i64 []), true), ((.int .i64 0), false), ((.int .i64 0), false), ((.int .i64 0), false), ((.int .i64 0), false)], .one ((.bool false), false)], [])
  else
  (bif decide (x0q1 = ((0 : Nat) : Int)) then
  (idx x0q1 p0.length).bind fun j29 =>
  (p0[j29]?).bind fun v30 =>
  L0 fuel n0 (t0 p0 ((IntKind.wrap .i64 (x0q1 - 1))) x0q10 x0q8 x0q9 ((IntKind.wrap .i64 (x0q10 * v30)))) (k0  fuel)
  else
  (bif decide (x0q1 = ((1 : Nat) : Int)) then
  (idx x0q1 p0.length).bind fun j27 =>
  (p0[j27]?).bind fun v28 =>
  L0 fuel n0 (t0 p0 ((IntKind.wrap .i64 (x0q1 - 1))) x0q7 x0q10 x0q9 ((IntKind.wrap .i64 (x0q10 * v28)))) (k0  fuel)
  else
  (bif decide (x0q1 = ((2 : Nat) : Int)) then
  (idx x0q1 p0.length).bind fun j25 =>
  (p0[j25]?).bind fun v26 =>
  L0 fuel n0 (t0 p0 ((IntKind.wrap .i64 (x0q1 - 1))) x0q7 x0q8 x0q10 ((IntKind.wrap .i64 (x0q10 * v26)))) (k0  fuel)
  else
  none)))))
  else
  (bif (decide ((x0q10 : Int) > 60)) then
  some ([.agg [((.ints .i64 []), true), ((.int .i64 0), false), ((.int .i64 0), false), ((.int .i64 0), false), ((.int .i64 0), false)], .one ((.bool false), false)], [])
  else
  some ([.agg [((.ints .i64 p0), false), ((.int .i64 x0q7), false), ((.int .i64 x0q8), false), ((.int .i64 x0q9), false), ((.int .i64 x0q10), false)], .one ((.bool true), false)], []))) := by kernel_rfl
end impl_layoutOf
theorem impl_layoutOf.ok_of (hX : ∀ E ∈ impl_layoutOf.X, CallSpec Try.prog E) (h : ∀ (sh : List Int), (decide (sh.length < 9223372036854775808)) = true → ∃ fuel, runF Try.prog impl_layoutOf.X impl_layoutOf.I 0 fuel 43 Try.f43 [.d (.ints .i64 sh)] = some (bif validS sh then ([.agg [((.ints .i64 sh), false), ((.int .i64 (strd sh 0)), false), ((.int .i64 (strd sh 1)), false), ((.int .i64 (strd sh 2)), false), ((.int .i64 (volW sh)), false)], .one ((.bool true), false)], []) else ([.agg [((.ints .i64 nilI), true), ((.int .i64 0), false), ((.int .i64 0), false), ((.int .i64 0), false), ((.int .i64 0), false)], .one ((.bool false), false)], []))) : CallSpec Try.prog impl_layoutOf.E :=
  callSpec_of (d := 0) hX (by kernel_rfl) impl_layoutOf.I_ok (by kernel_rfl) (by kernel_rfl) (by kernel_rfl) (fun _ _ _ _ h => by dsimp only [impl_layoutOf.E] at h; cases h) (fun xs hp => by
    dsimp only [impl_layoutOf.E] at hp ⊢
    split at hp
    · exact h _ hp
    · cases hp)
theorem impl_layoutOf.bad (fuel n : Nat) (sh : List Int) (k : Nat) (v : Int) (s0 s1 s2 z : Int) (hk : k < sh.length) (hv : sh[k]? = some v) (h : ¬ (0 ≤ v ∧ v ≤ 60)) :
    impl_layoutOf.L0 fuel (n + 1) (impl_layoutOf.t0 sh (k : Int) s0 s1 s2 z) (impl_layoutOf.k0 fuel) = some ([.agg [(.ints .i64 [], true), (.int .i64 0, false), (.int .i64 0, false), (.int .i64 0, false), (.int .i64 0, false)], .one (.bool false, false)], []) := by
  rw [impl_layoutOf.s0, decide_eq_true (by omega), idx_nat hk]
  simp only [cond_true, Option.bind_some, hv]
  by_cases h0 : v < 0
  · rw [decide_eq_true h0]; rfl
  · rw [decide_eq_false h0, decide_eq_true (by omega)]; rfl
theorem impl_layoutOf.good (fuel n : Nat) (sh : List Int) (k : Nat) (v : Int) (s0 s1 s2 z : Int) (hk : k < sh.length) (hv : sh[k]? = some v) (h : 0 ≤ v ∧ v ≤ 60) (hk3 : k < 3) :
    impl_layoutOf.L0 fuel (n + 1) (impl_layoutOf.t0 sh (k : Int) s0 s1 s2 z) (impl_layoutOf.k0 fuel) =
      impl_layoutOf.L0 fuel n (impl_layoutOf.t0 sh ((k : Int) - 1) (bif k == 0 then z else s0) (bif k == 1 then z else s1) (bif k == 2 then z else s2) (IntKind.wrap .i64 (z * v))) (impl_layoutOf.k0 fuel) := by
  rw [impl_layoutOf.s0, decide_eq_true (by omega), idx_nat hk]
  simp only [cond_true, Option.bind_some, hv]
  rw [decide_eq_false (p := v < 0) (by omega), decide_eq_false (p := v > 60) (by omega), wS (x := (k : Int) - 1) (by omega) (by omega)]
  simp only [cond_false]
  match k, hk3 with
  | 0, _ => rfl
  | 1, _ => rfl
  | 2, _ => rfl
theorem impl_layoutOf.last (fuel n : Nat) (sh : List Int) (i : Int) (s0 s1 s2 z : Int) (hi : i < 0) :
    impl_layoutOf.L0 fuel (n + 1) (impl_layoutOf.t0 sh i s0 s1 s2 z) (impl_layoutOf.k0 fuel) = 
      bif decide (z ≤ 60) then some ([.agg [(.ints .i64 sh, false), (.int .i64 s0, false), (.int .i64 s1, false), (.int .i64 s2, false), (.int .i64 z, false)], .one (.bool true, false)], [])
      else some ([.agg [(.ints .i64 [], true), (.int .i64 0, false), (.int .i64 0, false), (.int .i64 0, false), (.int .i64 0, false)], .one (.bool false, false)], []) := by
  rw [impl_layoutOf.s0, decide_eq_false (by omega)]
  simp only [cond_false]
  by_cases hz : z ≤ 60
  · rw [decide_eq_true hz, decide_eq_false (by omega)]; rfl
  · rw [decide_eq_false hz, decide_eq_true (by omega)]; rfl
theorem rng_dec {v : Int} (h : 0 ≤ v ∧ v ≤ 60) : (decide (0 ≤ v) && decide (v ≤ 60)) = true := by simp [h.1, h.2]
theorem rng_bad {v : Int} (h : ¬ (0 ≤ v ∧ v ≤ 60)) : (decide (0 ≤ v) && decide (v ≤ 60)) = false := by
  cases hb : (decide (0 ≤ v) && decide (v ≤ 60)) with
  | false => rfl
  | true => simp at hb; exact absurd hb h
theorem validS1 (a : Int) : validS [a] = ((decide (0 ≤ a) && decide (a ≤ 60)) && decide (IntKind.wrap .i64 (1 * a) ≤ 60)) := by
  simp only [validS, allB_cons, allB_nil, Bool.and_true, volW, volFrom]; rfl
theorem validS2 (a b : Int) : validS [a, b] = ((decide (0 ≤ a) && decide (a ≤ 60)) && (decide (0 ≤ b) && decide (b ≤ 60)) && decide (IntKind.wrap .i64 (IntKind.wrap .i64 (1 * a) * b) ≤ 60)) := by
  simp only [validS, allB_cons, allB_nil, Bool.and_true, volW, volFrom]; rfl
theorem validS3 (a b c : Int) : validS [a, b, c] = ((decide (0 ≤ a) && decide (a ≤ 60)) && ((decide (0 ≤ b) && decide (b ≤ 60)) && (decide (0 ≤ c) && decide (c ≤ 60))) && decide (IntKind.wrap .i64 (IntKind.wrap .i64 (IntKind.wrap .i64 (1 * a) * b) * c) ≤ 60)) := by
  simp only [validS, allB_cons, allB_nil, Bool.and_true, volW, volFrom]; rfl
theorem impl_layoutOf.ok : CallSpec Try.prog impl_layoutOf.E := impl_layoutOf.ok_of (by simp [impl_layoutOf.X]) fun sh h => by
  refine ⟨5, ?_⟩
  rw [impl_layoutOf.e]
  match sh with
  | [] => rw [show decide (((([] : List Int).length : Nat) : Int) > 3) = false from rfl, cond_false, impl_layoutOf.last _ _ _ _ _ _ _ _ (by decide)]; rfl
  | [a] =>
    rw [show decide (((([a] : List Int).length : Nat) : Int) > 3) = false from rfl, cond_false, show IntKind.wrap .i64 ((([a] : List Int).length : Nat) - 1) = ((0 : Nat) : Int) from rfl, validS1]
    by_cases h1 : 0 ≤ a ∧ a ≤ 60
    · rw [impl_layoutOf.good _ _ _ _ a _ _ _ _ (by simp) rfl h1 (by omega), impl_layoutOf.last _ _ _ _ _ _ _ _ (by decide), rng_dec h1, Int.one_mul, wS (x := a) (by omega) (by omega)]
      simp only [strd, volW, volFrom, Int.one_mul, wS (x := a) (by omega) (by omega)]
      cases decide (a ≤ 60) <;> rfl
    · rw [impl_layoutOf.bad _ _ _ _ a _ _ _ _ (by simp) rfl h1, rng_bad h1]; rfl
  | [a, b] =>
    rw [show decide (((([a, b] : List Int).length : Nat) : Int) > 3) = false from rfl, cond_false, show IntKind.wrap .i64 ((([a, b] : List Int).length : Nat) - 1) = ((1 : Nat) : Int) from rfl, validS2]
    by_cases h1 : 0 ≤ b ∧ b ≤ 60
    case neg => rw [impl_layoutOf.bad _ _ _ _ b _ _ _ _ (by simp) rfl h1, rng_bad h1, Bool.and_false]; rfl
    rw [impl_layoutOf.good _ _ _ _ b _ _ _ _ (by simp) rfl h1 (by omega), show (((1 : Nat) : Int) - 1) = ((0 : Nat) : Int) from rfl]
    by_cases h2 : 0 ≤ a ∧ a ≤ 60
    case neg => rw [impl_layoutOf.bad _ _ _ _ a _ _ _ _ (by simp) rfl h2, rng_bad h2]; rfl
    have hm := mul60 h2.1 h2.2 h1.1 h1.2
    rw [impl_layoutOf.good _ _ _ _ a _ _ _ _ (by simp) rfl h2 (by omega), impl_layoutOf.last _ _ _ _ _ _ _ _ (by decide), rng_dec h1, rng_dec h2, Int.one_mul, Int.one_mul, wS (x := a) (by omega) (by omega), wS (x := b) (by omega) (by omega), Int.mul_comm b a, wS (x := a * b) (by omega) (by omega)]
    simp only [strd, volW, volFrom, Int.one_mul, wS (x := a) (by omega) (by omega), wS (x := b) (by omega) (by omega), wS (x := a * b) (by omega) (by omega), List.drop_succ_cons, List.drop_zero]
    cases decide (a * b ≤ 60) <;> rfl
  | [a, b, c] =>
    rw [show decide (((([a, b, c] : List Int).length : Nat) : Int) > 3) = false from rfl, cond_false, show IntKind.wrap .i64 ((([a, b, c] : List Int).length : Nat) - 1) = ((2 : Nat) : Int) from rfl, validS3]
    by_cases h0 : 0 ≤ c ∧ c ≤ 60
    case neg => rw [impl_layoutOf.bad _ _ _ _ c _ _ _ _ (by simp) rfl h0, rng_bad h0, Bool.and_false, Bool.and_false]; rfl
    rw [impl_layoutOf.good _ _ _ _ c _ _ _ _ (by simp) rfl h0 (by omega), show (((2 : Nat) : Int) - 1) = ((1 : Nat) : Int) from rfl]
    by_cases h1 : 0 ≤ b ∧ b ≤ 60
    case neg => rw [impl_layoutOf.bad _ _ _ _ b _ _ _ _ (by simp) rfl h1, rng_bad h1, Bool.false_and, Bool.and_false]; rfl
    rw [impl_layoutOf.good _ _ _ _ b _ _ _ _ (by simp) rfl h1 (by omega), show (((1 : Nat) : Int) - 1) = ((0 : Nat) : Int) from rfl]
    by_cases h2 : 0 ≤ a ∧ a ≤ 60
    case neg => rw [impl_layoutOf.bad _ _ _ _ a _ _ _ _ (by simp) rfl h2, rng_bad h2]; rfl
    have hm := mul60 h2.1 h2.2 h1.1 h1.2
    have hm1 := mul60 h1.1 h1.2 h0.1 h0.2
    have hm3 := mul3600 hm.1 hm.2 h0.1 h0.2
    have hc : b * c * a = a * b * c := by rw [Int.mul_comm (b * c) a, Int.mul_assoc]
    rw [impl_layoutOf.good _ _ _ _ a _ _ _ _ (by simp) rfl h2 (by omega), impl_layoutOf.last _ _ _ _ _ _ _ _ (by decide), rng_dec h0, rng_dec h1, rng_dec h2, Int.one_mul, Int.one_mul, wS (x := a) (by omega) (by omega), wS (x := c) (by omega) (by omega), Int.mul_comm c b, wS (x := a * b) (by omega) (by omega), wS (x := b * c) (by omega) (by omega), hc, wS (x := a * b * c) (by omega) (by omega)]
    simp only [strd, volW, volFrom, Int.one_mul, wS (x := a) (by omega) (by omega), wS (x := b) (by omega) (by omega), wS (x := c) (by omega) (by omega), wS (x := a * b) (by omega) (by omega), wS (x := b * c) (by omega) (by omega), wS (x := a * b * c) (by omega) (by omega), List.drop_succ_cons, List.drop_zero]
    cases decide (a * b * c ≤ 60) <;> rfl
  | a :: b :: c :: d :: t =>
    have h1 : ((((a :: b :: c :: d :: t).length : Nat) : Int) > 3) := by simp; omega
    have h2 : ¬ ((((a :: b :: c :: d :: t).length : Nat) : Int) ≤ 3) := by omega
    have h3 : validS (a :: b :: c :: d :: t) = false := by unfold validS; rw [decide_eq_false h2]; rfl
    rw [decide_eq_true h1, h3]
    rfl

namespace impl_ValidArray
noncomputable def E : Entry := ⟨22, true, false, fun | [.d (.agg [(.ints .i64 sh), (.ints .i64 da)])] => decide (sh.length < 9223372036854775808) && decide (da.length < 9223372036854775808) | _ => false, fun | [.d (.agg [(.ints .i64 sh), (.ints .i64 da)])] => ([.one ((.bool (validA sh da)), false)], []) | _ => ([], []), fun _ => [], false, fun _ => none⟩
end impl_ValidArray
namespace impl_ValidArray
noncomputable def X : List Entry := [impl_layoutOf.E, impl_isNumber.E]
noncomputable def I : List Inl := [⟨22, Try.f22, ⟨[10], [(1000005, [0, 1, 2, 3, 4, 5, 6, 7, 8, 9, 10, 11, 12, 13, 14, 15, 16, 17, 18, 19, 20, 21, 22, 23, 27, 28, 29, 30, 31, 32, 33])], [], [], [], []⟩⟩]
theorem I_ok : ∀ i ∈ I, Try.prog.funcs[i.f]? = some i.fn ∧ (i.fn.name == "runtime.NumGoroutine") = false := by
  intro i hi
  simp only [I, List.mem_cons, List.not_mem_nil, or_false] at hi
  subst hi
  exact ⟨by kernel_rfl, by kernel_rfl⟩
noncomputable abbrev L0 (fuel n : Nat) (s : St) (k : Kont) := lAt Try.prog X I fuel true 0 false 22 (bodyOf Try.f22) [1, 1, 1, 0, 1, 0] n s k
noncomputable abbrev k0  (fuel : Nat) : Kont := (kAt Try.prog X I fuel true 0 false 22 (bodyOf Try.f22) [1, 1, 1, 0, 1, 0] [] (endK Try.prog Try.f22))
noncomputable def t0 (p0q1 : List Int) (x0q2 : Int) : St := ⟨[.dead, .dead, .dead, .dead, .dead, .dead, .dead, .dead, .dead, .dead, .dead, .dead, .dead, .dead, .dead, .dead, .dead, .dead, .dead, .dead, .dead, .dead, .dead, .dead, (.imm (.ints .i64 p0q1)), (.imm (.int .i64 ((p0q1.length : Nat) : Int))), (.imm (.int .i64 x0q2)), .dead, .dead, .dead, .dead, .dead, .dead, .dead], hOf [], [], []⟩
theorem e (fuel : Nat) (p0q0 : List Int) (p0q1 : List Int) : runF Try.prog X I 0 fuel 22 Try.f22 [.d (.agg [(.ints .i64 p0q0), (.ints .i64 p0q1)])] =
  (bif decide (p0q0.length < 9223372036854775808) then
  (bif validS p0q0 then
  (bif ((((p0q1.length : Nat) : Int) : Int) != (volW p0q0)) then
  some ([.one ((.bool false), false)], [])
  else
  L0 fuel fuel (t0 p0q1 0) (k0  fuel))
  else
  some ([.one ((.bool false), false)], []))
  else
  none) := by kernel_rfl
theorem s0 (fuel n0 : Nat) (p0q1 : List Int) (x0q2 : Int) : L0 fuel (n0 + 1) (t0 p0q1 x0q2) (k0  fuel) =
  (bif (decide ((x0q2 : Int) < ((p0q1.length : Nat) : Int))) then
  (idx x0q2 p0q1.length).bind fun j5 =>
  (p0q1[j5]?).bind fun v6 =>
  (bif (!(numB v6)) then
  some ([.one ((.bool false), false)], [])
  else
  L0 fuel n0 (t0 p0q1 ((IntKind.wrap .i64 (x0q2 + 1)))) (k0  fuel))
  else
  some ([.one ((.bool true), false)], [])) := by kernel_rfl
end impl_ValidArray
theorem impl_ValidArray.ok_of (hX : ∀ E ∈ impl_ValidArray.X, CallSpec Try.prog E) (h : ∀ (sh : List Int) (da : List Int), (decide (sh.length < 9223372036854775808) && decide (da.length < 9223372036854775808)) = true → ∃ fuel, runF Try.prog impl_ValidArray.X impl_ValidArray.I 0 fuel 22 Try.f22 [.d (.agg [(.ints .i64 sh), (.ints .i64 da)])] = some ([.one ((.bool (validA sh da)), false)], [])) : CallSpec Try.prog impl_ValidArray.E :=
  callSpec_of (d := 0) hX (by kernel_rfl) impl_ValidArray.I_ok (by kernel_rfl) (by kernel_rfl) (by kernel_rfl) (fun _ _ _ _ h => by dsimp only [impl_ValidArray.E] at h; cases h) (fun xs hp => by
    dsimp only [impl_ValidArray.E] at hp ⊢
    split at hp
    · exact h _ _ hp
    · cases hp)
theorem impl_ValidArray.loop (fuel : Nat) (xs : List Int) (hx : xs.length < 9223372036854775808) : ∀ (m n j : Nat), xs.length - j = m → m < n → j ≤ xs.length →
    impl_ValidArray.L0 fuel n (impl_ValidArray.t0 xs (j : Int)) (impl_ValidArray.k0 fuel) = some ([.one (.bool (allB (xs.drop j) (-1000000) 1000000), false)], []) := by
  intro m
  induction m with
  | zero =>
    intro n j h1 h2 h3
    obtain ⟨n, rfl⟩ : ∃ n', n = n' + 1 := ⟨n - 1, by omega⟩
    have hj : ¬ j < xs.length := by omega
    rw [impl_ValidArray.s0, dge hj, dropE hj]
    rfl
  | succ m ih =>
    intro n j h1 h2 h3
    obtain ⟨n, rfl⟩ : ∃ n', n = n' + 1 := ⟨n - 1, by omega⟩
    have hj : j < xs.length := by omega
    rw [impl_ValidArray.s0, dlt hj, idx_nat hj, w1 (by omega), dropS hj]
    simp only [cond_true, Option.bind_some, getS hj, allB_cons, numB_eq]
    rw [ih n (j + 1) (by omega) (by omega) (by omega)]
    cases decide (-1000000 ≤ xs[j]) && decide (xs[j] ≤ 1000000) <;> rfl

theorem impl_ValidArray.ok : CallSpec Try.prog impl_ValidArray.E := impl_ValidArray.ok_of (by simp [impl_ValidArray.X, impl_layoutOf.ok, impl_isNumber.ok]) fun sh da h => by
  simp only [Bool.and_eq_true, decide_eq_true_eq] at h
  refine ⟨da.length + 1, ?_⟩
  rw [impl_ValidArray.e, lt_of h.1]
  have := impl_ValidArray.loop (da.length + 1) da h.2 da.length (da.length + 1) 0 (by omega) (by omega) (by omega)
  simp only [cond_true, List.drop_zero] at this ⊢
  rw [show ((0 : Nat) : Int) = 0 from rfl] at this
  rw [this]
  unfold validA
  cases validS sh
  · rfl
  · cases hb : (((da.length : Nat) : Int) == volW sh) with
    | true => simp [bne, hb]
    | false => simp [bne, hb]

namespace impl_copyList
noncomputable def E : Entry := ⟨47, false, false, fun | [.d (.ints .i64 xs)] => szB xs | _ => false, fun | [.d (.ints .i64 xs)] => ([.one ((.ints .i64 xs), true)], []) | _ => ([], []), fun _ => [], true, fun _ => none⟩
end impl_copyList
namespace impl_copyList
noncomputable def X : List Entry := []
noncomputable def I : List Inl := [⟨47, Try.f47, ⟨[], [], [], [], [], []⟩⟩]
theorem I_ok : ∀ i ∈ I, Try.prog.funcs[i.f]? = some i.fn ∧ (i.fn.name == "runtime.NumGoroutine") = false := by
  intro i hi
  simp only [I, List.mem_cons, List.not_mem_nil, or_false] at hi
  subst hi
  exact ⟨by kernel_rfl, by kernel_rfl⟩
theorem e (fuel : Nat) (p0 : List Int) : runF Try.prog X I 0 fuel 47 Try.f47 [.d (.ints .i64 p0)] =
  (bif decide (0 ≤ (((p0.length : Nat) : Int) : Int)) && decide ((((p0.length : Nat) : Int) : Int) ≤ ((p0.length : Nat) : Int)) && decide ((((p0.length : Nat) : Int) : Int) ≤ 1152921504606846976) && decide (((8 : Nat) : Int) * ((p0.length : Nat) : Int) ≤ 281474976710656) then
  some ([.one ((.ints .i64 (copyL (List.replicate (((p0.length : Nat) : Int)).toNat (0 : Int)) 0 (List.replicate (((p0.length : Nat) : Int)).toNat (0 : Int)).length p0)), true)], [])
  else
  none) := by kernel_rfl
end impl_copyList
theorem impl_copyList.ok_of (hX : ∀ E ∈ impl_copyList.X, CallSpec Try.prog E) (h : ∀ (xs : List Int), (szB xs) = true → ∃ fuel, runF Try.prog impl_copyList.X impl_copyList.I 0 fuel 47 Try.f47 [.d (.ints .i64 xs)] = some ([.one ((.ints .i64 xs), true)], [])) : CallSpec Try.prog impl_copyList.E :=
  callSpec_of (d := 0) hX (by kernel_rfl) impl_copyList.I_ok (by kernel_rfl) (by kernel_rfl) (by kernel_rfl) (fun _ _ _ _ h => by dsimp only [impl_copyList.E] at h; cases h) (fun xs hp => by
    dsimp only [impl_copyList.E] at hp ⊢
    split at hp
    · exact h _ hp
    · cases hp)
theorem impl_copyList.ok : CallSpec Try.prog impl_copyList.E := impl_copyList.ok_of (by simp [impl_copyList.X]) fun xs h => ⟨0, by
  have hx := szB_le h
  rw [impl_copyList.e, mkOk (by omega) (by omega)]
  simp only [cond_true, Int.toNat_natCast, copyL_all]⟩

namespace impl_VectorOf
noncomputable def E : Entry := ⟨25, false, false, fun | [.d (.ints .i64 xs)] => szB xs | _ => false, fun | [.d (.ints .i64 xs)] => ([.agg [((.ints .i64 (vecS xs)), true), ((.ints .i64 (vecD xs)), true)]], []) | _ => ([], []), fun _ => [], true, fun _ => none⟩
end impl_VectorOf
namespace impl_VectorOf
noncomputable def X : List Entry := [impl_ValidArray.E, impl_copyList.E]
noncomputable def I : List Inl := [⟨25, Try.f25, ⟨[15], [], [], [], [], []⟩⟩]
theorem I_ok : ∀ i ∈ I, Try.prog.funcs[i.f]? = some i.fn ∧ (i.fn.name == "runtime.NumGoroutine") = false := by
  intro i hi
  simp only [I, List.mem_cons, List.not_mem_nil, or_false] at hi
  subst hi
  exact ⟨by kernel_rfl, by kernel_rfl⟩
theorem e (fuel : Nat) (p0 : List Int) : runF Try.prog X I 0 fuel 25 Try.f25 [.d (.ints .i64 p0)] =
  (bif decide (([((p0.length : Nat) : Int)]).length < 9223372036854775808) && decide (p0.length < 9223372036854775808) then
  (bif (!(validA ([((p0.length : Nat) : Int)]) p0)) then
  some ([.agg [((.ints .i64 []), true), ((.ints .i64 []), true)]], [])
  else
  (bif szB p0 then
  some ([.agg [((.ints .i64 [((p0.length : Nat) : Int)]), true), ((.ints .i64 p0), true)]], [])
  else
  none))
  else
  none) := by kernel_rfl
end impl_VectorOf
theorem impl_VectorOf.ok_of (hX : ∀ E ∈ impl_VectorOf.X, CallSpec Try.prog E) (h : ∀ (xs : List Int), (szB xs) = true → ∃ fuel, runF Try.prog impl_VectorOf.X impl_VectorOf.I 0 fuel 25 Try.f25 [.d (.ints .i64 xs)] = some ([.agg [((.ints .i64 (vecS xs)), true), ((.ints .i64 (vecD xs)), true)]], [])) : CallSpec Try.prog impl_VectorOf.E :=
  callSpec_of (d := 0) hX (by kernel_rfl) impl_VectorOf.I_ok (by kernel_rfl) (by kernel_rfl) (by kernel_rfl) (fun _ _ _ _ h => by dsimp only [impl_VectorOf.E] at h; cases h) (fun xs hp => by
    dsimp only [impl_VectorOf.E] at hp ⊢
    split at hp
    · exact h _ hp
    · cases hp)
theorem validA_vec0 (xs : List Int) (hx : xs.length < 9223372036854775808) : validA [((xs.length : Nat) : Int)] xs = vecOk xs := by
  have e1 := @wS ((xs.length : Nat) : Int) (by omega) (by omega)
  by_cases h1 : xs.length ≤ 60
  · have h2 : ((xs.length : Nat) : Int) ≤ 60 := by omega
    simp [validA, validS, vecOk, allB_cons, allB_nil, volW, volFrom, e1, h1, h2]
  · have h2 : ¬ ((xs.length : Nat) : Int) ≤ 60 := by omega
    simp [validA, validS, vecOk, allB_cons, allB_nil, volW, volFrom, e1, h1, h2]

theorem impl_VectorOf.ok : CallSpec Try.prog impl_VectorOf.E := impl_VectorOf.ok_of (by simp [impl_VectorOf.X, impl_ValidArray.ok, impl_copyList.ok]) fun xs h => ⟨0, by
  rw [impl_VectorOf.e, lt_of (szB_lt h), h, validA_vec0 xs (szB_lt h), lt_of (by simp)]
  unfold vecS vecD
  cases vecOk xs <;> rfl⟩

namespace impl_BitsOf
noncomputable def E : Entry := ⟨19, false, false, fun | [.d (.int .i64 n)] => true | _ => false, fun | [.d (.int .i64 n)] => ([.agg [((.ints .i64 (btS n)), true), ((.ints .i64 (btD n)), true)]], []) | _ => ([], []), fun _ => [], true, fun _ => none⟩
end impl_BitsOf
namespace impl_BitsOf
noncomputable def X : List Entry := [math_bits_Len.E, slices_Repeat_int_int.E, impl_digitsOf.E, impl_VectorOf.E]
noncomputable def I : List Inl := [⟨19, Try.f19, ⟨[17, 19, 20], [], [], [], [15], []⟩⟩]
theorem I_ok : ∀ i ∈ I, Try.prog.funcs[i.f]? = some i.fn ∧ (i.fn.name == "runtime.NumGoroutine") = false := by
  intro i hi
  simp only [I, List.mem_cons, List.not_mem_nil, or_false] at hi
  subst hi
  exact ⟨by kernel_rfl, by kernel_rfl⟩
theorem e (fuel : Nat) (p0 : Int) : runF Try.prog X I 0 fuel 19 Try.f19 [.d (.int .i64 p0)] =
  (bif (decide ((p0 : Int) < 0)) then
  some ([.agg [((.ints .i64 []), true), ((.ints .i64 []), true)]], [])
  else
  (bif (decide ((p0 : Int) > 1000000)) then
  some ([.agg [((.ints .i64 []), true), ((.ints .i64 []), true)]], [])
  else
  (bif decide (0 ≤ ((IntKind.wrap .u64 p0))) && decide (((IntKind.wrap .u64 p0)) ≤ 1000000) then
  (bif decide (((([2] : List Int)) : List Int).length = 1) && decide (0 ≤ ((maxI ((bitN ((IntKind.wrap .u64 p0)).toNat : Nat) : Int) 1))) && decide (((maxI ((bitN ((IntKind.wrap .u64 p0)).toNat : Nat) : Int) 1)) ≤ 60) then
  (bif posB ((List.replicate ((maxI ((bitN ((IntKind.wrap .u64 p0)).toNat : Nat) : Int) 1)).toNat ((([2] : List Int)).getD 0 0))) && decide (0 ≤ p0) && decide (p0 ≤ 1000000) then
  (bif szB ((plN ((List.replicate ((maxI ((bitN ((IntKind.wrap .u64 p0)).toNat : Nat) : Int) 1)).toNat ((([2] : List Int)).getD 0 0))) p0.toNat)) then
  some ([.agg [((.ints .i64 (vecS ((plN ((List.replicate ((maxI ((bitN ((IntKind.wrap .u64 p0)).toNat : Nat) : Int) 1)).toNat ((([2] : List Int)).getD 0 0))) p0.toNat)))), true), ((.ints .i64 (vecD ((plN ((List.replicate ((maxI ((bitN ((IntKind.wrap .u64 p0)).toNat : Nat) : Int) 1)).toNat ((([2] : List Int)).getD 0 0))) p0.toNat)))), true)]], [])
  else
  none)
  else
  none)
  else
  none)
  else
  none))) := by kernel_rfl
end impl_BitsOf
theorem impl_BitsOf.ok_of (hX : ∀ E ∈ impl_BitsOf.X, CallSpec Try.prog E) (h : ∀ (n : Int), (true) = true → ∃ fuel, runF Try.prog impl_BitsOf.X impl_BitsOf.I 0 fuel 19 Try.f19 [.d (.int .i64 n)] = some ([.agg [((.ints .i64 (btS n)), true), ((.ints .i64 (btD n)), true)]], [])) : CallSpec Try.prog impl_BitsOf.E :=
  callSpec_of (d := 0) hX (by kernel_rfl) impl_BitsOf.I_ok (by kernel_rfl) (by kernel_rfl) (by kernel_rfl) (fun _ _ _ _ h => by dsimp only [impl_BitsOf.E] at h; cases h) (fun xs hp => by
    dsimp only [impl_BitsOf.E] at hp ⊢
    split at hp
    · exact h _ hp
    · cases hp)
theorem bits_max (n : Nat) : (maxI ((bitN n : Nat) : Int) 1) = ((Nat.log2 n + 1 : Nat) : Int) := by
  unfold maxI bitN
  by_cases h : n = 0
  · subst h; rfl
  · rw [if_neg h]
    split <;> omega
theorem impl_BitsOf.ok : CallSpec Try.prog impl_BitsOf.E := impl_BitsOf.ok_of (by simp [impl_BitsOf.X, math_bits_Len.ok, slices_Repeat_int_int.ok, impl_digitsOf.ok, impl_VectorOf.ok]) fun n _ => ⟨0, by
  rw [impl_BitsOf.e]
  unfold btS btD btB
  by_cases h0 : 0 ≤ n
  · by_cases h1 : n ≤ 1000000
    · obtain ⟨j, rfl⟩ : ∃ j : Nat, n = j := ⟨n.toNat, by omega⟩
      have hl := log2_le (n := j) (by omega)
      have hb := btL_length j
      have hv : vecOk (btL j) = true := vec_part (by omega) fun x hx => by
        rcases btL_mem hx with rfl | rfl <;> omega
      have hp : posB (List.replicate (Nat.log2 j + 1) (2 : Int)) = true := by
        simp only [posB, Bool.and_eq_true, decide_eq_true_eq, List.length_replicate]
        refine ⟨allB_iff.2 fun v hv => ?_, by omega⟩
        rw [List.eq_of_mem_replicate hv]; omega
      have e2 : ([2] : List Int).getD 0 0 = 2 := rfl
      have e3 : plN (List.replicate (Nat.log2 j + 1) 2) j = btL j := rfl
      have hz : szB (btL j) = true := szB_of (by omega)
      rw [wU0 (by omega), Int.toNat_natCast, bits_max, Int.toNat_natCast, decide_eq_false (p := (j : Int) < 0) (by omega), decide_eq_false (p := (j : Int) > 1000000) (by omega), decide_eq_true h0, decide_eq_true h1, e2, hp, e3, hz, decide_eq_true (p := (0 : Int) ≤ ((Nat.log2 j + 1 : Nat) : Int)) (by omega), decide_eq_true (p := ((Nat.log2 j + 1 : Nat) : Int) ≤ 60) (by omega)]
      simp only [vecS, vecD, hv, hb]
      rfl
    · rw [decide_eq_false (p := n < 0) (by omega), decide_eq_true (p := n > 1000000) (by omega), decide_eq_false h1]
      simp only [Bool.and_false, cond_false, cond_true]
  · rw [decide_eq_true (p := n < 0) (by omega), decide_eq_false h0]
    simp only [Bool.false_and, cond_false, cond_true]⟩

namespace spec_make1
noncomputable def E : Entry := ⟨65, false, false, fun | [.d (.ints .i64 sh), .d (.ints .i64 da)] => szB sh && szB da | _ => false, fun | [.d (.ints .i64 sh), .d (.ints .i64 da)] => ([.agg [((.ints .i64 sh), true), ((.ints .i64 da), true)]], []) | _ => ([], []), fun _ => [], true, fun _ => none⟩
end spec_make1
namespace spec_make1
noncomputable def X : List Entry := [spec_copyInts.E]
noncomputable def I : List Inl := [⟨65, Try.f65, ⟨[6, 8], [], [], [], [], []⟩⟩]
theorem I_ok : ∀ i ∈ I, Try.prog.funcs[i.f]? = some i.fn ∧ (i.fn.name == "runtime.NumGoroutine") = false := by
  intro i hi
  simp only [I, List.mem_cons, List.not_mem_nil, or_false] at hi
  subst hi
  exact ⟨by kernel_rfl, by kernel_rfl⟩
theorem e (fuel : Nat) (p0 : List Int) (p1 : List Int) : runF Try.prog X I 0 fuel 65 Try.f65 [.d (.ints .i64 p0), .d (.ints .i64 p1)] =
  (bif szB p0 then
  (bif szB p1 then
  some ([.agg [((.ints .i64 p0), true), ((.ints .i64 p1), true)]], [])
  else
  none)
  else
  none) := by kernel_rfl
end spec_make1
theorem spec_make1.ok_of (hX : ∀ E ∈ spec_make1.X, CallSpec Try.prog E) (h : ∀ (sh : List Int) (da : List Int), (szB sh && szB da) = true → ∃ fuel, runF Try.prog spec_make1.X spec_make1.I 0 fuel 65 Try.f65 [.d (.ints .i64 sh), .d (.ints .i64 da)] = some ([.agg [((.ints .i64 sh), true), ((.ints .i64 da), true)]], [])) : CallSpec Try.prog spec_make1.E :=
  callSpec_of (d := 0) hX (by kernel_rfl) spec_make1.I_ok (by kernel_rfl) (by kernel_rfl) (by kernel_rfl) (fun _ _ _ _ h => by dsimp only [spec_make1.E] at h; cases h) (fun xs hp => by
    dsimp only [spec_make1.E] at hp ⊢
    split at hp
    · exact h _ _ hp
    · cases hp)
theorem spec_make1.ok : CallSpec Try.prog spec_make1.E := spec_make1.ok_of (by simp [spec_make1.X, spec_copyInts.ok]) fun sh da h => ⟨0, by
  simp only [Bool.and_eq_true] at h
  rw [spec_make1.e, h.1, h.2]
  rfl⟩

namespace spec_vector
noncomputable def E : Entry := ⟨42, false, false, fun | [.d (.ints .i64 xs)] => szB xs | _ => false, fun | [.d (.ints .i64 xs)] => ([.agg [((.ints .i64 [((xs.length : Nat) : Int)]), true), ((.ints .i64 xs), true)]], []) | _ => ([], []), fun _ => [], true, fun _ => none⟩
end spec_vector
namespace spec_vector
noncomputable def X : List Entry := [spec_make1.E]
noncomputable def I : List Inl := [⟨42, Try.f42, ⟨[7], [], [], [], [5], []⟩⟩]
theorem I_ok : ∀ i ∈ I, Try.prog.funcs[i.f]? = some i.fn ∧ (i.fn.name == "runtime.NumGoroutine") = false := by
  intro i hi
  simp only [I, List.mem_cons, List.not_mem_nil, or_false] at hi
  subst hi
  exact ⟨by kernel_rfl, by kernel_rfl⟩
theorem e (fuel : Nat) (p0 : List Int) : runF Try.prog X I 0 fuel 42 Try.f42 [.d (.ints .i64 p0)] =
  (bif szB (([((p0.length : Nat) : Int)] : List Int)) && szB p0 then
  some ([.agg [((.ints .i64 (([((p0.length : Nat) : Int)] : List Int))), true), ((.ints .i64 p0), true)]], [])
  else
  none) := by kernel_rfl
end spec_vector
theorem spec_vector.ok_of (hX : ∀ E ∈ spec_vector.X, CallSpec Try.prog E) (h : ∀ (xs : List Int), (szB xs) = true → ∃ fuel, runF Try.prog spec_vector.X spec_vector.I 0 fuel 42 Try.f42 [.d (.ints .i64 xs)] = some ([.agg [((.ints .i64 [((xs.length : Nat) : Int)]), true), ((.ints .i64 xs), true)]], [])) : CallSpec Try.prog spec_vector.E :=
  callSpec_of (d := 0) hX (by kernel_rfl) spec_vector.I_ok (by kernel_rfl) (by kernel_rfl) (by kernel_rfl) (fun _ _ _ _ h => by dsimp only [spec_vector.E] at h; cases h) (fun xs hp => by
    dsimp only [spec_vector.E] at hp ⊢
    split at hp
    · exact h _ hp
    · cases hp)
theorem spec_vector.ok : CallSpec Try.prog spec_vector.E := spec_vector.ok_of (by simp [spec_vector.X, spec_make1.ok]) fun xs h => ⟨0, by
  rw [spec_vector.e, h, szB_of (by simp)]
  rfl⟩

end Go.Ab
