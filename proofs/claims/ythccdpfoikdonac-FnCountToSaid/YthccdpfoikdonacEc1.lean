import Derived.Test.YthccdpfoikdonacEcp
import Derived.Test.YthccdpfoikdonacProg
import Derived.Test.YthccdpfoikdonacChecked
open Go Go.Ab Go.Proofs
set_option maxRecDepth 100000
set_option linter.unusedVariables false
set_option linter.unusedSimpArgs false
namespace Go.Ab
namespace spec_newReader
noncomputable def E : Entry := ⟨48, false, false, fun | [.d (.ints .u8 bs)] => true | _ => false, fun | [.d (.ints .u8 bs)] => ([.box [((.ints .u8 (cutC bs)), false), ((.int .i64 0), false)]], []) | _ => ([], []), fun _ => [], true, fun _ => none⟩
end spec_newReader
namespace spec_newReader
noncomputable def X : List Entry := []
noncomputable def I : List Inl := [⟨48, Try.f48, ⟨[], [], [], [], [], []⟩⟩]
theorem I_ok : ∀ i ∈ I, Try.prog.funcs[i.f]? = some i.fn ∧ (i.fn.name == "runtime.NumGoroutine") = false := by
  intro i hi
  simp only [I, List.mem_cons, List.not_mem_nil, or_false] at hi
  subst hi
  exact ⟨by kernel_rfl, by kernel_rfl⟩
theorem e (fuel : Nat) (p0 : List Int) : runF Try.prog X I 0 fuel 48 Try.f48 [.d (.ints .u8 p0)] =
  (bif (decide ((((p0.length : Nat) : Int) : Int) > 2000)) then
  (cutEnds p0.length (none) (some (.imm (.int .i64 2000)))).bind fun cq1 =>
  some ([.box [((.ints .u8 ((p0.drop cq1.1).take (cq1.2 - cq1.1))), false), ((.int .i64 0), false)]], [])
  else
  some ([.box [((.ints .u8 p0), false), ((.int .i64 0), false)]], [])) := by kernel_rfl
end spec_newReader
theorem spec_newReader.ok_of (hX : ∀ E ∈ spec_newReader.X, CallSpec Try.prog E) (h : ∀ (bs : List Int), (true) = true → ∃ fuel, runF Try.prog spec_newReader.X spec_newReader.I 0 fuel 48 Try.f48 [.d (.ints .u8 bs)] = some ([.box [((.ints .u8 (cutC bs)), false), ((.int .i64 0), false)]], [])) : CallSpec Try.prog spec_newReader.E :=
  callSpec_of (d := 0) hX (by kernel_rfl) spec_newReader.I_ok (by kernel_rfl) (by kernel_rfl) (by kernel_rfl) (fun _ _ _ _ h => by dsimp only [spec_newReader.E] at h; cases h) (fun xs hp => by
    dsimp only [spec_newReader.E] at hp ⊢
    split at hp
    · exact h _ hp
    · cases hp)
theorem spec_newReader.ok : CallSpec Try.prog spec_newReader.E := spec_newReader.ok_of (by simp [spec_newReader.X]) fun bs _ => ⟨0, by
  rw [spec_newReader.e]
  unfold cutC
  by_cases h : ((bs.length : Nat) : Int) > 2000
  · rw [decide_eq_true h]
    have : cutEnds bs.length none (some (.imm (.int .i64 2000))) = some (0, 2000) := by
      unfold cutEnds
      simp only
      rw [if_pos ⟨by omega, by omega⟩]
      rfl
    rw [this]
    rfl
  · rw [decide_eq_false h]
    rfl⟩

namespace spec_reader_pick
noncomputable def E : Entry := ⟨60, false, false, fun | [.box [(.ints .u8 bs), (.int .i64 p)], .d (.int .i64 n)] => rdOk bs p && decide ((n : Int) ≤ 1048576) | _ => false, fun | [.box [(.ints .u8 bs), (.int .i64 p)], .d (.int .i64 n)] => ([.one ((.int .i64 (pickV bs p n)), false)], [[(.ints .u8 bs), (.int .i64 (p + 1))]]) | _ => ([], []), fun _ => [], false, fun _ => none⟩
end spec_reader_pick
namespace spec_reader_pick
noncomputable def X : List Entry := []
noncomputable def I : List Inl := [⟨60, Try.f60, ⟨[], [], [], [(7, [0, 1, 2, 4, 5, 6, 7, 15, 16, 17, 19, 20, 21, 22, 23, 24, 33, 34, 36, 37, 38, 39, 3, 8, 9, 10, 11, 12, 13, 14, 18, 25, 26, 27, 28, 29, 30, 31, 32, 35, 40, 41, 42, 43, 44, 45])], [], []⟩⟩]
theorem I_ok : ∀ i ∈ I, Try.prog.funcs[i.f]? = some i.fn ∧ (i.fn.name == "runtime.NumGoroutine") = false := by
  intro i hi
  simp only [I, List.mem_cons, List.not_mem_nil, or_false] at hi
  subst hi
  exact ⟨by kernel_rfl, by kernel_rfl⟩
theorem e (fuel : Nat) (p0q0 : List Int) (p0q1 : Int) (p1 : Int) : runF Try.prog X I 0 fuel 60 Try.f60 [.box [(.ints .u8 p0q0), (.int .i64 p0q1)], .d (.int .i64 p1)] =
  (bif (decide ((p1 : Int) < 1)) then
  some ([.one ((.int .i64 0), false)], [[(.ints .u8 p0q0), (.int .i64 (IntKind.wrap .i64 (p0q1 + 1)))]])
  else
  (bif ((((p0q0.length : Nat) : Int) : Int) == 0) then
  some ([.one ((.int .i64 0), false)], [[(.ints .u8 p0q0), (.int .i64 (IntKind.wrap .i64 (p0q1 + 1)))]])
  else
  (bif (decide (((IntKind.wrap .i64 ((IntKind.wrap .i64 (p0q1 + 1)) - 1)) : Int) < ((p0q0.length : Nat) : Int))) then
  (idx (IntKind.wrap .i64 ((IntKind.wrap .i64 (p0q1 + 1)) - 1)) p0q0.length).bind fun j1 =>
  (p0q0[j1]?).bind fun v2 =>
  (bif decide ((p1 : Int) = 0) then
  none
  else
  some ([.one ((.int .i64 (Int.tmod (IntKind.wrap .i64 v2) p1)), false)], [[(.ints .u8 p0q0), (.int .i64 (IntKind.wrap .i64 (p0q1 + 1)))]]))
  else
  (bif decide ((((p0q0.length : Nat) : Int) : Int) = 0) then
  none
  else
  (idx (Int.tmod (IntKind.wrap .i64 ((IntKind.wrap .i64 (p0q1 + 1)) - 1)) ((p0q0.length : Nat) : Int)) p0q0.length).bind fun j3 =>
  (p0q0[j3]?).bind fun v4 =>
  (bif decide ((((p0q0.length : Nat) : Int) : Int) = 0) then
  none
  else
  (idx (Int.tmod (IntKind.wrap .i64 ((IntKind.wrap .i64 ((IntKind.wrap .i64 ((IntKind.wrap .i64 (p0q1 + 1)) - 1)) * 7)) + 3)) ((p0q0.length : Nat) : Int)) p0q0.length).bind fun j5 =>
  (p0q0[j5]?).bind fun v6 =>
  (bif decide ((((p0q0.length : Nat) : Int) : Int) = 0) then
  none
  else
  (bif decide ((p1 : Int) = 0) then
  none
  else
  some ([.one ((.int .i64 (Int.tmod (IntKind.wrap .i64 ((BitVec.ofInt (IntKind.bits .i64) (IntKind.wrap .i64 ((IntKind.wrap .i64 ((IntKind.wrap .i64 ((IntKind.wrap .i64 ((IntKind.wrap .i64 v4) * 131)) + (IntKind.wrap .i64 ((IntKind.wrap .i64 v6) * 1117)))) + (IntKind.wrap .i64 ((IntKind.wrap .i64 ((IntKind.wrap .i64 (p0q1 + 1)) - 1)) * 29)))) + (IntKind.wrap .i64 ((IntKind.wrap .i64 (Int.tdiv (IntKind.wrap .i64 ((IntKind.wrap .i64 (p0q1 + 1)) - 1)) ((p0q0.length : Nat) : Int))) * 53)))) ^^^ BitVec.ofInt (IntKind.bits .i64) (IntKind.wrap .i64 (Int.tdiv (IntKind.wrap .i64 ((IntKind.wrap .i64 ((IntKind.wrap .i64 ((IntKind.wrap .i64 ((IntKind.wrap .i64 v4) * 131)) + (IntKind.wrap .i64 ((IntKind.wrap .i64 v6) * 1117)))) + (IntKind.wrap .i64 ((IntKind.wrap .i64 ((IntKind.wrap .i64 (p0q1 + 1)) - 1)) * 29)))) + (IntKind.wrap .i64 ((IntKind.wrap .i64 (Int.tdiv (IntKind.wrap .i64 ((IntKind.wrap .i64 (p0q1 + 1)) - 1)) ((p0q0.length : Nat) : Int))) * 53)))) 64))).toNat : Int)) p1)), false)], [[(.ints .u8 p0q0), (.int .i64 (IntKind.wrap .i64 (p0q1 + 1)))]])))))))) := by kernel_rfl
end spec_reader_pick
theorem spec_reader_pick.ok_of (hX : ∀ E ∈ spec_reader_pick.X, CallSpec Try.prog E) (h : ∀ (bs : List Int) (p : Int) (n : Int), (rdOk bs p && decide ((n : Int) ≤ 1048576)) = true → ∃ fuel, runF Try.prog spec_reader_pick.X spec_reader_pick.I 0 fuel 60 Try.f60 [.box [(.ints .u8 bs), (.int .i64 p)], .d (.int .i64 n)] = some ([.one ((.int .i64 (pickV bs p n)), false)], [[(.ints .u8 bs), (.int .i64 (p + 1))]])) : CallSpec Try.prog spec_reader_pick.E :=
  callSpec_of (d := 0) hX (by kernel_rfl) spec_reader_pick.I_ok (by kernel_rfl) (by kernel_rfl) (by kernel_rfl) (fun _ _ _ _ h => by dsimp only [spec_reader_pick.E] at h; cases h) (fun xs hp => by
    dsimp only [spec_reader_pick.E] at hp ⊢
    split at hp
    · exact h _ _ _ hp
    · cases hp)
theorem spec_reader_pick.ok : CallSpec Try.prog spec_reader_pick.E := spec_reader_pick.ok_of (by simp [spec_reader_pick.X]) fun bs p n h => ⟨0, by
  simp only [Bool.and_eq_true, decide_eq_true_eq] at h
  obtain ⟨h0, h1, h2, h3⟩ := rdOk_inv h.1
  have hP := @wS (p + 1) (by omega) (by omega)
  have hK := @wS (p + 1 - 1) (by omega) (by omega)
  rw [show p + 1 - 1 = p by omega] at hK
  rw [spec_reader_pick.e]
  simp only [hP, show p + 1 - 1 = p by omega, hK]
  unfold pickV
  by_cases hn : n < 1
  · rw [decide_eq_true hn]; rfl
  rw [decide_eq_false hn, cond_false, cond_false]
  by_cases hL : bs.length = 0
  · rw [show (((bs.length : Nat) : Int) == 0) = true by simp [hL]]; rfl
  rw [beq0 hL, cond_false, cond_false]
  by_cases hp : p < ((bs.length : Nat) : Int)
  · have hlt : p.toNat < bs.length := by omega
    have hi : idx p bs.length = some p.toNat := by unfold idx; rw [if_pos ⟨h0, hp⟩]
    rw [decide_eq_true hp, hi, decide_eq_false (p := n = 0) (by omega)]
    simp [hlt]
  · have t1 := tmod_bd (x := p) (n := ((bs.length : Nat) : Int)) h0 (by omega)
    have e7 := @wS (p * 7) (by omega) (by omega)
    have e8 := @wS (p * 7 + 3) (by omega) (by omega)
    have t2 := tmod_bd (x := p * 7 + 3) (n := ((bs.length : Nat) : Int)) (by omega) (by omega)
    have i1 : idx (Int.tmod p ((bs.length : Nat) : Int)) bs.length = some (Int.tmod p ((bs.length : Nat) : Int)).toNat := by unfold idx; rw [if_pos t1]
    have i2 : idx (Int.tmod (p * 7 + 3) ((bs.length : Nat) : Int)) bs.length = some (Int.tmod (p * 7 + 3) ((bs.length : Nat) : Int)).toNat := by unfold idx; rw [if_pos t2]
    have g1 : (Int.tmod p ((bs.length : Nat) : Int)).toNat < bs.length := by omega
    have g2 : (Int.tmod (p * 7 + 3) ((bs.length : Nat) : Int)).toNat < bs.length := by omega
    have q1 : bs[(Int.tmod p ((bs.length : Nat) : Int)).toNat]? = some (bs.getD (Int.tmod p ((bs.length : Nat) : Int)).toNat 0) := by simp [g1]
    have q2 : bs[(Int.tmod (p * 7 + 3) ((bs.length : Nat) : Int)).toNat]? = some (bs.getD (Int.tmod (p * 7 + 3) ((bs.length : Nat) : Int)).toNat 0) := by simp [g2]
    rw [decide_eq_false hp, decide_eq_false (p := (((bs.length : Nat) : Int) = 0)) (by omega), decide_eq_false (p := n = 0) (by omega), e7, e8, i1, i2]
    simp only [cond_false, Option.bind_some, q1, q2]
    rfl⟩

namespace spec_reader_one
noncomputable def E : Entry := ⟨53, false, false, fun | [.box [(.ints .u8 bs), (.int .i64 p)], .d (.ints .i64 xs)] => rdOk bs p && decide (0 < (xs : List Int).length) && decide ((xs : List Int).length ≤ 1048576) | _ => false, fun | [.box [(.ints .u8 bs), (.int .i64 p)], .d (.ints .i64 xs)] => ([.one ((.int .i64 (oneV bs p xs)), false)], [[(.ints .u8 bs), (.int .i64 (p + 1))]]) | _ => ([], []), fun _ => [], false, fun _ => none⟩
end spec_reader_one
namespace spec_reader_one
noncomputable def X : List Entry := [spec_reader_pick.E]
noncomputable def I : List Inl := [⟨53, Try.f53, ⟨[], [], [], [], [], []⟩⟩]
theorem I_ok : ∀ i ∈ I, Try.prog.funcs[i.f]? = some i.fn ∧ (i.fn.name == "runtime.NumGoroutine") = false := by
  intro i hi
  simp only [I, List.mem_cons, List.not_mem_nil, or_false] at hi
  subst hi
  exact ⟨by kernel_rfl, by kernel_rfl⟩
theorem e (fuel : Nat) (p0q0 : List Int) (p0q1 : Int) (p1 : List Int) : runF Try.prog X I 0 fuel 53 Try.f53 [.box [(.ints .u8 p0q0), (.int .i64 p0q1)], .d (.ints .i64 p1)] =
  (bif rdOk p0q0 p0q1 && decide (((((p1.length : Nat) : Int)) : Int) ≤ 1048576) then
  (idx (pickV p0q0 p0q1 (((p1.length : Nat) : Int))) p1.length).bind fun j1 =>
  (p1[j1]?).bind fun v2 =>
  some ([.one ((.int .i64 v2), false)], [[(.ints .u8 p0q0), (.int .i64 (p0q1 + 1))]])
  else
  none) := by kernel_rfl
end spec_reader_one
theorem spec_reader_one.ok_of (hX : ∀ E ∈ spec_reader_one.X, CallSpec Try.prog E) (h : ∀ (bs : List Int) (p : Int) (xs : List Int), (rdOk bs p && decide (0 < (xs : List Int).length) && decide ((xs : List Int).length ≤ 1048576)) = true → ∃ fuel, runF Try.prog spec_reader_one.X spec_reader_one.I 0 fuel 53 Try.f53 [.box [(.ints .u8 bs), (.int .i64 p)], .d (.ints .i64 xs)] = some ([.one ((.int .i64 (oneV bs p xs)), false)], [[(.ints .u8 bs), (.int .i64 (p + 1))]])) : CallSpec Try.prog spec_reader_one.E :=
  callSpec_of (d := 0) hX (by kernel_rfl) spec_reader_one.I_ok (by kernel_rfl) (by kernel_rfl) (by kernel_rfl) (fun _ _ _ _ h => by dsimp only [spec_reader_one.E] at h; cases h) (fun xs hp => by
    dsimp only [spec_reader_one.E] at hp ⊢
    split at hp
    · exact h _ _ _ hp
    · cases hp)
theorem spec_reader_one.ok : CallSpec Try.prog spec_reader_one.E := spec_reader_one.ok_of (by simp [spec_reader_one.X, spec_reader_pick.ok]) fun bs p xs h => ⟨0, by
  simp only [Bool.and_eq_true, decide_eq_true_eq] at h
  have hb := pick_bd (n := ((xs.length : Nat) : Int)) h.1.1 (by omega)
  have hi : idx (pickV bs p ((xs.length : Nat) : Int)) xs.length = some (pickV bs p ((xs.length : Nat) : Int)).toNat := by unfold idx; rw [if_pos hb]
  have g : (pickV bs p ((xs.length : Nat) : Int)).toNat < xs.length := by omega
  rw [spec_reader_one.e, h.1.1, decide_eq_true (p := (((xs.length : Nat) : Int) ≤ 1048576)) (by omega), hi]
  unfold oneV
  simp [g]⟩

namespace spec_DrawCountTo
noncomputable def E : Entry := ⟨28, true, false, fun | [.d (.ints .u8 bs)] => bytesB bs | _ => false, fun | [.d (.ints .u8 bs)] => ([.one ((.int .i64 (oneV (cutC bs) 0 ctoL)), false)], []) | _ => ([], []), fun _ => [], false, fun _ => none⟩
end spec_DrawCountTo
namespace spec_DrawCountTo
noncomputable def X : List Entry := [spec_newReader.E, spec_reader_one.E]
noncomputable def I : List Inl := [⟨28, Try.f28, ⟨[], [], [], [], [5], []⟩⟩]
theorem I_ok : ∀ i ∈ I, Try.prog.funcs[i.f]? = some i.fn ∧ (i.fn.name == "runtime.NumGoroutine") = false := by
  intro i hi
  simp only [I, List.mem_cons, List.not_mem_nil, or_false] at hi
  subst hi
  exact ⟨by kernel_rfl, by kernel_rfl⟩
theorem e (fuel : Nat) (p0 : List Int) : runF Try.prog X I 0 fuel 28 Try.f28 [.d (.ints .u8 p0)] =
  (bif rdOk ((cutC p0)) 0 && decide (0 < ((([0, 1, 5, 60, 61, (-1), 12] : List Int)) : List Int).length) && decide (((([0, 1, 5, 60, 61, (-1), 12] : List Int)) : List Int).length ≤ 1048576) then
  some ([.one ((.int .i64 (oneV ((cutC p0)) 0 (([0, 1, 5, 60, 61, (-1), 12] : List Int)))), false)], [])
  else
  none) := by kernel_rfl
end spec_DrawCountTo
theorem spec_DrawCountTo.ok_of (hX : ∀ E ∈ spec_DrawCountTo.X, CallSpec Try.prog E) (h : ∀ (bs : List Int), (bytesB bs) = true → ∃ fuel, runF Try.prog spec_DrawCountTo.X spec_DrawCountTo.I 0 fuel 28 Try.f28 [.d (.ints .u8 bs)] = some ([.one ((.int .i64 (oneV (cutC bs) 0 ctoL)), false)], [])) : CallSpec Try.prog spec_DrawCountTo.E :=
  callSpec_of (d := 0) hX (by kernel_rfl) spec_DrawCountTo.I_ok (by kernel_rfl) (by kernel_rfl) (by kernel_rfl) (fun _ _ _ _ h => by dsimp only [spec_DrawCountTo.E] at h; cases h) (fun xs hp => by
    dsimp only [spec_DrawCountTo.E] at hp ⊢
    split at hp
    · exact h _ hp
    · cases hp)
theorem spec_DrawCountTo.ok : CallSpec Try.prog spec_DrawCountTo.E := spec_DrawCountTo.ok_of (by simp [spec_DrawCountTo.X, spec_newReader.ok, spec_reader_one.ok]) fun bs h => ⟨0, by
  have r0 := cut_ok h (p := 0) (by omega) (by omega)
  rw [spec_DrawCountTo.e, r0]
  rfl⟩

namespace impl_CountTo
noncomputable def E : Entry := ⟨29, false, false, fun | [.d (.int .i64 n)] => true | _ => false, fun | [.d (.int .i64 n)] => ([.agg [((.ints .i64 (cntS n)), true), ((.ints .i64 (cntD n)), true)]], []) | _ => ([], []), fun _ => [], true, fun _ => none⟩
end impl_CountTo
namespace impl_CountTo
noncomputable def X : List Entry := []
noncomputable def I : List Inl := [⟨29, Try.f29, ⟨[], [(1000005, [1, 4, 5, 6, 7, 8, 9, 10, 11, 12, 13, 14, 17, 18, 19, 20, 21, 22, 23, 24, 25, 26, 27])], [], [], [], []⟩⟩]
theorem I_ok : ∀ i ∈ I, Try.prog.funcs[i.f]? = some i.fn ∧ (i.fn.name == "runtime.NumGoroutine") = false := by
  intro i hi
  simp only [I, List.mem_cons, List.not_mem_nil, or_false] at hi
  subst hi
  exact ⟨by kernel_rfl, by kernel_rfl⟩
noncomputable abbrev L0 (fuel n : Nat) (s : St) (k : Kont) := lAt Try.prog X I fuel true 0 false 29 (bodyOf Try.f29) [1, 1, 1, 0, 1, 0] n s k
noncomputable abbrev k0  (fuel : Nat) : Kont := (kAt Try.prog X I fuel true 0 false 29 (bodyOf Try.f29) [1, 1, 1, 0, 1, 0] [] (endK Try.prog Try.f29))
noncomputable def t0 (p0 : Int) (x0q2 : Int) (x0q3 : List Int) : St := ⟨[(.imm (.int .i64 p0)), .dead, (.ptr 1000000000 0 0), (.all 1000000001 1), .dead, .dead, .dead, .dead, .dead, .dead, .dead, .dead, .dead, .dead, .dead, (.imm (.int .i64 (((List.replicate (p0).toNat (0 : Int)).length : Nat) : Int))), (.imm (.int .i64 x0q2)), .dead, .dead, .dead, .dead, .dead, .dead, .dead, .dead, .dead, .dead, .dead], hOf [(1000000000, (.box [(.imm .nils), (.imm .nils)])), (1000000001, (.ints .i64 x0q3))], [], []⟩
theorem e (fuel : Nat) (p0 : Int) : runF Try.prog X I 0 fuel 29 Try.f29 [.d (.int .i64 p0)] =
  (bif (decide ((p0 : Int) < 0)) then
  some ([.agg [((.ints .i64 []), true), ((.ints .i64 []), true)]], [])
  else
  (bif (decide ((p0 : Int) > 60)) then
  some ([.agg [((.ints .i64 []), true), ((.ints .i64 []), true)]], [])
  else
  (bif decide (0 ≤ (p0 : Int)) && decide ((p0 : Int) ≤ p0) && decide ((p0 : Int) ≤ 1152921504606846976) && decide (((8 : Nat) : Int) * p0 ≤ 281474976710656) then
  L0 fuel fuel (t0 p0 0 ((List.replicate (p0).toNat (0 : Int)))) (k0  fuel)
  else
  none))) := by kernel_rfl
theorem s0 (fuel n0 : Nat) (p0 : Int) (x0q2 : Int) (x0q3 : List Int) : L0 fuel (n0 + 1) (t0 p0 x0q2 x0q3) (k0  fuel) =
  (bif (decide ((x0q2 : Int) < (((List.replicate (p0).toNat (0 : Int)).length : Nat) : Int))) then
  (idx x0q2 x0q3.length).bind fun j3 =>
  (bif decide (j3 < x0q3.length) then
  L0 fuel n0 (t0 p0 ((IntKind.wrap .i64 (x0q2 + 1))) ((x0q3.set j3 x0q2))) (k0  fuel)
  else
  none)
  else
  some ([.agg [((.ints .i64 [p0]), true), ((.ints .i64 x0q3), true)]], [])) := by kernel_rfl
end impl_CountTo
theorem impl_CountTo.ok_of (hX : ∀ E ∈ impl_CountTo.X, CallSpec Try.prog E) (h : ∀ (n : Int), (true) = true → ∃ fuel, runF Try.prog impl_CountTo.X impl_CountTo.I 0 fuel 29 Try.f29 [.d (.int .i64 n)] = some ([.agg [((.ints .i64 (cntS n)), true), ((.ints .i64 (cntD n)), true)]], [])) : CallSpec Try.prog impl_CountTo.E :=
  callSpec_of (d := 0) hX (by kernel_rfl) impl_CountTo.I_ok (by kernel_rfl) (by kernel_rfl) (by kernel_rfl) (fun _ _ _ _ h => by dsimp only [impl_CountTo.E] at h; cases h) (fun xs hp => by
    dsimp only [impl_CountTo.E] at hp ⊢
    split at hp
    · exact h _ hp
    · cases hp)
theorem impl_CountTo.loop (fuel : Nat) (p : Int) (hp : cntOk p = true) : ∀ (m n j : Nat) (out : List Int), p.toNat - j = m → m < n → j ≤ p.toNat → out.length = p.toNat → out.take j = ((List.range p.toNat).map Int.ofNat).take j →
    impl_CountTo.L0 fuel n (impl_CountTo.t0 p (j : Int) out) (impl_CountTo.k0 fuel) = some ([.agg [(.ints .i64 (cntS p), true), (.ints .i64 (cntD p), true)]], []) := by
  have hb : 0 ≤ p ∧ p ≤ 60 := by simpa [cntOk] using hp
  intro m
  induction m with
  | zero =>
    intro n j out h1 h2 h3 h4 h5
    obtain ⟨n, rfl⟩ : ∃ n', n = n' + 1 := ⟨n - 1, by omega⟩
    have hj : ¬ j < p.toNat := by omega
    rw [List.take_of_length_le (by omega), List.take_of_length_le (by simp; omega)] at h5
    rw [impl_CountTo.s0, List.length_replicate, dge hj, h5]
    simp [cntS, cntD, hp]
  | succ m ih =>
    intro n j out h1 h2 h3 h4 h5
    obtain ⟨n, rfl⟩ : ∃ n', n = n' + 1 := ⟨n - 1, by omega⟩
    have hj : j < p.toNat := by omega
    have hj2 : j < out.length := by omega
    rw [impl_CountTo.s0, List.length_replicate, dlt hj, idx_nat hj2, w1 (by omega)]
    simp only [cond_true, Option.bind_some, hj2, decide_true]
    have hj3 : j < ((List.range p.toNat).map Int.ofNat).length := by simpa using hj
    have := take_set_succ hj3 hj2 h5
    have e1 : ((List.range p.toNat).map Int.ofNat)[j] = (j : Int) := by simp
    rw [e1] at this
    exact ih n (j + 1) _ (by omega) (by omega) (by omega) (by simpa using h4) this

theorem impl_CountTo.ok : CallSpec Try.prog impl_CountTo.E := impl_CountTo.ok_of (by simp [impl_CountTo.X]) fun p _ => by
  obtain ⟨F, hF⟩ : ∃ F : Nat, p.toNat < F := ⟨p.toNat + 1, by omega⟩
  refine ⟨F, ?_⟩
  rw [impl_CountTo.e]
  by_cases h1 : p < 0
  · have : cntOk p = false := by unfold cntOk; rw [decide_eq_false (by omega)]; rfl
    rw [decide_eq_true h1]
    simp [cntS, cntD, this]
  · by_cases h2 : p > 60
    · have : cntOk p = false := by unfold cntOk; rw [decide_eq_false (p := p ≤ 60) (by omega), Bool.and_false]
      rw [decide_eq_true h2]
      simp [cntS, cntD, this, h1]
    · have hp : cntOk p = true := by unfold cntOk; rw [decide_eq_true (p := 0 ≤ p) (by omega), decide_eq_true (p := p ≤ 60) (by omega)]; rfl
      rw [decide_eq_false h1, decide_eq_false h2, mkOk (by omega) (by omega)]
      exact impl_CountTo.loop F p hp p.toNat F 0 _ (by omega) (by omega) (by omega) (by simp) (by simp)

namespace spec_inRange
noncomputable def E : Entry := ⟨54, true, false, fun | [.d (.int .i64 v), .d (.int .i64 lo), .d (.int .i64 hi)] => true | _ => false, fun | [.d (.int .i64 v), .d (.int .i64 lo), .d (.int .i64 hi)] => ([.one ((.bool (decide (lo ≤ v) && decide (v ≤ hi))), false)], []) | _ => ([], []), fun _ => [], false, fun _ => none⟩
end spec_inRange
namespace spec_inRange
noncomputable def X : List Entry := []
noncomputable def I : List Inl := [⟨54, Try.f54, ⟨[], [], [], [], [], []⟩⟩]
theorem I_ok : ∀ i ∈ I, Try.prog.funcs[i.f]? = some i.fn ∧ (i.fn.name == "runtime.NumGoroutine") = false := by
  intro i hi
  simp only [I, List.mem_cons, List.not_mem_nil, or_false] at hi
  subst hi
  exact ⟨by kernel_rfl, by kernel_rfl⟩
theorem e (fuel : Nat) (p0 : Int) (p1 : Int) (p2 : Int) : runF Try.prog X I 0 fuel 54 Try.f54 [.d (.int .i64 p0), .d (.int .i64 p1), .d (.int .i64 p2)] =
  (bif (decide ((p1 : Int) ≤ p0)) then
  some ([.one ((.bool (decide ((p0 : Int) ≤ p2))), false)], [])
  else
  some ([.one ((.bool false), false)], [])) := by kernel_rfl
end spec_inRange
theorem spec_inRange.ok_of (hX : ∀ E ∈ spec_inRange.X, CallSpec Try.prog E) (h : ∀ (v : Int) (lo : Int) (hi : Int), (true) = true → ∃ fuel, runF Try.prog spec_inRange.X spec_inRange.I 0 fuel 54 Try.f54 [.d (.int .i64 v), .d (.int .i64 lo), .d (.int .i64 hi)] = some ([.one ((.bool (decide (lo ≤ v) && decide (v ≤ hi))), false)], [])) : CallSpec Try.prog spec_inRange.E :=
  callSpec_of (d := 0) hX (by kernel_rfl) spec_inRange.I_ok (by kernel_rfl) (by kernel_rfl) (by kernel_rfl) (fun _ _ _ _ h => by dsimp only [spec_inRange.E] at h; cases h) (fun xs hp => by
    dsimp only [spec_inRange.E] at hp ⊢
    split at hp
    · exact h _ _ _ hp
    · cases hp)
theorem spec_inRange.ok : CallSpec Try.prog spec_inRange.E := spec_inRange.ok_of (by simp [spec_inRange.X]) fun v lo hi _ => ⟨0, by
  rw [spec_inRange.e]
  cases decide (lo ≤ v) <;> rfl⟩

namespace spec_copyInts
noncomputable def E : Entry := ⟨66, false, false, fun | [.d (.ints .i64 xs)] => szB xs | _ => false, fun | [.d (.ints .i64 xs)] => ([.one ((.ints .i64 xs), true)], []) | _ => ([], []), fun _ => [], true, fun _ => none⟩
end spec_copyInts
namespace spec_copyInts
noncomputable def X : List Entry := []
noncomputable def I : List Inl := [⟨66, Try.f66, ⟨[], [], [], [], [], []⟩⟩]
theorem I_ok : ∀ i ∈ I, Try.prog.funcs[i.f]? = some i.fn ∧ (i.fn.name == "runtime.NumGoroutine") = false := by
  intro i hi
  simp only [I, List.mem_cons, List.not_mem_nil, or_false] at hi
  subst hi
  exact ⟨by kernel_rfl, by kernel_rfl⟩
theorem e (fuel : Nat) (p0 : List Int) : runF Try.prog X I 0 fuel 66 Try.f66 [.d (.ints .i64 p0)] =
  (bif fits (([] : List Int).length + p0.length) 8 then
  some ([.one ((.ints .i64 (([] : List Int) ++ p0)), true)], [])
  else
  none) := by kernel_rfl
end spec_copyInts
theorem spec_copyInts.ok_of (hX : ∀ E ∈ spec_copyInts.X, CallSpec Try.prog E) (h : ∀ (xs : List Int), (szB xs) = true → ∃ fuel, runF Try.prog spec_copyInts.X spec_copyInts.I 0 fuel 66 Try.f66 [.d (.ints .i64 xs)] = some ([.one ((.ints .i64 xs), true)], [])) : CallSpec Try.prog spec_copyInts.E :=
  callSpec_of (d := 0) hX (by kernel_rfl) spec_copyInts.I_ok (by kernel_rfl) (by kernel_rfl) (by kernel_rfl) (fun _ _ _ _ h => by dsimp only [spec_copyInts.E] at h; cases h) (fun xs hp => by
    dsimp only [spec_copyInts.E] at hp ⊢
    split at hp
    · exact h _ hp
    · cases hp)
theorem spec_copyInts.ok : CallSpec Try.prog spec_copyInts.E := spec_copyInts.ok_of (by simp [spec_copyInts.X]) fun xs h => ⟨0, by
  have hx := szB_le h
  rw [spec_copyInts.e, fitsOk (by simp; omega)]
  rfl⟩

namespace spec_make1
noncomputable def E : Entry := ⟨56, false, false, fun | [.d (.ints .i64 sh), .d (.ints .i64 da)] => szB sh && szB da | _ => false, fun | [.d (.ints .i64 sh), .d (.ints .i64 da)] => ([.agg [((.ints .i64 sh), true), ((.ints .i64 da), true)]], []) | _ => ([], []), fun _ => [], true, fun _ => none⟩
end spec_make1
namespace spec_make1
noncomputable def X : List Entry := [spec_copyInts.E]
noncomputable def I : List Inl := [⟨56, Try.f56, ⟨[6, 8], [], [], [], [], []⟩⟩]
theorem I_ok : ∀ i ∈ I, Try.prog.funcs[i.f]? = some i.fn ∧ (i.fn.name == "runtime.NumGoroutine") = false := by
  intro i hi
  simp only [I, List.mem_cons, List.not_mem_nil, or_false] at hi
  subst hi
  exact ⟨by kernel_rfl, by kernel_rfl⟩
theorem e (fuel : Nat) (p0 : List Int) (p1 : List Int) : runF Try.prog X I 0 fuel 56 Try.f56 [.d (.ints .i64 p0), .d (.ints .i64 p1)] =
  (bif szB p0 then
  (bif szB p1 then
  some ([.agg [((.ints .i64 p0), true), ((.ints .i64 p1), true)]], [])
  else
  none)
  else
  none) := by kernel_rfl
end spec_make1
theorem spec_make1.ok_of (hX : ∀ E ∈ spec_make1.X, CallSpec Try.prog E) (h : ∀ (sh : List Int) (da : List Int), (szB sh && szB da) = true → ∃ fuel, runF Try.prog spec_make1.X spec_make1.I 0 fuel 56 Try.f56 [.d (.ints .i64 sh), .d (.ints .i64 da)] = some ([.agg [((.ints .i64 sh), true), ((.ints .i64 da), true)]], [])) : CallSpec Try.prog spec_make1.E :=
  callSpec_of (d := 0) hX (by kernel_rfl) spec_make1.I_ok (by kernel_rfl) (by kernel_rfl) (by kernel_rfl) (fun _ _ _ _ h => by dsimp only [spec_make1.E] at h; cases h) (fun xs hp => by
    dsimp only [spec_make1.E] at hp ⊢
    split at hp
    · exact h _ _ hp
    · cases hp)
theorem spec_make1.ok : CallSpec Try.prog spec_make1.E := spec_make1.ok_of (by simp [spec_make1.X, spec_copyInts.ok]) fun sh da h => ⟨0, by
  simp only [Bool.and_eq_true] at h
  rw [spec_make1.e, h.1, h.2]
  rfl⟩

namespace spec_vector
noncomputable def E : Entry := ⟨34, false, false, fun | [.d (.ints .i64 xs)] => szB xs | _ => false, fun | [.d (.ints .i64 xs)] => ([.agg [((.ints .i64 [((xs.length : Nat) : Int)]), true), ((.ints .i64 xs), true)]], []) | _ => ([], []), fun _ => [], true, fun _ => none⟩
end spec_vector
namespace spec_vector
noncomputable def X : List Entry := [spec_make1.E]
noncomputable def I : List Inl := [⟨34, Try.f34, ⟨[7], [], [], [], [5], []⟩⟩]
theorem I_ok : ∀ i ∈ I, Try.prog.funcs[i.f]? = some i.fn ∧ (i.fn.name == "runtime.NumGoroutine") = false := by
  intro i hi
  simp only [I, List.mem_cons, List.not_mem_nil, or_false] at hi
  subst hi
  exact ⟨by kernel_rfl, by kernel_rfl⟩
theorem e (fuel : Nat) (p0 : List Int) : runF Try.prog X I 0 fuel 34 Try.f34 [.d (.ints .i64 p0)] =
  (bif szB (([((p0.length : Nat) : Int)] : List Int)) && szB p0 then
  some ([.agg [((.ints .i64 (([((p0.length : Nat) : Int)] : List Int))), true), ((.ints .i64 p0), true)]], [])
  else
  none) := by kernel_rfl
end spec_vector
theorem spec_vector.ok_of (hX : ∀ E ∈ spec_vector.X, CallSpec Try.prog E) (h : ∀ (xs : List Int), (szB xs) = true → ∃ fuel, runF Try.prog spec_vector.X spec_vector.I 0 fuel 34 Try.f34 [.d (.ints .i64 xs)] = some ([.agg [((.ints .i64 [((xs.length : Nat) : Int)]), true), ((.ints .i64 xs), true)]], [])) : CallSpec Try.prog spec_vector.E :=
  callSpec_of (d := 0) hX (by kernel_rfl) spec_vector.I_ok (by kernel_rfl) (by kernel_rfl) (by kernel_rfl) (fun _ _ _ _ h => by dsimp only [spec_vector.E] at h; cases h) (fun xs hp => by
    dsimp only [spec_vector.E] at hp ⊢
    split at hp
    · exact h _ hp
    · cases hp)
theorem spec_vector.ok : CallSpec Try.prog spec_vector.E := spec_vector.ok_of (by simp [spec_vector.X, spec_make1.ok]) fun xs h => ⟨0, by
  rw [spec_vector.e, h, szB_of (by simp)]
  rfl⟩

namespace spec_CountTo
noncomputable def E : Entry := ⟨30, false, false, fun | [.d (.int .i64 n)] => true | _ => false, fun | [.d (.int .i64 n)] => ([.agg [((.ints .i64 (cntS n)), true), ((.ints .i64 (cntD n)), true)]], []) | _ => ([], []), fun _ => [], true, fun _ => none⟩
end spec_CountTo
namespace spec_CountTo
noncomputable def X : List Entry := [spec_inRange.E, spec_vector.E]
noncomputable def I : List Inl := [⟨30, Try.f30, ⟨[20], [(1000005, [1, 5, 6, 7, 8, 9, 10, 11, 12, 13, 14, 15, 16, 17, 18, 19, 20])], [], [], [], []⟩⟩]
theorem I_ok : ∀ i ∈ I, Try.prog.funcs[i.f]? = some i.fn ∧ (i.fn.name == "runtime.NumGoroutine") = false := by
  intro i hi
  simp only [I, List.mem_cons, List.not_mem_nil, or_false] at hi
  subst hi
  exact ⟨by kernel_rfl, by kernel_rfl⟩
noncomputable abbrev L0 (fuel n : Nat) (s : St) (k : Kont) := lAt Try.prog X I fuel true 0 false 30 (bodyOf Try.f30) [1, 1, 1, 0, 1, 0] n s k
noncomputable abbrev k0  (fuel : Nat) : Kont := (kAt Try.prog X I fuel true 0 false 30 (bodyOf Try.f30) [1, 1, 1, 0, 1, 0] [] (endK Try.prog Try.f30))
noncomputable def t0 (p0 : Int) (x0q1 : Int) (x0q2 : List Int) : St := ⟨[(.imm (.int .i64 p0)), .dead, (.ptr 1000000000 0 0), (.all 1000000001 1), (.imm (.int .i64 x0q1)), .dead, .dead, .dead, .dead, .dead, .dead, .dead, .dead, .dead, .dead, .dead, .dead, .dead, .dead, .dead, .dead], hOf [(1000000000, (.box [(.imm .nils), (.imm .nils)])), (1000000001, (.ints .i64 x0q2))], [], []⟩
theorem e (fuel : Nat) (p0 : Int) : runF Try.prog X I 0 fuel 30 Try.f30 [.d (.int .i64 p0)] =
  (bif (!(decide (0 ≤ p0) && decide (p0 ≤ 60))) then
  some ([.agg [((.ints .i64 []), true), ((.ints .i64 []), true)]], [])
  else
  L0 fuel fuel (t0 p0 0 ([])) (k0  fuel)) := by kernel_rfl
theorem s0 (fuel n0 : Nat) (p0 : Int) (x0q1 : Int) (x0q2 : List Int) : L0 fuel (n0 + 1) (t0 p0 x0q1 x0q2) (k0  fuel) =
  (bif (decide ((x0q1 : Int) < p0)) then
  (bif fits (x0q2.length + ([x0q1] : List Int).length) 8 then
  L0 fuel n0 (t0 p0 ((IntKind.wrap .i64 (x0q1 + 1))) ((x0q2 ++ [x0q1]))) (k0  fuel)
  else
  none)
  else
  (bif szB x0q2 then
  some ([.agg [((.ints .i64 [((x0q2.length : Nat) : Int)]), true), ((.ints .i64 x0q2), true)]], [])
  else
  none)) := by kernel_rfl
end spec_CountTo
theorem spec_CountTo.ok_of (hX : ∀ E ∈ spec_CountTo.X, CallSpec Try.prog E) (h : ∀ (n : Int), (true) = true → ∃ fuel, runF Try.prog spec_CountTo.X spec_CountTo.I 0 fuel 30 Try.f30 [.d (.int .i64 n)] = some ([.agg [((.ints .i64 (cntS n)), true), ((.ints .i64 (cntD n)), true)]], [])) : CallSpec Try.prog spec_CountTo.E :=
  callSpec_of (d := 0) hX (by kernel_rfl) spec_CountTo.I_ok (by kernel_rfl) (by kernel_rfl) (by kernel_rfl) (fun _ _ _ _ h => by dsimp only [spec_CountTo.E] at h; cases h) (fun xs hp => by
    dsimp only [spec_CountTo.E] at hp ⊢
    split at hp
    · exact h _ hp
    · cases hp)
theorem spec_CountTo.loop (fuel : Nat) (p : Int) (hp : cntOk p = true) : ∀ (m n j : Nat) (out : List Int), p.toNat - j = m → m < n → j ≤ p.toNat → out = (List.range j).map Int.ofNat →
    spec_CountTo.L0 fuel n (spec_CountTo.t0 p (j : Int) out) (spec_CountTo.k0 fuel) = some ([.agg [(.ints .i64 (cntS p), true), (.ints .i64 (cntD p), true)]], []) := by
  have hb : 0 ≤ p ∧ p ≤ 60 := by simpa [cntOk] using hp
  intro m
  induction m with
  | zero =>
    intro n j out h1 h2 h3 h4
    obtain ⟨n, rfl⟩ : ∃ n', n = n' + 1 := ⟨n - 1, by omega⟩
    have hj : ¬ ((j : Int) < p) := by omega
    have hjp : j = p.toNat := by omega
    have hl : out.length = j := by rw [h4]; simp
    rw [spec_CountTo.s0, decide_eq_false hj, szB_of (by omega), hl]
    unfold cntS cntD
    rw [hp, h4, hjp, Int.toNat_of_nonneg hb.1]
    rfl
  | succ m ih =>
    intro n j out h1 h2 h3 h4
    obtain ⟨n, rfl⟩ : ∃ n', n = n' + 1 := ⟨n - 1, by omega⟩
    have hj : ((j : Int) < p) := by omega
    have hl : out.length = j := by rw [h4]; simp
    rw [spec_CountTo.s0, decide_eq_true hj, fitsOk (by simp; omega), w1 (by omega)]
    simp only [cond_true]
    exact ih n (j + 1) _ (by omega) (by omega) (by omega) (by rw [h4, List.range_succ]; simp)

theorem spec_CountTo.ok : CallSpec Try.prog spec_CountTo.E := spec_CountTo.ok_of (by simp [spec_CountTo.X, spec_inRange.ok, spec_vector.ok]) fun p _ => by
  obtain ⟨F, hF⟩ : ∃ F : Nat, p.toNat < F := ⟨p.toNat + 1, by omega⟩
  refine ⟨F, ?_⟩
  rw [spec_CountTo.e]
  cases hp : cntOk p with
  | false =>
    have : (decide (0 ≤ p) && decide (p ≤ 60)) = false := hp
    rw [this]
    simp [cntS, cntD, hp]
  | true =>
    have : (decide (0 ≤ p) && decide (p ≤ 60)) = true := hp
    rw [this]
    exact spec_CountTo.loop F p hp p.toNat F 0 [] (by omega) (by omega) (by omega) rfl

namespace laws_equalInts
noncomputable def E : Entry := ⟨49, true, false, fun | [.d (.ints .i64 xs), .d (.ints .i64 ys)] => decide (xs.length < 9223372036854775808) && decide (ys.length < 9223372036854775808) | _ => false, fun | [.d (.ints .i64 xs), .d (.ints .i64 ys)] => ([.one ((.bool (decide (xs = ys))), false)], []) | _ => ([], []), fun _ => [], false, fun _ => none⟩
end laws_equalInts
namespace laws_equalInts
noncomputable def X : List Entry := []
noncomputable def I : List Inl := [⟨49, Try.f49, ⟨[], [(1000004, [2, 3, 4, 6, 7, 8, 9, 10, 11, 12, 13, 14, 15, 16, 17, 18, 19, 20, 21, 22, 23, 24, 25])], [], [(6, [0, 1, 4, 5, 2, 3, 6, 7, 8])], [], []⟩⟩]
theorem I_ok : ∀ i ∈ I, Try.prog.funcs[i.f]? = some i.fn ∧ (i.fn.name == "runtime.NumGoroutine") = false := by
  intro i hi
  simp only [I, List.mem_cons, List.not_mem_nil, or_false] at hi
  subst hi
  exact ⟨by kernel_rfl, by kernel_rfl⟩
noncomputable abbrev L0 (fuel n : Nat) (s : St) (k : Kont) := lAt Try.prog X I fuel true 0 false 49 (bodyOf Try.f49) [1, 1, 0, 1, 0] n s k
noncomputable abbrev k0  (fuel : Nat) : Kont := (kAt Try.prog X I fuel true 0 false 49 (bodyOf Try.f49) [1, 1, 0, 1, 0] [] (endK Try.prog Try.f49))
noncomputable def t0 (p0 : List Int) (p1 : List Int) (x0q2 : Int) : St := ⟨[(.imm (.ints .i64 p0)), (.imm (.ints .i64 p1)), .dead, .dead, .dead, (.imm (.int .i64 x0q2)), .dead, .dead, .dead, .dead, .dead, .dead, .dead, .dead, .dead, .dead, .dead, .dead, .dead, .dead, .dead, .dead, .dead, .dead, .dead, .dead], hOf [], [], []⟩
theorem e (fuel : Nat) (p0 : List Int) (p1 : List Int) : runF Try.prog X I 0 fuel 49 Try.f49 [.d (.ints .i64 p0), .d (.ints .i64 p1)] =
  (bif ((((p0.length : Nat) : Int) : Int) != ((p1.length : Nat) : Int)) then
  some ([.one ((.bool false), false)], [])
  else
  L0 fuel fuel (t0 p0 p1 0) (k0  fuel)) := by kernel_rfl
theorem s0 (fuel n0 : Nat) (p0 : List Int) (p1 : List Int) (x0q2 : Int) : L0 fuel (n0 + 1) (t0 p0 p1 x0q2) (k0  fuel) =
  (bif (decide ((x0q2 : Int) < ((p0.length : Nat) : Int))) then
  (idx x0q2 p0.length).bind fun j9 =>
  (p0[j9]?).bind fun v10 =>
  (idx x0q2 p1.length).bind fun j11 =>
  (p1[j11]?).bind fun v12 =>
  (bif ((v10 : Int) != v12) then
  some ([.one ((.bool false), false)], [])
  else
  L0 fuel n0 (t0 p0 p1 ((IntKind.wrap .i64 (x0q2 + 1)))) (k0  fuel))
  else
  some ([.one ((.bool true), false)], [])) := by kernel_rfl
end laws_equalInts
theorem laws_equalInts.ok_of (hX : ∀ E ∈ laws_equalInts.X, CallSpec Try.prog E) (h : ∀ (xs : List Int) (ys : List Int), (decide (xs.length < 9223372036854775808) && decide (ys.length < 9223372036854775808)) = true → ∃ fuel, runF Try.prog laws_equalInts.X laws_equalInts.I 0 fuel 49 Try.f49 [.d (.ints .i64 xs), .d (.ints .i64 ys)] = some ([.one ((.bool (decide (xs = ys))), false)], [])) : CallSpec Try.prog laws_equalInts.E :=
  callSpec_of (d := 0) hX (by kernel_rfl) laws_equalInts.I_ok (by kernel_rfl) (by kernel_rfl) (by kernel_rfl) (fun _ _ _ _ h => by dsimp only [laws_equalInts.E] at h; cases h) (fun xs hp => by
    dsimp only [laws_equalInts.E] at hp ⊢
    split at hp
    · exact h _ _ hp
    · cases hp)
theorem laws_equalInts.loop (fuel : Nat) (xs ys : List Int) (hl : xs.length = ys.length) (hx : xs.length < 9223372036854775808) : ∀ (m n j : Nat), xs.length - j = m → m < n → j ≤ xs.length →
    laws_equalInts.L0 fuel n (laws_equalInts.t0 xs ys (j : Int)) (laws_equalInts.k0 fuel) = some ([.one (.bool (decide (xs.drop j = ys.drop j)), false)], []) := by
  intro m
  induction m with
  | zero =>
    intro n j h1 h2 h3
    obtain ⟨n, rfl⟩ : ∃ n', n = n' + 1 := ⟨n - 1, by omega⟩
    have hj : ¬ j < xs.length := by omega
    rw [laws_equalInts.s0, dge hj, dropE hj, dropE (xs := ys) (by omega)]
    rfl
  | succ m ih =>
    intro n j h1 h2 h3
    obtain ⟨n, rfl⟩ : ∃ n', n = n' + 1 := ⟨n - 1, by omega⟩
    have hj : j < xs.length := by omega
    have hj2 : j < ys.length := by omega
    rw [laws_equalInts.s0, dlt hj, idx_nat hj, idx_nat hj2, w1 (by omega), dropS hj, dropS hj2]
    simp only [cond_true, Option.bind_some, getS hj, getS hj2]
    rw [ih n (j + 1) (by omega) (by omega) (by omega)]
    by_cases hv : xs[j] = ys[j]
    · rw [hv]
      simp only [bne_self_eq_false, cond_false, List.cons.injEq, true_and]
    · have : (xs[j] != ys[j]) = true := by simp [hv]
      rw [this]
      simp only [cond_true, List.cons.injEq, hv, false_and, decide_false]

theorem laws_equalInts.ok : CallSpec Try.prog laws_equalInts.E := laws_equalInts.ok_of (by simp [laws_equalInts.X]) fun xs ys h => by
  simp only [Bool.and_eq_true, decide_eq_true_eq] at h
  refine ⟨xs.length + 1, ?_⟩
  rw [laws_equalInts.e]
  by_cases hl : xs.length = ys.length
  · have := laws_equalInts.loop (xs.length + 1) xs ys hl h.1 xs.length (xs.length + 1) 0 (by omega) (by omega) (by omega)
    simp only [List.drop_zero] at this
    simp only [hl, bne_self_eq_false, cond_false]
    rw [← hl]
    exact this
  · have hne : xs ≠ ys := fun e => hl (e ▸ rfl)
    have : (((xs.length : Nat) : Int) != ((ys.length : Nat) : Int)) = true := by simp; omega
    rw [this]
    simp [hne]

namespace laws_equalArray
noncomputable def E : Entry := ⟨22, true, false, fun | [.d (.agg [(.ints .i64 sa), (.ints .i64 da)]), .d (.agg [(.ints .i64 sb), (.ints .i64 db)])] => decide (sa.length < 9223372036854775808) && decide (da.length < 9223372036854775808) && decide (sb.length < 9223372036854775808) && decide (db.length < 9223372036854775808) | _ => false, fun | [.d (.agg [(.ints .i64 sa), (.ints .i64 da)]), .d (.agg [(.ints .i64 sb), (.ints .i64 db)])] => ([.one ((.bool (decide (sa = sb) && decide (da = db))), false)], []) | _ => ([], []), fun _ => [], false, fun _ => none⟩
end laws_equalArray
namespace laws_equalArray
noncomputable def X : List Entry := [laws_equalInts.E]
noncomputable def I : List Inl := [⟨22, Try.f22, ⟨[], [], [], [], [], []⟩⟩]
theorem I_ok : ∀ i ∈ I, Try.prog.funcs[i.f]? = some i.fn ∧ (i.fn.name == "runtime.NumGoroutine") = false := by
  intro i hi
  simp only [I, List.mem_cons, List.not_mem_nil, or_false] at hi
  subst hi
  exact ⟨by kernel_rfl, by kernel_rfl⟩
theorem e (fuel : Nat) (p0q0 : List Int) (p0q1 : List Int) (p1q0 : List Int) (p1q1 : List Int) : runF Try.prog X I 0 fuel 22 Try.f22 [.d (.agg [(.ints .i64 p0q0), (.ints .i64 p0q1)]), .d (.agg [(.ints .i64 p1q0), (.ints .i64 p1q1)])] =
  (bif decide (p0q0.length < 9223372036854775808) && decide (p1q0.length < 9223372036854775808) then
  (bif (decide (p0q0 = p1q0)) then
  (bif decide (p0q1.length < 9223372036854775808) && decide (p1q1.length < 9223372036854775808) then
  some ([.one ((.bool (decide (p0q1 = p1q1))), false)], [])
  else
  none)
  else
  some ([.one ((.bool false), false)], []))
  else
  none) := by kernel_rfl
end laws_equalArray
theorem laws_equalArray.ok_of (hX : ∀ E ∈ laws_equalArray.X, CallSpec Try.prog E) (h : ∀ (sa : List Int) (da : List Int) (sb : List Int) (db : List Int), (decide (sa.length < 9223372036854775808) && decide (da.length < 9223372036854775808) && decide (sb.length < 9223372036854775808) && decide (db.length < 9223372036854775808)) = true → ∃ fuel, runF Try.prog laws_equalArray.X laws_equalArray.I 0 fuel 22 Try.f22 [.d (.agg [(.ints .i64 sa), (.ints .i64 da)]), .d (.agg [(.ints .i64 sb), (.ints .i64 db)])] = some ([.one ((.bool (decide (sa = sb) && decide (da = db))), false)], [])) : CallSpec Try.prog laws_equalArray.E :=
  callSpec_of (d := 0) hX (by kernel_rfl) laws_equalArray.I_ok (by kernel_rfl) (by kernel_rfl) (by kernel_rfl) (fun _ _ _ _ h => by dsimp only [laws_equalArray.E] at h; cases h) (fun xs hp => by
    dsimp only [laws_equalArray.E] at hp ⊢
    split at hp
    · exact h _ _ _ _ hp
    · cases hp)
theorem laws_equalArray.ok : CallSpec Try.prog laws_equalArray.E := laws_equalArray.ok_of (by simp [laws_equalArray.X, laws_equalInts.ok]) fun sa da sb db h => ⟨0, by
  simp only [Bool.and_eq_true, decide_eq_true_eq] at h
  obtain ⟨⟨⟨h1, h2⟩, h3⟩, h4⟩ := h
  rw [laws_equalArray.e]
  simp only [h1, h2, h3, h4, decide_true, Bool.and_self, cond_true]
  cases decide (sa = sb) <;> cases decide (da = db) <;> rfl⟩

namespace impl_layoutOf
noncomputable def E : Entry := ⟨50, false, false, fun | [.d (.ints .i64 sh)] => decide (sh.length < 9223372036854775808) | _ => false, fun | [.d (.ints .i64 sh)] => ([.agg [((.ints .i64 nilI), true), ((.int .i64 0), false), ((.int .i64 0), false), ((.int .i64 0), false), ((.int .i64 0), false)], .one ((.bool false), false)], []) | _ => ([], []), fun | [.d (.ints .i64 sh)] => [(validS sh, ([.agg [((.ints .i64 sh), false), ((.int .i64 (strd sh 0)), false), ((.int .i64 (strd sh 1)), false), ((.int .i64 (strd sh 2)), false), ((.int .i64 (volW sh)), false)], .one ((.bool true), false)], []))] | _ => [], true, fun _ => none⟩
end impl_layoutOf
namespace impl_layoutOf
noncomputable def X : List Entry := []
noncomputable def I : List Inl := [⟨50, Try.f50, ⟨[], [(1000005, [1, 3, 6, 7, 8, 9, 10, 11, 12, 13, 14, 15, 16, 17, 18, 19, 20, 21, 22, 23, 24, 25, 26, 27, 28, 29, 30, 31, 32, 33, 34, 35, 36, 37, 38, 39, 40, 41, 42, 43, 44, 45, 46, 47, 48, 49])], [], [(10, [0, 2, 3, 1, 4, 5, 6, 7, 8])], [], []⟩⟩]
theorem I_ok : ∀ i ∈ I, Try.prog.funcs[i.f]? = some i.fn ∧ (i.fn.name == "runtime.NumGoroutine") = false := by
  intro i hi
  simp only [I, List.mem_cons, List.not_mem_nil, or_false] at hi
  subst hi
  exact ⟨by kernel_rfl, by kernel_rfl⟩
noncomputable abbrev L0 (fuel n : Nat) (s : St) (k : Kont) := lAt Try.prog X I fuel true 0 false 50 (bodyOf Try.f50) [1, 1, 1, 0, 1, 0] n s k
noncomputable abbrev k0  (fuel : Nat) : Kont := (kAt Try.prog X I fuel true 0 false 50 (bodyOf Try.f50) [1, 1, 1, 0, 1, 0] [] (endK Try.prog Try.f50))
noncomputable def t0 (p0 : List Int) (x0q1 : Int) (x0q7 : Int) (x0q8 : Int) (x0q9 : Int) (x0q10 : Int) : St := ⟨[(.imm (.ints .i64 p0)), .dead, (.ptr 1000000000 0 0), .dead, (.ptr 1000000001 0 0), (.imm (.int .i64 x0q1)), .dead, .dead, .dead, .dead, .dead, .dead, .dead, .dead, .dead, .dead, .dead, .dead, .dead, .dead, .dead, .dead, .dead, .dead, .dead, .dead, .dead, .dead, .dead, .dead, .dead, .dead, .dead, .dead, .dead, .dead, .dead, .dead, .dead, .dead, .dead, .dead, .dead, .dead, .dead, .dead, .dead, .dead, .dead, .dead], hOf [(1000000000, (.box [(.imm .nils), (.imm (.int .i64 0)), (.imm (.int .i64 0)), (.imm (.int .i64 0)), (.imm (.int .i64 0))])), (1000000001, (.box [(.imm (.ints .i64 p0)), (.imm (.int .i64 x0q7)), (.imm (.int .i64 x0q8)), (.imm (.int .i64 x0q9)), (.imm (.int .i64 x0q10))]))], [], []⟩
theorem e (fuel : Nat) (p0 : List Int) : runF Try.prog X I 0 fuel 50 Try.f50 [.d (.ints .i64 p0)] =
  (bif (decide ((((p0.length : Nat) : Int) : Int) > 3)) then
  some ([.agg [((.ints .i64 []), true), ((.int .i64 0), false), ((.int .i64 0), false), ((.int .i64 0), false), ((.int .i64 0), false)], .one ((.bool false), false)], [])
  else
  L0 fuel fuel (t0 p0 ((IntKind.wrap .i64 (((p0.length : Nat) : Int) - 1))) 0 0 0 1) (k0  fuel)) := by kernel_rfl
theorem s0 (fuel n0 : Nat) (p0 : List Int) (x0q1 : Int) (x0q7 : Int) (x0q8 : Int) (x0q9 : Int) (x0q10 : Int) : L0 fuel (n0 + 1) (t0 p0 x0q1 x0q7 x0q8 x0q9 x0q10) (k0  fuel) =
  (bif (decide ((x0q1 : Int) ≥ 0)) then
  (idx x0q1 p0.length).bind fun j21 =>
  (p0[j21]?).bind fun v22 =>
  (bif (decide ((v22 : Int) < 0)) then
  some ([.agg [((.ints .i64 []), true), ((.int .i64 0), false), ((.int .i64 0), false), ((.int .i64 0), false), ((.int .i64 0), false)], .one ((.bool false), false)], [])
  else
  (idx x0q1 p0.length).bind fun j23 =>
  (p0[j23]?).bind fun v24 =>
  (bif (decide ((v24 : Int) > 60)) then
  some ([.agg [((.ints .i64 []), true), ((.int .i64 0), false), ((.int .i64 0), false), ((.int .i64 0), false), ((.int .i64 0), false)], .one ((.bool false), false)], [])
  else
  (bif decide (x0q1 = ((0 : Nat) : Int)) then
  (idx x0q1 p0.length).bind fun j29 =>
  (p0[j29]?).bind fun v30 =>
  L0 fuel n0 (t0 p0 ((IntKind.wrap .i64 (x0q1 - 1))) x0q10 x0q8 x0q9 ((IntKind.wrap .i64 (x0q10 * v30)))) (k0  fuel)
  else
  (bif decide (x0q1 = ((1 : Nat) : Int)) then
  (idx x0q1 p0.length).bind fun j27 =>
  (p0[j27]?).bind fun v28 =>
  L0 fuel n0 (t0 p0 ((IntKind.wrap .i64 (x0q1 - 1))) x0q7 x0q10 x0q9 ((IntKind.wrap .i64 (x0q10 * v28)))) (k0  fuel)
  else
  (bif decide (x0q1 = ((2 : Nat) : Int)) then
  (idx x0q1 p0.length).bind fun j25 =>
  (p0[j25]?).bind fun v26 =>
  L0 fuel n0 (t0 p0 ((IntKind.wrap .i64 (x0q1 - 1))) x0q7 x0q8 x0q10 ((IntKind.wrap .i64 (x0q10 * v26)))) (k0  fuel)
  else
  none)))))
  else
  (bif (decide ((x0q10 : Int) > 60)) then
  some ([.agg [((.ints .i64 []), true), ((.int .i64 0), false), ((.int .i64 0), false), ((.int .i64 0), false), ((.int .i64 0), false)], .one ((.bool false), false)], [])
  else
  some ([.agg [((.ints .i64 p0), false), ((.int .i64 x0q7), false), ((.int .i64 x0q8), false), ((.int .i64 x0q9), false), ((.int .i64 x0q10), false)], .one ((.bool true), false)], []))) := by kernel_rfl
end impl_layoutOf
theorem impl_layoutOf.ok_of (hX : ∀ E ∈ impl_layoutOf.X, CallSpec Try.prog E) (h : ∀ (sh : List Int), (decide (sh.length < 9223372036854775808)) = true → ∃ fuel, runF Try.prog impl_layoutOf.X impl_layoutOf.I 0 fuel 50 Try.f50 [.d (.ints .i64 sh)] = some (bif validS sh then ([.agg [((.ints .i64 sh), false), ((.int .i64 (strd sh 0)), false), ((.int .i64 (strd sh 1)), false), ((.int .i64 (strd sh 2)), false), ((.int .i64 (volW sh)), false)], .one ((.bool true), false)], []) else ([.agg [((.ints .i64 nilI), true), ((.int .i64 0), false), ((.int .i64 0), false), ((.int .i64 0), false), ((.int .i64 0), false)], .one ((.bool false), false)], []))) : CallSpec Try.prog impl_layoutOf.E :=
  callSpec_of (d := 0) hX (by kernel_rfl) impl_layoutOf.I_ok (by kernel_rfl) (by kernel_rfl) (by kernel_rfl) (fun _ _ _ _ h => by dsimp only [impl_layoutOf.E] at h; cases h) (fun xs hp => by
    dsimp only [impl_layoutOf.E] at hp ⊢
    split at hp
    · exact h _ hp
    · cases hp)
theorem impl_layoutOf.bad (fuel n : Nat) (sh : List Int) (k : Nat) (v : Int) (s0 s1 s2 z : Int) (hk : k < sh.length) (hv : sh[k]? = some v) (h : ¬ (0 ≤ v ∧ v ≤ 60)) :
    impl_layoutOf.L0 fuel (n + 1) (impl_layoutOf.t0 sh (k : Int) s0 s1 s2 z) (impl_layoutOf.k0 fuel) = some ([.agg [(.ints .i64 [], true), (.int .i64 0, false), (.int .i64 0, false), (.int .i64 0, false), (.int .i64 0, false)], .one (.bool false, false)], []) := by
  rw [impl_layoutOf.s0, decide_eq_true (by omega), idx_nat hk]
  simp only [cond_true, Option.bind_some, hv]
  by_cases h0 : v < 0
  · rw [decide_eq_true h0]; rfl
  · rw [decide_eq_false h0, decide_eq_true (by omega)]; rfl
theorem impl_layoutOf.good (fuel n : Nat) (sh : List Int) (k : Nat) (v : Int) (s0 s1 s2 z : Int) (hk : k < sh.length) (hv : sh[k]? = some v) (h : 0 ≤ v ∧ v ≤ 60) (hk3 : k < 3) :
    impl_layoutOf.L0 fuel (n + 1) (impl_layoutOf.t0 sh (k : Int) s0 s1 s2 z) (impl_layoutOf.k0 fuel) =
      impl_layoutOf.L0 fuel n (impl_layoutOf.t0 sh ((k : Int) - 1) (bif k == 0 then z else s0) (bif k == 1 then z else s1) (bif k == 2 then z else s2) (IntKind.wrap .i64 (z * v))) (impl_layoutOf.k0 fuel) := by
  rw [impl_layoutOf.s0, decide_eq_true (by omega), idx_nat hk]
  simp only [cond_true, Option.bind_some, hv]
  rw [decide_eq_false (p := v < 0) (by omega), decide_eq_false (p := v > 60) (by omega), wS (x := (k : Int) - 1) (by omega) (by omega)]
  simp only [cond_false]
  match k, hk3 with
  | 0, _ => rfl
  | 1, _ => rfl
  | 2, _ => rfl
theorem impl_layoutOf.last (fuel n : Nat) (sh : List Int) (i : Int) (s0 s1 s2 z : Int) (hi : i < 0) :
    impl_layoutOf.L0 fuel (n + 1) (impl_layoutOf.t0 sh i s0 s1 s2 z) (impl_layoutOf.k0 fuel) = 
      bif decide (z ≤ 60) then some ([.agg [(.ints .i64 sh, false), (.int .i64 s0, false), (.int .i64 s1, false), (.int .i64 s2, false), (.int .i64 z, false)], .one (.bool true, false)], [])
      else some ([.agg [(.ints .i64 [], true), (.int .i64 0, false), (.int .i64 0, false), (.int .i64 0, false), (.int .i64 0, false)], .one (.bool false, false)], []) := by
  rw [impl_layoutOf.s0, decide_eq_false (by omega)]
  simp only [cond_false]
  by_cases hz : z ≤ 60
  · rw [decide_eq_true hz, decide_eq_false (by omega)]; rfl
  · rw [decide_eq_false hz, decide_eq_true (by omega)]; rfl
theorem rng_dec {v : Int} (h : 0 ≤ v ∧ v ≤ 60) : (decide (0 ≤ v) && decide (v ≤ 60)) = true := by simp [h.1, h.2]
theorem rng_bad {v : Int} (h : ¬ (0 ≤ v ∧ v ≤ 60)) : (decide (0 ≤ v) && decide (v ≤ 60)) = false := by
  cases hb : (decide (0 ≤ v) && decide (v ≤ 60)) with
  | false => rfl
  | true => simp at hb; exact absurd hb h
theorem validS1 (a : Int) : validS [a] = ((decide (0 ≤ a) && decide (a ≤ 60)) && decide (IntKind.wrap .i64 (1 * a) ≤ 60)) := by
  simp only [validS, allB_cons, allB_nil, Bool.and_true, volW, volFrom]; rfl
theorem validS2 (a b : Int) : validS [a, b] = ((decide (0 ≤ a) && decide (a ≤ 60)) && (decide (0 ≤ b) && decide (b ≤ 60)) && decide (IntKind.wrap .i64 (IntKind.wrap .i64 (1 * a) * b) ≤ 60)) := by
  simp only [validS, allB_cons, allB_nil, Bool.and_true, volW, volFrom]; rfl
theorem validS3 (a b c : Int) : validS [a, b, c] = ((decide (0 ≤ a) && decide (a ≤ 60)) && ((decide (0 ≤ b) && decide (b ≤ 60)) && (decide (0 ≤ c) && decide (c ≤ 60))) && decide (IntKind.wrap .i64 (IntKind.wrap .i64 (IntKind.wrap .i64 (1 * a) * b) * c) ≤ 60)) := by
  simp only [validS, allB_cons, allB_nil, Bool.and_true, volW, volFrom]; rfl
theorem impl_layoutOf.ok : CallSpec Try.prog impl_layoutOf.E := impl_layoutOf.ok_of (by simp [impl_layoutOf.X]) fun sh h => by
  refine ⟨5, ?_⟩
  rw [impl_layoutOf.e]
  match sh with
  | [] => rw [show decide (((([] : List Int).length : Nat) : Int) > 3) = false from rfl, cond_false, impl_layoutOf.last _ _ _ _ _ _ _ _ (by decide)]; rfl
  | [a] =>
    rw [show decide (((([a] : List Int).length : Nat) : Int) > 3) = false from rfl, cond_false, show IntKind.wrap .i64 ((([a] : List Int).length : Nat) - 1) = ((0 : Nat) : Int) from rfl, validS1]
    by_cases h1 : 0 ≤ a ∧ a ≤ 60
    · rw [impl_layoutOf.good _ _ _ _ a _ _ _ _ (by simp) rfl h1 (by omega), impl_layoutOf.last _ _ _ _ _ _ _ _ (by decide), rng_dec h1, Int.one_mul, wS (x := a) (by omega) (by omega)]
      simp only [strd, volW, volFrom, Int.one_mul, wS (x := a) (by omega) (by omega)]
      cases decide (a ≤ 60) <;> rfl
    · rw [impl_layoutOf.bad _ _ _ _ a _ _ _ _ (by simp) rfl h1, rng_bad h1]; rfl
  | [a, b] =>
    rw [show decide (((([a, b] : List Int).length : Nat) : Int) > 3) = false from rfl, cond_false, show IntKind.wrap .i64 ((([a, b] : List Int).length : Nat) - 1) = ((1 : Nat) : Int) from rfl, validS2]
    by_cases h1 : 0 ≤ b ∧ b ≤ 60
    case neg => rw [impl_layoutOf.bad _ _ _ _ b _ _ _ _ (by simp) rfl h1, rng_bad h1, Bool.and_false]; rfl
    rw [impl_layoutOf.good _ _ _ _ b _ _ _ _ (by simp) rfl h1 (by omega), show (((1 : Nat) : Int) - 1) = ((0 : Nat) : Int) from rfl]
    by_cases h2 : 0 ≤ a ∧ a ≤ 60
    case neg => rw [impl_layoutOf.bad _ _ _ _ a _ _ _ _ (by simp) rfl h2, rng_bad h2]; rfl
    have hm := mul60 h2.1 h2.2 h1.1 h1.2
    rw [impl_layoutOf.good _ _ _ _ a _ _ _ _ (by simp) rfl h2 (by omega), impl_layoutOf.last _ _ _ _ _ _ _ _ (by decide), rng_dec h1, rng_dec h2, Int.one_mul, Int.one_mul, wS (x := a) (by omega) (by omega), wS (x := b) (by omega) (by omega), Int.mul_comm b a, wS (x := a * b) (by omega) (by omega)]
    simp only [strd, volW, volFrom, Int.one_mul, wS (x := a) (by omega) (by omega), wS (x := b) (by omega) (by omega), wS (x := a * b) (by omega) (by omega), List.drop_succ_cons, List.drop_zero]
    cases decide (a * b ≤ 60) <;> rfl
  | [a, b, c] =>
    rw [show decide (((([a, b, c] : List Int).length : Nat) : Int) > 3) = false from rfl, cond_false, show IntKind.wrap .i64 ((([a, b, c] : List Int).length : Nat) - 1) = ((2 : Nat) : Int) from rfl, validS3]
    by_cases h0 : 0 ≤ c ∧ c ≤ 60
    case neg => rw [impl_layoutOf.bad _ _ _ _ c _ _ _ _ (by simp) rfl h0, rng_bad h0, Bool.and_false, Bool.and_false]; rfl
    rw [impl_layoutOf.good _ _ _ _ c _ _ _ _ (by simp) rfl h0 (by omega), show (((2 : Nat) : Int) - 1) = ((1 : Nat) : Int) from rfl]
    by_cases h1 : 0 ≤ b ∧ b ≤ 60
    case neg => rw [impl_layoutOf.bad _ _ _ _ b _ _ _ _ (by simp) rfl h1, rng_bad h1, Bool.false_and, Bool.and_false]; rfl
    rw [impl_layoutOf.good _ _ _ _ b _ _ _ _ (by simp) rfl h1 (by omega), show (((1 : Nat) : Int) - 1) = ((0 : Nat) : Int) from rfl]
    by_cases h2 : 0 ≤ a ∧ a ≤ 60
    case neg => rw [impl_layoutOf.bad _ _ _ _ a _ _ _ _ (by simp) rfl h2, rng_bad h2]; rfl
    have hm := mul60 h2.1 h2.2 h1.1 h1.2
    have hm1 := mul60 h1.1 h1.2 h0.1 h0.2
    have hm3 := mul3600 hm.1 hm.2 h0.1 h0.2
    have hc : b * c * a = a * b * c := by rw [Int.mul_comm (b * c) a, Int.mul_assoc]
    rw [impl_layoutOf.good _ _ _ _ a _ _ _ _ (by simp) rfl h2 (by omega), impl_layoutOf.last _ _ _ _ _ _ _ _ (by decide), rng_dec h0, rng_dec h1, rng_dec h2, Int.one_mul, Int.one_mul, wS (x := a) (by omega) (by omega), wS (x := c) (by omega) (by omega), Int.mul_comm c b, wS (x := a * b) (by omega) (by omega), wS (x := b * c) (by omega) (by omega), hc, wS (x := a * b * c) (by omega) (by omega)]
    simp only [strd, volW, volFrom, Int.one_mul, wS (x := a) (by omega) (by omega), wS (x := b) (by omega) (by omega), wS (x := c) (by omega) (by omega), wS (x := a * b) (by omega) (by omega), wS (x := b * c) (by omega) (by omega), wS (x := a * b * c) (by omega) (by omega), List.drop_succ_cons, List.drop_zero]
    cases decide (a * b * c ≤ 60) <;> rfl
  | a :: b :: c :: d :: t =>
    have h1 : ((((a :: b :: c :: d :: t).length : Nat) : Int) > 3) := by simp; omega
    have h2 : ¬ ((((a :: b :: c :: d :: t).length : Nat) : Int) ≤ 3) := by omega
    have h3 : validS (a :: b :: c :: d :: t) = false := by unfold validS; rw [decide_eq_false h2]; rfl
    rw [decide_eq_true h1, h3]
    rfl

namespace impl_isNumber
noncomputable def E : Entry := ⟨51, true, false, fun | [.d (.int .i64 v)] => true | _ => false, fun | [.d (.int .i64 v)] => ([.one ((.bool (numB v)), false)], []) | _ => ([], []), fun _ => [], false, fun _ => none⟩
end impl_isNumber
namespace impl_isNumber
noncomputable def X : List Entry := []
noncomputable def I : List Inl := [⟨51, Try.f51, ⟨[], [], [], [], [], []⟩⟩]
theorem I_ok : ∀ i ∈ I, Try.prog.funcs[i.f]? = some i.fn ∧ (i.fn.name == "runtime.NumGoroutine") = false := by
  intro i hi
  simp only [I, List.mem_cons, List.not_mem_nil, or_false] at hi
  subst hi
  exact ⟨by kernel_rfl, by kernel_rfl⟩
theorem e (fuel : Nat) (p0 : Int) : runF Try.prog X I 0 fuel 51 Try.f51 [.d (.int .i64 p0)] =
  (bif (decide (((-1000000) : Int) ≤ p0)) then
  some ([.one ((.bool (decide ((p0 : Int) ≤ 1000000))), false)], [])
  else
  some ([.one ((.bool false), false)], [])) := by kernel_rfl
end impl_isNumber
theorem impl_isNumber.ok_of (hX : ∀ E ∈ impl_isNumber.X, CallSpec Try.prog E) (h : ∀ (v : Int), (true) = true → ∃ fuel, runF Try.prog impl_isNumber.X impl_isNumber.I 0 fuel 51 Try.f51 [.d (.int .i64 v)] = some ([.one ((.bool (numB v)), false)], [])) : CallSpec Try.prog impl_isNumber.E :=
  callSpec_of (d := 0) hX (by kernel_rfl) impl_isNumber.I_ok (by kernel_rfl) (by kernel_rfl) (by kernel_rfl) (fun _ _ _ _ h => by dsimp only [impl_isNumber.E] at h; cases h) (fun xs hp => by
    dsimp only [impl_isNumber.E] at hp ⊢
    split at hp
    · exact h _ hp
    · cases hp)
theorem impl_isNumber.ok : CallSpec Try.prog impl_isNumber.E := impl_isNumber.ok_of (by simp [impl_isNumber.X]) fun v _ => ⟨0, by
  rw [impl_isNumber.e]
  unfold numB
  cases decide (-1000000 ≤ v) <;> rfl⟩

namespace impl_ValidArray
noncomputable def E : Entry := ⟨24, true, false, fun | [.d (.agg [(.ints .i64 sh), (.ints .i64 da)])] => decide (sh.length < 9223372036854775808) && decide (da.length < 9223372036854775808) | _ => false, fun | [.d (.agg [(.ints .i64 sh), (.ints .i64 da)])] => ([.one ((.bool (validA sh da)), false)], []) | _ => ([], []), fun _ => [], false, fun _ => none⟩
end impl_ValidArray
namespace impl_ValidArray
noncomputable def X : List Entry := [impl_layoutOf.E, impl_isNumber.E]
noncomputable def I : List Inl := [⟨24, Try.f24, ⟨[10], [(1000005, [0, 1, 2, 3, 4, 5, 6, 7, 8, 9, 10, 11, 12, 13, 14, 15, 16, 17, 18, 19, 20, 21, 22, 23, 27, 28, 29, 30, 31, 32, 33])], [], [], [], []⟩⟩]
theorem I_ok : ∀ i ∈ I, Try.prog.funcs[i.f]? = some i.fn ∧ (i.fn.name == "runtime.NumGoroutine") = false := by
  intro i hi
  simp only [I, List.mem_cons, List.not_mem_nil, or_false] at hi
  subst hi
  exact ⟨by kernel_rfl, by kernel_rfl⟩
noncomputable abbrev L0 (fuel n : Nat) (s : St) (k : Kont) := lAt Try.prog X I fuel true 0 false 24 (bodyOf Try.f24) [1, 1, 1, 0, 1, 0] n s k
noncomputable abbrev k0  (fuel : Nat) : Kont := (kAt Try.prog X I fuel true 0 false 24 (bodyOf Try.f24) [1, 1, 1, 0, 1, 0] [] (endK Try.prog Try.f24))
noncomputable def t0 (p0q1 : List Int) (x0q2 : Int) : St := ⟨[.dead, .dead, .dead, .dead, .dead, .dead, .dead, .dead, .dead, .dead, .dead, .dead, .dead, .dead, .dead, .dead, .dead, .dead, .dead, .dead, .dead, .dead, .dead, .dead, (.imm (.ints .i64 p0q1)), (.imm (.int .i64 ((p0q1.length : Nat) : Int))), (.imm (.int .i64 x0q2)), .dead, .dead, .dead, .dead, .dead, .dead, .dead], hOf [], [], []⟩
theorem e (fuel : Nat) (p0q0 : List Int) (p0q1 : List Int) : runF Try.prog X I 0 fuel 24 Try.f24 [.d (.agg [(.ints .i64 p0q0), (.ints .i64 p0q1)])] =
  (bif decide (p0q0.length < 9223372036854775808) then
  (bif validS p0q0 then
  (bif ((((p0q1.length : Nat) : Int) : Int) != (volW p0q0)) then
  some ([.one ((.bool false), false)], [])
  else
  L0 fuel fuel (t0 p0q1 0) (k0  fuel))
  else
  some ([.one ((.bool false), false)], []))
  else
  none) := by kernel_rfl
theorem s0 (fuel n0 : Nat) (p0q1 : List Int) (x0q2 : Int) : L0 fuel (n0 + 1) (t0 p0q1 x0q2) (k0  fuel) =
  (bif (decide ((x0q2 : Int) < ((p0q1.length : Nat) : Int))) then
  (idx x0q2 p0q1.length).bind fun j5 =>
  (p0q1[j5]?).bind fun v6 =>
  (bif (!(numB v6)) then
  some ([.one ((.bool false), false)], [])
  else
  L0 fuel n0 (t0 p0q1 ((IntKind.wrap .i64 (x0q2 + 1)))) (k0  fuel))
  else
  some ([.one ((.bool true), false)], [])) := by kernel_rfl
end impl_ValidArray
theorem impl_ValidArray.ok_of (hX : ∀ E ∈ impl_ValidArray.X, CallSpec Try.prog E) (h : ∀ (sh : List Int) (da : List Int), (decide (sh.length < 9223372036854775808) && decide (da.length < 9223372036854775808)) = true → ∃ fuel, runF Try.prog impl_ValidArray.X impl_ValidArray.I 0 fuel 24 Try.f24 [.d (.agg [(.ints .i64 sh), (.ints .i64 da)])] = some ([.one ((.bool (validA sh da)), false)], [])) : CallSpec Try.prog impl_ValidArray.E :=
  callSpec_of (d := 0) hX (by kernel_rfl) impl_ValidArray.I_ok (by kernel_rfl) (by kernel_rfl) (by kernel_rfl) (fun _ _ _ _ h => by dsimp only [impl_ValidArray.E] at h; cases h) (fun xs hp => by
    dsimp only [impl_ValidArray.E] at hp ⊢
    split at hp
    · exact h _ _ hp
    · cases hp)
theorem impl_ValidArray.loop (fuel : Nat) (xs : List Int) (hx : xs.length < 9223372036854775808) : ∀ (m n j : Nat), xs.length - j = m → m < n → j ≤ xs.length →
    impl_ValidArray.L0 fuel n (impl_ValidArray.t0 xs (j : Int)) (impl_ValidArray.k0 fuel) = some ([.one (.bool (allB (xs.drop j) (-1000000) 1000000), false)], []) := by
  intro m
  induction m with
  | zero =>
    intro n j h1 h2 h3
    obtain ⟨n, rfl⟩ : ∃ n', n = n' + 1 := ⟨n - 1, by omega⟩
    have hj : ¬ j < xs.length := by omega
    rw [impl_ValidArray.s0, dge hj, dropE hj]
    rfl
  | succ m ih =>
    intro n j h1 h2 h3
    obtain ⟨n, rfl⟩ : ∃ n', n = n' + 1 := ⟨n - 1, by omega⟩
    have hj : j < xs.length := by omega
    rw [impl_ValidArray.s0, dlt hj, idx_nat hj, w1 (by omega), dropS hj]
    simp only [cond_true, Option.bind_some, getS hj, allB_cons, numB_eq]
    rw [ih n (j + 1) (by omega) (by omega) (by omega)]
    cases decide (-1000000 ≤ xs[j]) && decide (xs[j] ≤ 1000000) <;> rfl

theorem impl_ValidArray.ok : CallSpec Try.prog impl_ValidArray.E := impl_ValidArray.ok_of (by simp [impl_ValidArray.X, impl_layoutOf.ok, impl_isNumber.ok]) fun sh da h => by
  simp only [Bool.and_eq_true, decide_eq_true_eq] at h
  refine ⟨da.length + 1, ?_⟩
  rw [impl_ValidArray.e, lt_of h.1]
  have := impl_ValidArray.loop (da.length + 1) da h.2 da.length (da.length + 1) 0 (by omega) (by omega) (by omega)
  simp only [cond_true, List.drop_zero] at this ⊢
  rw [show ((0 : Nat) : Int) = 0 from rfl] at this
  rw [this]
  unfold validA
  cases validS sh
  · rfl
  · cases hb : (((da.length : Nat) : Int) == volW sh) with
    | true => simp [bne, hb]
    | false => simp [bne, hb]

namespace impl_isVector
noncomputable def E : Entry := ⟨36, true, false, fun | [.d (.agg [(.ints .i64 sh), (.ints .i64 da)])] => decide (sh.length < 9223372036854775808) && decide (da.length < 9223372036854775808) | _ => false, fun | [.d (.agg [(.ints .i64 sh), (.ints .i64 da)])] => ([.one ((.bool (vcB sh da)), false)], []) | _ => ([], []), fun _ => [], false, fun _ => none⟩
end impl_isVector
namespace impl_isVector
noncomputable def X : List Entry := [impl_ValidArray.E]
noncomputable def I : List Inl := [⟨36, Try.f36, ⟨[], [], [], [], [], []⟩⟩]
theorem I_ok : ∀ i ∈ I, Try.prog.funcs[i.f]? = some i.fn ∧ (i.fn.name == "runtime.NumGoroutine") = false := by
  intro i hi
  simp only [I, List.mem_cons, List.not_mem_nil, or_false] at hi
  subst hi
  exact ⟨by kernel_rfl, by kernel_rfl⟩
theorem e (fuel : Nat) (p0q0 : List Int) (p0q1 : List Int) : runF Try.prog X I 0 fuel 36 Try.f36 [.d (.agg [(.ints .i64 p0q0), (.ints .i64 p0q1)])] =
  (bif decide (p0q0.length < 9223372036854775808) && decide (p0q1.length < 9223372036854775808) then
  (bif (validA p0q0 p0q1) then
  some ([.one ((.bool ((((p0q0.length : Nat) : Int) : Int) == 1)), false)], [])
  else
  some ([.one ((.bool false), false)], []))
  else
  none) := by kernel_rfl
end impl_isVector
theorem impl_isVector.ok_of (hX : ∀ E ∈ impl_isVector.X, CallSpec Try.prog E) (h : ∀ (sh : List Int) (da : List Int), (decide (sh.length < 9223372036854775808) && decide (da.length < 9223372036854775808)) = true → ∃ fuel, runF Try.prog impl_isVector.X impl_isVector.I 0 fuel 36 Try.f36 [.d (.agg [(.ints .i64 sh), (.ints .i64 da)])] = some ([.one ((.bool (vcB sh da)), false)], [])) : CallSpec Try.prog impl_isVector.E :=
  callSpec_of (d := 0) hX (by kernel_rfl) impl_isVector.I_ok (by kernel_rfl) (by kernel_rfl) (by kernel_rfl) (fun _ _ _ _ h => by dsimp only [impl_isVector.E] at h; cases h) (fun xs hp => by
    dsimp only [impl_isVector.E] at hp ⊢
    split at hp
    · exact h _ _ hp
    · cases hp)
theorem impl_isVector.ok : CallSpec Try.prog impl_isVector.E := impl_isVector.ok_of (by simp [impl_isVector.X, impl_ValidArray.ok]) fun sh da h => ⟨0, by
  rw [impl_isVector.e, h]
  unfold vcB
  cases validA sh da with
  | false => rfl
  | true =>
    rw [show ((((sh.length : Nat) : Int)) == 1) = decide (sh.length = 1) by by_cases h : sh.length = 1 <;> simp [h]; omega]
    rfl⟩

namespace cmp_isNaN_int
noncomputable def E : Entry := ⟨59, true, false, fun | [.d (.int .i64 x)] => true | _ => false, fun | [.d (.int .i64 x)] => ([.one ((.bool false), false)], []) | _ => ([], []), fun _ => [], false, fun _ => none⟩
end cmp_isNaN_int
namespace cmp_isNaN_int
noncomputable def X : List Entry := []
noncomputable def I : List Inl := [⟨59, Try.f59, ⟨[], [], [], [], [], []⟩⟩]
theorem I_ok : ∀ i ∈ I, Try.prog.funcs[i.f]? = some i.fn ∧ (i.fn.name == "runtime.NumGoroutine") = false := by
  intro i hi
  simp only [I, List.mem_cons, List.not_mem_nil, or_false] at hi
  subst hi
  exact ⟨by kernel_rfl, by kernel_rfl⟩
theorem e (fuel : Nat) (p0 : Int) : runF Try.prog X I 0 fuel 59 Try.f59 [.d (.int .i64 p0)] =
  some ([.one ((.bool ((p0 : Int) != p0)), false)], []) := by kernel_rfl
end cmp_isNaN_int
theorem cmp_isNaN_int.ok_of (hX : ∀ E ∈ cmp_isNaN_int.X, CallSpec Try.prog E) (h : ∀ (x : Int), (true) = true → ∃ fuel, runF Try.prog cmp_isNaN_int.X cmp_isNaN_int.I 0 fuel 59 Try.f59 [.d (.int .i64 x)] = some ([.one ((.bool false), false)], [])) : CallSpec Try.prog cmp_isNaN_int.E :=
  callSpec_of (d := 0) hX (by kernel_rfl) cmp_isNaN_int.I_ok (by kernel_rfl) (by kernel_rfl) (by kernel_rfl) (fun _ _ _ _ h => by dsimp only [cmp_isNaN_int.E] at h; cases h) (fun xs hp => by
    dsimp only [cmp_isNaN_int.E] at hp ⊢
    split at hp
    · exact h _ hp
    · cases hp)
theorem cmp_isNaN_int.ok : CallSpec Try.prog cmp_isNaN_int.E := cmp_isNaN_int.ok_of (by simp [cmp_isNaN_int.X]) fun x _ => ⟨0, by rw [cmp_isNaN_int.e, bne_self_eq_false]⟩

namespace cmp_Compare_int
noncomputable def E : Entry := ⟨45, true, false, fun | [.d (.int .i64 x), .d (.int .i64 y)] => true | _ => false, fun | [.d (.int .i64 x), .d (.int .i64 y)] => ([.one ((.int .i64 (cmpV x y)), false)], []) | _ => ([], []), fun _ => [], false, fun _ => none⟩
end cmp_Compare_int
namespace cmp_Compare_int
noncomputable def X : List Entry := [cmp_isNaN_int.E]
noncomputable def I : List Inl := [⟨45, Try.f45, ⟨[], [], [], [], [], []⟩⟩]
theorem I_ok : ∀ i ∈ I, Try.prog.funcs[i.f]? = some i.fn ∧ (i.fn.name == "runtime.NumGoroutine") = false := by
  intro i hi
  simp only [I, List.mem_cons, List.not_mem_nil, or_false] at hi
  subst hi
  exact ⟨by kernel_rfl, by kernel_rfl⟩
theorem e (fuel : Nat) (p0 : Int) (p1 : Int) : runF Try.prog X I 0 fuel 45 Try.f45 [.d (.int .i64 p0), .d (.int .i64 p1)] =
  (bif (decide ((p0 : Int) < p1)) then
  some ([.one ((.int .i64 (-1)), false)], [])
  else
  (bif (decide ((p0 : Int) > p1)) then
  some ([.one ((.int .i64 1), false)], [])
  else
  some ([.one ((.int .i64 0), false)], []))) := by kernel_rfl
end cmp_Compare_int
theorem cmp_Compare_int.ok_of (hX : ∀ E ∈ cmp_Compare_int.X, CallSpec Try.prog E) (h : ∀ (x : Int) (y : Int), (true) = true → ∃ fuel, runF Try.prog cmp_Compare_int.X cmp_Compare_int.I 0 fuel 45 Try.f45 [.d (.int .i64 x), .d (.int .i64 y)] = some ([.one ((.int .i64 (cmpV x y)), false)], [])) : CallSpec Try.prog cmp_Compare_int.E :=
  callSpec_of (d := 0) hX (by kernel_rfl) cmp_Compare_int.I_ok (by kernel_rfl) (by kernel_rfl) (by kernel_rfl) (fun _ _ _ _ h => by dsimp only [cmp_Compare_int.E] at h; cases h) (fun xs hp => by
    dsimp only [cmp_Compare_int.E] at hp ⊢
    split at hp
    · exact h _ _ hp
    · cases hp)
theorem cmp_Compare_int.ok : CallSpec Try.prog cmp_Compare_int.E := cmp_Compare_int.ok_of (by simp [cmp_Compare_int.X, cmp_isNaN_int.ok]) fun x y _ => ⟨0, by
  rw [cmp_Compare_int.e]
  unfold cmpV
  cases decide (x < y) <;> cases decide (x > y) <;> rfl⟩

namespace impl_GradeUp_1
noncomputable def E : Entry := ⟨44, true, false, fun | [.d (.int .i64 i), .d (.int .i64 j), .d (.pbox [(.ints .i64 sh), (.ints .i64 da)])] => gdB da i j | _ => false, fun | [.d (.int .i64 i), .d (.int .i64 j), .d (.pbox [(.ints .i64 sh), (.ints .i64 da)])] => ([.one ((.int .i64 (gdC da i j)), false)], []) | _ => ([], []), fun _ => [], false, fun | [(.pbox [(.ints .i64 sh), (.ints .i64 da)])] => some (false, (gdQ da), (q2v (gdC da))) | _ => none⟩
end impl_GradeUp_1
namespace impl_GradeUp_1
noncomputable def X : List Entry := [cmp_Compare_int.E]
noncomputable def I : List Inl := [⟨44, Try.f44, ⟨[], [], [], [(1, [0, 2, 5, 7, 1, 3, 4, 6, 8, 9, 10, 11])], [], []⟩⟩]
theorem I_ok : ∀ i ∈ I, Try.prog.funcs[i.f]? = some i.fn ∧ (i.fn.name == "runtime.NumGoroutine") = false := by
  intro i hi
  simp only [I, List.mem_cons, List.not_mem_nil, or_false] at hi
  subst hi
  exact ⟨by kernel_rfl, by kernel_rfl⟩
theorem e (fuel : Nat) (p0 : Int) (p1 : Int) (f0q0 : List Int) (f0q1 : List Int) : runF Try.prog X I 0 fuel 44 Try.f44 [.d (.int .i64 p0), .d (.int .i64 p1), .d (.pbox [(.ints .i64 f0q0), (.ints .i64 f0q1)])] =
  (idx p0 f0q1.length).bind fun j1 =>
  (f0q1[j1]?).bind fun v2 =>
  (idx p1 f0q1.length).bind fun j3 =>
  (f0q1[j3]?).bind fun v4 =>
  some ([.one ((.int .i64 (cmpV v2 v4)), false)], []) := by kernel_rfl
end impl_GradeUp_1
theorem impl_GradeUp_1.ok_of (hX : ∀ E ∈ impl_GradeUp_1.X, CallSpec Try.prog E) (hfn : ∀ ds rb dom G, impl_GradeUp_1.E.fnOf ds = some (rb, dom, G) → ∀ qs, dom qs = true → impl_GradeUp_1.E.m ((qs.map fun q => .d q.d) ++ ds.map .d) = some ([.one (fnD rb (G qs), false)], [])) (h : ∀ (i : Int) (j : Int) (sh : List Int) (da : List Int), (gdB da i j) = true → ∃ fuel, runF Try.prog impl_GradeUp_1.X impl_GradeUp_1.I 0 fuel 44 Try.f44 [.d (.int .i64 i), .d (.int .i64 j), .d (.pbox [(.ints .i64 sh), (.ints .i64 da)])] = some ([.one ((.int .i64 (gdC da i j)), false)], [])) : CallSpec Try.prog impl_GradeUp_1.E :=
  callSpec_of (d := 0) hX (by kernel_rfl) impl_GradeUp_1.I_ok (by kernel_rfl) (by kernel_rfl) (by kernel_rfl) hfn (fun xs hp => by
    dsimp only [impl_GradeUp_1.E] at hp ⊢
    split at hp
    · exact h _ _ _ _ hp
    · cases hp)
theorem impl_GradeUp_1.ok : CallSpec Try.prog impl_GradeUp_1.E := impl_GradeUp_1.ok_of (by simp [impl_GradeUp_1.X, cmp_Compare_int.ok]) (fun ds rb dom G h qs hq => by
  dsimp only [impl_GradeUp_1.E] at h
  split at h
  case h_2 => cases h
  cases h
  match qs, hq with
  | [.i i, .i j], hq =>
    simp only [gdQ] at hq
    simp only [impl_GradeUp_1.E, Entry.m, List.map, List.cons_append, List.nil_append, Q.d, hq, cond_true, if_true]
    rfl) fun i j sh da h => ⟨0, by
  simp only [gdB, Bool.and_eq_true, decide_eq_true_eq] at h
  obtain ⟨p, rfl⟩ : ∃ p : Nat, i = p := ⟨i.toNat, by omega⟩
  obtain ⟨q, rfl⟩ : ∃ q : Nat, j = q := ⟨j.toNat, by omega⟩
  have hp : p < da.length := by omega
  have hq : q < da.length := by omega
  rw [impl_GradeUp_1.e, idx_nat hp, idx_nat hq]
  simp only [Option.bind_some, getD_get hp, getD_get hq, gdC, Int.toNat_natCast]⟩

namespace slices_insertionSortCmpFunc_int
noncomputable def E : Entry := ⟨67, false, true, fun | [.rows true [(.i64, xs)], .d (.int .i64 a), .d (.int .i64 b), .d (.fn false dom G)] => decide ((xs : List Int).length ≤ 60) && domA dom xs && decide (0 ≤ a) && decide (a ≤ b) && decide (b ≤ (((xs : List Int).length : Nat) : Int)) | _ => false, fun | [.rows true [(.i64, xs)], .d (.int .i64 a), .d (.int .i64 b), .d (.fn false dom G)] => ([], [[(.ints .i64 (isW G a.toNat (b - a).toNat xs))]]) | _ => ([], []), fun _ => [], false, fun _ => none⟩
end slices_insertionSortCmpFunc_int
namespace slices_insertionSortCmpFunc_int
noncomputable def X : List Entry := []
noncomputable def I : List Inl := [⟨67, Try.f67, ⟨[], [(1000001, [4, 5, 6, 7, 9, 10, 11, 12, 13, 14, 15, 16, 17, 18, 19, 20, 21, 22, 23, 24, 25, 26, 27, 28, 29, 30, 31, 32, 33, 34, 35, 36, 37, 38, 39, 40, 41, 42, 43, 44, 45, 46, 47, 48, 49, 50, 51, 52]), (1000004, [4, 5, 6, 7, 10, 11, 12, 13, 14, 15, 16, 17, 18, 19, 20, 21, 22, 23, 24, 25, 26, 27, 28, 29, 30, 31, 32, 33, 34, 35, 36, 37, 38, 39, 40, 41, 42, 43, 44, 45, 46, 47, 48, 49, 50, 51, 52])], [], [(4, [0, 1, 2, 3, 4, 5, 6, 9, 10, 11, 7, 8, 12, 13, 14, 15, 16]), (6, [0, 1, 2, 3, 4, 5, 6, 7, 10, 11, 8, 9, 12, 13, 14, 15, 16, 17])], [], []⟩⟩]
theorem I_ok : ∀ i ∈ I, Try.prog.funcs[i.f]? = some i.fn ∧ (i.fn.name == "runtime.NumGoroutine") = false := by
  intro i hi
  simp only [I, List.mem_cons, List.not_mem_nil, or_false] at hi
  subst hi
  exact ⟨by kernel_rfl, by kernel_rfl⟩
noncomputable abbrev L0 (fuel n : Nat) (s : St) (k : Kont) := lAt Try.prog X I fuel false 0 false 67 (bodyOf Try.f67) [1, 0] n s k
noncomputable abbrev k0  (fuel : Nat) : Kont := (kAt Try.prog X I fuel false 0 false 67 (bodyOf Try.f67) [1, 0] [] (endK Try.prog Try.f67))
noncomputable def t0 (p1 : Int) (p2 : Int) (p3d : List Q → Bool) (p3g : List Q → Int) (x0q4 : Int) (x0q5 : List Int) : St := ⟨[(.all 1000000000 1), (.imm (.int .i64 p1)), (.imm (.int .i64 p2)), (.imm (.fn false p3d p3g)), .dead, .dead, .dead, .dead, (.imm (.int .i64 x0q4)), .dead, .dead, .dead, .dead, .dead, .dead, .dead, .dead, .dead, .dead, .dead, .dead, .dead, .dead, .dead, .dead, .dead, .dead, .dead, .dead, .dead, .dead, .dead, .dead, .dead, .dead, .dead, .dead, .dead, .dead, .dead, .dead, .dead, .dead, .dead, .dead, .dead, .dead, .dead, .dead, .dead, .dead, .dead, .dead], hOf [(1000000000, (.ints .i64 x0q5))], [(.all 1000000000 1)], []⟩
noncomputable abbrev L1 (fuel n : Nat) (s : St) (k : Kont) := lAt Try.prog X I fuel false 0 false 67 (bodyOf Try.f67) [1, 0, 0, 1, 0, 0, 1, 0] n s k
noncomputable abbrev k1 (n0 : Nat) (fuel : Nat) : Kont := (kAt Try.prog X I fuel false 0 false 67 (bodyOf Try.f67) [1, 0, 0, 1, 0, 0, 1, 0] [n0] (endK Try.prog Try.f67))
noncomputable def t1 (p1 : Int) (p2 : Int) (p3d : List Q → Bool) (p3g : List Q → Int) (x0q4 : Int) (x1q5 : Int) (x1q6 : List Int) : St := ⟨[(.all 1000000000 1), (.imm (.int .i64 p1)), (.imm (.int .i64 p2)), (.imm (.fn false p3d p3g)), .dead, .dead, .dead, .dead, (.imm (.int .i64 x0q4)), (.imm (.int .i64 x1q5)), .dead, .dead, .dead, .dead, .dead, .dead, .dead, .dead, .dead, .dead, .dead, .dead, .dead, .dead, .dead, .dead, .dead, .dead, .dead, .dead, .dead, .dead, .dead, .dead, .dead, .dead, .dead, .dead, .dead, .dead, .dead, .dead, .dead, .dead, .dead, .dead, .dead, .dead, .dead, .dead, .dead, .dead, .dead], hOf [(1000000000, (.ints .i64 x1q6))], [(.all 1000000000 1)], []⟩
theorem e (fuel : Nat) (p0 : List Int) (p1 : Int) (p2 : Int) (p3d : List Q → Bool) (p3g : List Q → Int) : runF Try.prog X I 0 fuel 67 Try.f67 [.rows true [(.i64, p0)], .d (.int .i64 p1), .d (.int .i64 p2), .d (.fn false p3d p3g)] =
  L0 fuel fuel (t0 p1 p2 p3d p3g ((IntKind.wrap .i64 (p1 + 1))) p0) (k0  fuel) := by kernel_rfl
theorem s0 (fuel n0 : Nat) (p1 : Int) (p2 : Int) (p3d : List Q → Bool) (p3g : List Q → Int) (x0q4 : Int) (x0q5 : List Int) : L0 fuel (n0 + 1) (t0 p1 p2 p3d p3g x0q4 x0q5) (k0  fuel) =
  (bif (decide ((x0q4 : Int) < p2)) then
  L1 fuel fuel (t1 p1 p2 p3d p3g x0q4 x0q4 x0q5) (k1 n0 fuel)
  else
  some ([], [[(.ints .i64 x0q5)]])) := by kernel_rfl
theorem s1 (fuel n0 n1 : Nat) (p1 : Int) (p2 : Int) (p3d : List Q → Bool) (p3g : List Q → Int) (x0q4 : Int) (x1q5 : Int) (x1q6 : List Int) : L1 fuel (n1 + 1) (t1 p1 p2 p3d p3g x0q4 x1q5 x1q6) (k1 n0 fuel) =
  (bif (decide ((x1q5 : Int) > p1)) then
  (idx x1q5 x1q6.length).bind fun j61 =>
  (x1q6[j61]?).bind fun v62 =>
  (idx (IntKind.wrap .i64 (x1q5 - 1)) x1q6.length).bind fun j63 =>
  (x1q6[j63]?).bind fun v64 =>
  (bif (p3d [Q.i v62, Q.i v64]) then
  (bif (decide (((p3g [Q.i v62, Q.i v64]) : Int) < 0)) then
  (idx (IntKind.wrap .i64 (x1q5 - 1)) x1q6.length).bind fun j65 =>
  (x1q6[j65]?).bind fun v66 =>
  (idx x1q5 x1q6.length).bind fun j67 =>
  (x1q6[j67]?).bind fun v68 =>
  (idx x1q5 x1q6.length).bind fun j69 =>
  (bif decide (j69 < x1q6.length) then
  (idx (IntKind.wrap .i64 (x1q5 - 1)) (x1q6.set j69 v66).length).bind fun j70 =>
  (bif decide (j70 < (x1q6.set j69 v66).length) then
  L1 fuel n1 (t1 p1 p2 p3d p3g x0q4 ((IntKind.wrap .i64 (x1q5 - 1))) (((x1q6.set j69 v66).set j70 v68))) (k1 n0 fuel)
  else
  none)
  else
  none)
  else
  L0 fuel n0 (t0 p1 p2 p3d p3g ((IntKind.wrap .i64 (x0q4 + 1))) x1q6) (k0  fuel))
  else
  none)
  else
  L0 fuel n0 (t0 p1 p2 p3d p3g ((IntKind.wrap .i64 (x0q4 + 1))) x1q6) (k0  fuel)) := by kernel_rfl
end slices_insertionSortCmpFunc_int
theorem slices_insertionSortCmpFunc_int.ok_of (hX : ∀ E ∈ slices_insertionSortCmpFunc_int.X, CallSpec Try.prog E) (h : ∀ (xs : List Int) (a : Int) (b : Int) (dom : List Q → Bool) (G : List Q → Int), (decide ((xs : List Int).length ≤ 60) && domA dom xs && decide (0 ≤ a) && decide (a ≤ b) && decide (b ≤ (((xs : List Int).length : Nat) : Int))) = true → ∃ fuel, runF Try.prog slices_insertionSortCmpFunc_int.X slices_insertionSortCmpFunc_int.I 0 fuel 67 Try.f67 [.rows true [(.i64, xs)], .d (.int .i64 a), .d (.int .i64 b), .d (.fn false dom G)] = some ([], [[(.ints .i64 (isW G a.toNat (b - a).toNat xs))]])) : CallSpec Try.prog slices_insertionSortCmpFunc_int.E :=
  callSpec_of (d := 0) hX (by kernel_rfl) slices_insertionSortCmpFunc_int.I_ok (by kernel_rfl) (by kernel_rfl) (by kernel_rfl) (fun _ _ _ _ h => by dsimp only [slices_insertionSortCmpFunc_int.E] at h; cases h) (fun xs hp => by
    dsimp only [slices_insertionSortCmpFunc_int.E] at hp ⊢
    split at hp
    · exact h _ _ _ _ _ hp
    · cases hp)
theorem slices_insertionSortCmpFunc_int.inner (fuel n0 : Nat) (a b : Nat) (dom : List Q → Bool) (G : List Q → Int) (i : Int) : ∀ (k n : Nat) (xs : List Int), k < n → a + k < xs.length → xs.length ≤ 60 → domA dom xs = true →
    slices_insertionSortCmpFunc_int.L1 fuel n (slices_insertionSortCmpFunc_int.t1 (a : Int) (b : Int) dom G i ((a + k : Nat) : Int) xs) (slices_insertionSortCmpFunc_int.k1 n0 fuel) = slices_insertionSortCmpFunc_int.L0 fuel n0 (slices_insertionSortCmpFunc_int.t0 (a : Int) (b : Int) dom G (IntKind.wrap .i64 (i + 1)) (bubA (ltG G) a k xs)) (slices_insertionSortCmpFunc_int.k0 fuel) := by
  intro k
  induction k with
  | zero =>
    intro n xs h1 h2 h3 h4
    obtain ⟨n, rfl⟩ : ∃ n', n = n' + 1 := ⟨n - 1, by omega⟩
    rw [slices_insertionSortCmpFunc_int.s1, decide_eq_false (by omega)]
    rfl
  | succ k ih =>
    intro n xs h1 h2 h3 h4
    obtain ⟨n, rfl⟩ : ∃ n', n = n' + 1 := ⟨n - 1, by omega⟩
    have e1 : IntKind.wrap .i64 (((a + (k + 1) : Nat) : Int) - 1) = ((a + k : Nat) : Int) := by rw [wS (by omega) (by omega)]; omega
    have hd := domA_get h4 (mem_getD (A := xs) (n := a + (k + 1)) h2) (mem_getD (A := xs) (n := a + k) (by omega))
    rw [slices_insertionSortCmpFunc_int.s1, decide_eq_true (by omega), cond_true, e1, idx_nat h2, idx_nat (show a + k < xs.length by omega)]
    simp only [Option.bind_some, getD_get h2, getD_get (show a + k < xs.length by omega), hd, cond_true]
    rw [decide_eq_true h2, cond_true, List.length_set, idx_nat (show a + k < xs.length by omega)]
    simp only [Option.bind_some, List.length_set]
    rw [decide_eq_true (show a + k < xs.length by omega), cond_true]
    simp only [bubA]
    rw [show ltG G (xs.getD (a + k + 1) 0) (xs.getD (a + k) 0) = decide (G [Q.i (xs.getD (a + (k + 1)) 0), Q.i (xs.getD (a + k) 0)] < 0) from rfl]
    cases decide (G [Q.i (xs.getD (a + (k + 1)) 0), Q.i (xs.getD (a + k) 0)] < 0) with
    | false => rfl
    | true =>
      simp only [cond_true]
      refine ih n _ (by omega) (by simp only [List.length_set]; omega) (by simp only [List.length_set]; omega) (domA_sub h4 fun y hy => ?_)
      rcases List.mem_or_eq_of_mem_set hy with h5 | rfl
      · rcases List.mem_or_eq_of_mem_set h5 with h6 | rfl
        · exact h6
        · exact mem_getD (by omega)
      · exact mem_getD (by omega)
theorem slices_insertionSortCmpFunc_int.ok : CallSpec Try.prog slices_insertionSortCmpFunc_int.E := slices_insertionSortCmpFunc_int.ok_of (by simp [slices_insertionSortCmpFunc_int.X]) fun xs a b dom G h => by
  obtain ⟨F, hF⟩ : ∃ F : Nat, 100 < F := ⟨101, by omega⟩
  refine ⟨F, ?_⟩
  simp only [Bool.and_eq_true, decide_eq_true_eq] at h
  obtain ⟨⟨⟨⟨h1, h2⟩, h3⟩, h4⟩, h5⟩ := h
  obtain ⟨p, rfl⟩ : ∃ p : Nat, a = p := ⟨a.toNat, by omega⟩
  obtain ⟨q, rfl⟩ : ∃ q : Nat, b = q := ⟨b.toNat, by omega⟩
  have e0 : ((q : Int) - (p : Int)).toNat = q - p := by omega
  rw [slices_insertionSortCmpFunc_int.e, w1 (by omega), e0, Int.toNat_natCast]
  unfold isW
  by_cases hz : q = p
  · subst hz
    obtain ⟨f, rfl⟩ : ∃ f, F = f + 1 := ⟨F - 1, by omega⟩
    rw [slices_insertionSortCmpFunc_int.s0, decide_eq_false (by omega), Nat.sub_self]
    rfl
  · have hl := isN_len (ltG G) p
    refine run_loop (N := q - p) (fun n i (ys : List Int) => slices_insertionSortCmpFunc_int.L0 F n (slices_insertionSortCmpFunc_int.t0 (p : Int) (q : Int) dom G ((p + i : Nat) : Int) ys) (slices_insertionSortCmpFunc_int.k0 F)) (fun i ys => ys = isN (ltG G) p i xs) ?_ ?_ F 1 xs (by omega) (by omega) rfl
    · rintro n ys rfl
      rw [slices_insertionSortCmpFunc_int.s0, decide_eq_false (by omega)]
      rfl
    · rintro n i ys hi rfl
      refine ⟨_, rfl, ?_⟩
      rw [slices_insertionSortCmpFunc_int.s0, decide_eq_true (by omega), cond_true]
      rw [slices_insertionSortCmpFunc_int.inner F n p q dom G ((p + i : Nat) : Int) i F _ (by omega) (by rw [hl]; omega) (by rw [hl]; omega) (domA_sub h2 (isN_mem _ _ _ _ (by omega))), w1 (by omega)]
      rfl

namespace slices_symMergeCmpFunc_int
noncomputable def E : Entry := ⟨68, false, true, fun | [.rows true [(.i64, xs)], .d (.int .i64 a), .d (.int .i64 m), .d (.int .i64 b), .d (.fn false dom G)] => false | _ => false, fun | [.rows true [(.i64, xs)], .d (.int .i64 a), .d (.int .i64 m), .d (.int .i64 b), .d (.fn false dom G)] => ([], [[(.ints .i64 xs)]]) | _ => ([], []), fun _ => [], false, fun _ => none⟩
end slices_symMergeCmpFunc_int
theorem slices_symMergeCmpFunc_int.ok : CallSpec Try.prog slices_symMergeCmpFunc_int.E := callSpec_of (X := []) (I := []) (d := 0) (fn := Try.f68) (by simp) (by kernel_rfl) (by simp) (by kernel_rfl) (by kernel_rfl) (by kernel_rfl) (fun _ _ _ _ h => by dsimp only [slices_symMergeCmpFunc_int.E] at h; cases h) (fun xs hp => by
    dsimp only [slices_symMergeCmpFunc_int.E] at hp
    split at hp <;> cases hp)

namespace slices_symMergeCmpFunc_int_u1
noncomputable def E : Entry := ⟨68, false, true, fun | [.rows true [(.i64, xs)], .d (.int .i64 a), .d (.int .i64 m), .d (.int .i64 b), .d (.fn false dom G)] => decide ((xs : List Int).length ≤ 60) && domA dom xs && upW G xs && decide (0 ≤ a) && decide (a < m) && decide (m < b) && decide (b ≤ (((xs : List Int).length : Nat) : Int)) && decide (b - a ≤ 2) | _ => false, fun | [.rows true [(.i64, xs)], .d (.int .i64 a), .d (.int .i64 m), .d (.int .i64 b), .d (.fn false dom G)] => ([], [[(.ints .i64 xs)]]) | _ => ([], []), fun _ => [], false, fun _ => none⟩
end slices_symMergeCmpFunc_int_u1
namespace slices_symMergeCmpFunc_int_u1
noncomputable def X : List Entry := [slices_symMergeCmpFunc_int.E]
noncomputable def I : List Inl := [⟨68, Try.f68, ⟨[], [(40, [5, 6, 7, 8, 9, 10, 11, 12, 13, 14, 15, 16, 17, 19, 21, 22, 23, 25, 26, 27, 28, 29, 30, 31, 32, 33, 34, 35, 36, 37, 38, 39, 40, 41, 42, 43, 44, 45, 46, 47, 48, 49, 50, 51, 52, 53, 54, 55, 56, 57, 58, 59, 60, 61, 62, 63, 64, 65, 66, 67, 68, 69, 70, 71, 72, 73, 74, 75, 76, 77, 78, 79, 80, 81, 82, 83, 84, 85, 86, 87, 88, 89, 90, 91, 92, 93, 94, 95, 96, 97, 98, 99, 100, 101, 102, 103, 104, 105, 106, 107, 108, 109, 110, 111, 112, 113, 114, 115, 116, 117, 118, 119, 120, 121, 122, 123, 124, 125, 126, 127, 128, 129, 130, 131, 132, 133, 134, 135, 136, 137, 138, 139, 140, 141, 142, 143, 144, 145, 146, 147, 148, 149, 150, 151, 152, 153, 154, 155, 156, 157, 158, 159, 160, 161, 162, 163, 164, 165, 166, 167, 168, 169, 170, 171, 172, 173, 174, 175, 176, 177, 178, 179, 180, 181, 182, 183, 184, 185, 186, 187, 188, 189, 190, 191, 192, 193, 194, 195, 196, 197, 198, 199, 200, 201, 202, 203, 204, 205, 206, 207, 208, 209, 210, 211, 212, 213, 214, 215, 216, 217, 218, 219]), (1000003, [2, 3, 5, 6, 7, 8, 9, 12, 13, 14, 15, 16, 17, 18, 19, 20, 21, 22, 23, 24, 25, 26, 27, 28, 29, 30, 31, 32, 33, 34, 35, 36, 37, 38, 39, 40, 41, 42, 43, 44, 45, 46, 47, 48, 49, 50, 51, 52, 53, 54, 55, 56, 57, 58, 59, 60, 61, 62, 63, 64, 65, 66, 67, 68, 69, 70, 71, 72, 73, 74, 75, 76, 77, 78, 79, 80, 81, 82, 83, 84, 85, 86, 87, 88, 89, 90, 91, 92, 93, 94, 95, 96, 97, 98, 99, 100, 101, 102, 103, 104, 105, 106, 107, 108, 109, 110, 111, 112, 113, 114, 115, 116, 117, 118, 119, 120, 121, 122, 123, 124, 125, 126, 127, 128, 129, 130, 131, 132, 133, 134, 135, 136, 137, 138, 139, 140, 141, 142, 143, 144, 145, 146, 147, 148, 149, 150, 151, 152, 153, 154, 155, 156, 157, 158, 159, 160, 161, 162, 163, 164, 165, 166, 167, 168, 169, 170, 171, 172, 173, 174, 175, 176, 177, 178, 179, 180, 181, 182, 183, 184, 185, 186, 187, 188, 189, 190, 191, 192, 193, 194, 195, 196, 197, 198, 199, 200, 201, 202, 203, 204, 205, 206, 207, 208, 209, 210, 211, 212, 213, 214, 215, 216, 217, 218, 219]), (1000009, [1, 2, 3, 4, 5, 6, 7, 8, 9, 11, 12, 14, 15, 16, 17, 18, 19, 20, 21, 22, 23, 24, 25, 26, 27, 28, 29, 30, 31, 32, 33, 34, 35, 36, 37, 38, 39, 40, 41, 42, 43, 44, 45, 46, 47, 48, 49, 50, 51, 52, 53, 54, 55, 56, 57, 58, 59, 60, 61, 62, 63, 64, 65, 66, 67, 68, 69, 70, 71, 72, 73, 74, 75, 76, 77, 78, 79, 80, 81, 82, 83, 84, 85, 86, 87, 88, 89, 90, 91, 92, 93, 94, 95, 96, 97, 98, 99, 100, 101, 102, 103, 104, 105, 106, 107, 108, 109, 110, 111, 112, 113, 114, 115, 116, 117, 118, 119, 120, 121, 122, 123, 124, 125, 126, 127, 128, 129, 130, 131, 132, 133, 134, 135, 136, 137, 138, 139, 140, 141, 142, 143, 144, 145, 146, 147, 148, 149, 150, 151, 152, 153, 154, 155, 156, 157, 158, 159, 160, 161, 162, 163, 164, 165, 166, 167, 168, 169, 170, 171, 172, 173, 174, 175, 176, 177, 178, 179, 180, 181, 182, 183, 184, 185, 186, 187, 188, 189, 190, 191, 192, 193, 194, 195, 196, 197, 198, 199, 200, 201, 202, 203, 204, 205, 206, 207, 208, 209, 210, 211, 212, 213, 214, 215, 216, 217, 218, 219]), (1000015, [1, 3, 5, 6, 7, 8, 9, 10, 11, 12, 13, 16, 17, 18, 19, 20, 21, 22, 23, 24, 25, 26, 27, 28, 29, 30, 31, 32, 33, 34, 35, 36, 37, 38, 39, 40, 41, 42, 43, 44, 45, 46, 47, 48, 49, 50, 51, 52, 53, 54, 55, 56, 57, 58, 59, 60, 61, 62, 63, 64, 65, 66, 67, 68, 69, 70, 71, 72, 73, 74, 75, 76, 77, 78, 79, 80, 81, 82, 83, 84, 85, 86, 87, 88, 89, 90, 91, 92, 93, 94, 95, 96, 97, 98, 99, 100, 101, 102, 103, 104, 105, 106, 107, 108, 109, 110, 111, 112, 113, 114, 115, 116, 117, 118, 119, 120, 121, 122, 123, 124, 125, 126, 127, 128, 129, 130, 131, 132, 133, 134, 135, 136, 137, 138, 139, 140, 141, 142, 143, 144, 145, 146, 147, 148, 149, 150, 151, 152, 153, 154, 155, 156, 157, 158, 159, 160, 161, 162, 163, 164, 165, 166, 167, 168, 169, 170, 171, 172, 173, 174, 175, 176, 177, 178, 179, 180, 181, 182, 183, 184, 185, 186, 187, 188, 189, 190, 191, 192, 193, 194, 195, 196, 197, 198, 199, 200, 201, 202, 203, 204, 205, 206, 207, 208, 209, 210, 211, 212, 213, 214, 215, 216, 217, 218, 219]), (1000021, [1, 2, 3, 4, 5, 6, 7, 8, 9, 10, 11, 12, 13, 15, 16, 18, 19, 20, 21, 22, 23, 24, 25, 26, 27, 28, 29, 30, 31, 32, 33, 34, 35, 36, 37, 38, 39, 40, 41, 42, 43, 44, 45, 46, 47, 48, 49, 50, 51, 52, 53, 54, 55, 56, 57, 58, 59, 60, 61, 62, 63, 64, 65, 66, 67, 68, 69, 70, 71, 72, 73, 74, 75, 76, 77, 78, 79, 80, 81, 82, 83, 84, 85, 86, 87, 88, 89, 90, 91, 92, 93, 94, 95, 96, 97, 98, 99, 100, 101, 102, 103, 104, 105, 106, 107, 108, 109, 110, 111, 112, 113, 114, 115, 116, 117, 118, 119, 120, 121, 122, 123, 124, 125, 126, 127, 128, 129, 130, 131, 132, 133, 134, 135, 136, 137, 138, 139, 140, 141, 142, 143, 144, 145, 146, 147, 148, 149, 150, 151, 152, 153, 154, 155, 156, 157, 158, 159, 160, 161, 162, 163, 164, 165, 166, 167, 168, 169, 170, 171, 172, 173, 174, 175, 176, 177, 178, 179, 180, 181, 182, 183, 184, 185, 186, 187, 188, 189, 190, 191, 192, 193, 194, 195, 196, 197, 198, 199, 200, 201, 202, 203, 204, 205, 206, 207, 208, 209, 210, 211, 212, 213, 214, 215, 216, 217, 218, 219]), (1000033, [5, 6, 7, 8, 9, 10, 11, 12, 13, 14, 15, 16, 17, 23, 24, 25, 26, 27, 28, 29, 30, 31, 32, 33, 34, 35, 36, 37, 38, 39, 40, 41, 42, 43, 44, 45, 46, 47, 48, 49, 50, 51, 52, 53, 54, 55, 56, 57, 58, 59, 60, 61, 62, 63, 64, 65, 66, 67, 68, 69, 70, 71, 72, 73, 74, 75, 76, 77, 78, 79, 80, 81, 82, 83, 84, 85, 86, 87, 88, 89, 90, 91, 92, 93, 94, 95, 96, 97, 98, 99, 100, 101, 102, 103, 104, 105, 106, 107, 108, 109, 110, 111, 112, 113, 114, 115, 116, 117, 118, 119, 120, 121, 122, 123, 124, 125, 126, 127, 128, 129, 130, 131, 132, 133, 134, 135, 136, 137, 138, 139, 140, 141, 142, 143, 144, 145, 146, 147, 148, 149, 150, 151, 152, 153, 154, 155, 156, 157, 158, 159, 160, 161, 162, 163, 164, 165, 166, 167, 168, 169, 170, 171, 172, 173, 174, 175, 176, 177, 178, 179, 180, 181, 182, 183, 184, 185, 186, 187, 188, 189, 190, 191, 192, 193, 194, 195, 196, 197, 198, 199, 200, 201, 202, 203, 204, 205, 206, 207, 208, 209, 210, 211, 212, 213, 214, 215, 216, 217, 218, 219])], [], [(5, [0, 1, 2, 5, 6, 3, 4, 7, 8, 9, 10]), (11, [0, 1, 2, 3, 4, 5, 6, 7, 10, 11, 8, 9, 12, 13, 14, 15, 16, 17]), (17, [0, 1, 2, 5, 6, 3, 4, 7, 8, 9, 10, 11]), (23, [0, 1, 2, 3, 4, 5, 6, 7, 10, 11, 8, 9, 12, 13, 14, 15, 16, 17]), (35, [0, 1, 2, 3, 4, 7, 8, 5, 6, 9, 10, 11, 12, 13])], [], []⟩⟩, ⟨72, Try.f72, ⟨[], [(4, [1, 3, 5, 6, 7, 8, 9, 12, 13, 14, 15, 16, 17, 18, 19, 20, 21, 22, 23, 24, 25, 26, 27, 28, 29, 30, 31, 32, 33, 34, 35, 36, 37, 38, 39, 40, 41, 42, 43, 44, 45, 46, 47, 48, 49, 50, 51, 52, 53, 54, 55, 56, 57]), (6, [1, 3, 5, 6, 7, 8, 9, 12, 13, 14, 15, 16, 17, 18, 19, 20, 21, 22, 23, 24, 25, 26, 27, 28, 29, 30, 31, 32, 33, 34, 35, 36, 37, 38, 39, 40, 41, 42, 43, 44, 45, 46, 47, 48, 49, 50, 51, 52, 53, 54, 55, 56, 57]), (8, [1, 3, 5, 6, 7, 8, 9, 11, 12, 13, 14, 15, 16, 17, 18, 19, 20, 21, 22, 23, 24, 25, 26, 27, 28, 29, 30, 31, 32, 33, 34, 35, 36, 37, 38, 39, 40, 41, 42, 43, 44, 45, 46, 47, 48, 49, 50, 51, 52, 53, 54, 55, 56, 57]), (1000002, [1, 3, 5, 6, 7, 8, 9, 12, 13, 14, 15, 16, 17, 18, 19, 20, 21, 22, 23, 24, 25, 26, 27, 28, 29, 30, 31, 32, 33, 34, 35, 36, 37, 38, 39, 40, 41, 42, 43, 44, 45, 46, 47, 48, 49, 50, 51, 52, 53, 54, 55, 56, 57])], [], [], [], []⟩⟩, ⟨75, Try.f75, ⟨[], [(1000001, [4, 5, 6, 7, 8, 9, 11, 12, 13, 14, 15, 16, 17, 18, 19, 20, 21, 22, 23, 24, 25, 26, 27, 28, 29, 30, 31, 32, 33, 34, 35, 36, 37])], [], [(3, [0, 1, 2, 3, 4, 5, 6, 7, 8, 9, 10, 11, 14, 15, 16, 17, 12, 13, 18, 19, 20, 21, 22, 23])], [], []⟩⟩]
theorem I_ok : ∀ i ∈ I, Try.prog.funcs[i.f]? = some i.fn ∧ (i.fn.name == "runtime.NumGoroutine") = false := by
  intro i hi
  simp only [I, List.mem_cons, List.not_mem_nil, or_false] at hi
  rcases hi with rfl | rfl | rfl
  all_goals exact ⟨by kernel_rfl, by kernel_rfl⟩
noncomputable abbrev L0 (fuel n : Nat) (s : St) (k : Kont) := lAt Try.prog X I fuel false 4 false 68 (bodyOf Try.f68) [0, 1, 0, 1, 1, 0, 0] n s k
noncomputable abbrev k0  (fuel : Nat) : Kont := (kAt Try.prog X I fuel false 4 false 68 (bodyOf Try.f68) [0, 1, 0, 1, 1, 0, 0] [] (endK Try.prog Try.f68))
noncomputable def t0 (p1 : Int) (p4d : List Q → Bool) (p4g : List Q → Int) (p0 : List Int) (x0q3 : Int) (x0q4 : Int) : St := ⟨[(.all 1000000000 1), (.imm (.int .i64 p1)), .dead, .dead, (.imm (.fn false p4d p4g)), .dead, .dead, .dead, .dead, .dead, (.imm (.int .i64 x0q3)), (.imm (.int .i64 x0q4)), .dead, .dead, .dead, .dead, .dead, .dead, .dead, .dead, .dead, .dead, .dead, .dead, .dead, .dead, .dead, .dead, .dead, .dead, .dead, .dead, .dead, .dead, .dead, .dead, .dead, .dead, .dead, .dead, .dead, .dead, .dead, .dead, .dead, .dead, .dead, .dead, .dead, .dead, .dead, .dead, .dead, .dead, .dead, .dead, .dead, .dead, .dead, .dead, .dead, .dead, .dead, .dead, .dead, .dead, .dead, .dead, .dead, .dead, .dead, .dead, .dead, .dead, .dead, .dead, .dead, .dead, .dead, .dead, .dead, .dead, .dead, .dead, .dead, .dead, .dead, .dead, .dead, .dead, .dead, .dead, .dead, .dead, .dead, .dead, .dead, .dead, .dead, .dead, .dead, .dead, .dead, .dead, .dead, .dead, .dead, .dead, .dead, .dead, .dead, .dead, .dead, .dead, .dead, .dead, .dead, .dead, .dead, .dead, .dead, .dead, .dead, .dead, .dead, .dead, .dead, .dead, .dead, .dead, .dead, .dead, .dead, .dead, .dead, .dead, .dead, .dead, .dead, .dead, .dead, .dead, .dead, .dead, .dead, .dead, .dead, .dead, .dead, .dead, .dead, .dead, .dead, .dead, .dead, .dead, .dead, .dead, .dead, .dead, .dead, .dead, .dead, .dead, .dead, .dead, .dead, .dead, .dead, .dead, .dead, .dead, .dead, .dead, .dead, .dead, .dead, .dead, .dead, .dead, .dead, .dead, .dead, .dead, .dead, .dead, .dead, .dead, .dead, .dead, .dead, .dead, .dead, .dead, .dead, .dead, .dead, .dead, .dead, .dead, .dead, .dead, .dead, .dead, .dead, .dead, .dead, .dead, .dead, .dead, .dead, .dead, .dead, .dead, .dead, .dead, .dead, .dead, .dead, .dead], hOf [(1000000000, (.ints .i64 p0))], [(.all 1000000000 1)], []⟩
noncomputable abbrev L1 (fuel n : Nat) (s : St) (k : Kont) := lAt Try.prog X I fuel false 4 false 68 (bodyOf Try.f68) [0, 1, 0, 1, 1, 1, 0, 1, 0] n s k
noncomputable abbrev k1  (fuel : Nat) : Kont := (kAt Try.prog X I fuel false 4 false 68 (bodyOf Try.f68) [0, 1, 0, 1, 1, 1, 0, 1, 0] [] (endK Try.prog Try.f68))
noncomputable def t1 (x0q3 : Int) (x1q1 : Int) (x1q2 : List Int) : St := ⟨[(.all 1000000000 1), .dead, .dead, .dead, .dead, .dead, .dead, .dead, .dead, .dead, (.imm (.int .i64 x0q3)), .dead, .dead, (.imm (.int .i64 x1q1)), .dead, .dead, .dead, .dead, .dead, .dead, .dead, .dead, .dead, .dead, .dead, .dead, .dead, .dead, .dead, .dead, .dead, .dead, .dead, .dead, .dead, .dead, .dead, .dead, .dead, .dead, .dead, .dead, .dead, .dead, .dead, .dead, .dead, .dead, .dead, .dead, .dead, .dead, .dead, .dead, .dead, .dead, .dead, .dead, .dead, .dead, .dead, .dead, .dead, .dead, .dead, .dead, .dead, .dead, .dead, .dead, .dead, .dead, .dead, .dead, .dead, .dead, .dead, .dead, .dead, .dead, .dead, .dead, .dead, .dead, .dead, .dead, .dead, .dead, .dead, .dead, .dead, .dead, .dead, .dead, .dead, .dead, .dead, .dead, .dead, .dead, .dead, .dead, .dead, .dead, .dead, .dead, .dead, .dead, .dead, .dead, .dead, .dead, .dead, .dead, .dead, .dead, .dead, .dead, .dead, .dead, .dead, .dead, .dead, .dead, .dead, .dead, .dead, .dead, .dead, .dead, .dead, .dead, .dead, .dead, .dead, .dead, .dead, .dead, .dead, .dead, .dead, .dead, .dead, .dead, .dead, .dead, .dead, .dead, .dead, .dead, .dead, .dead, .dead, .dead, .dead, .dead, .dead, .dead, .dead, .dead, .dead, .dead, .dead, .dead, .dead, .dead, .dead, .dead, .dead, .dead, .dead, .dead, .dead, .dead, .dead, .dead, .dead, .dead, .dead, .dead, .dead, .dead, .dead, .dead, .dead, .dead, .dead, .dead, .dead, .dead, .dead, .dead, .dead, .dead, .dead, .dead, .dead, .dead, .dead, .dead, .dead, .dead, .dead, .dead, .dead, .dead, .dead, .dead, .dead, .dead, .dead, .dead, .dead, .dead, .dead, .dead, .dead, .dead, .dead, .dead], hOf [(1000000000, (.ints .i64 x1q2))], [(.all 1000000000 1)], []⟩
noncomputable abbrev L2 (fuel n : Nat) (s : St) (k : Kont) := lAt Try.prog X I fuel false 4 false 68 (bodyOf Try.f68) [1, 0, 1, 0, 1, 1, 0, 0] n s k
noncomputable abbrev k2  (fuel : Nat) : Kont := (kAt Try.prog X I fuel false 4 false 68 (bodyOf Try.f68) [1, 0, 1, 0, 1, 1, 0, 0] [] (endK Try.prog Try.f68))
noncomputable def t2 (p2 : Int) (p4d : List Q → Bool) (p4g : List Q → Int) (p0 : List Int) (x2q3 : Int) (x2q4 : Int) : St := ⟨[(.all 1000000000 1), .dead, (.imm (.int .i64 p2)), .dead, (.imm (.fn false p4d p4g)), .dead, .dead, .dead, .dead, .dead, .dead, .dead, .dead, .dead, (.imm (.int .i64 x2q3)), (.imm (.int .i64 x2q4)), .dead, .dead, .dead, .dead, .dead, .dead, .dead, .dead, .dead, .dead, .dead, .dead, .dead, .dead, .dead, .dead, .dead, .dead, .dead, .dead, .dead, .dead, .dead, .dead, .dead, .dead, .dead, .dead, .dead, .dead, .dead, .dead, .dead, .dead, .dead, .dead, .dead, .dead, .dead, .dead, .dead, .dead, .dead, .dead, .dead, .dead, .dead, .dead, .dead, .dead, .dead, .dead, .dead, .dead, .dead, .dead, .dead, .dead, .dead, .dead, .dead, .dead, .dead, .dead, .dead, .dead, .dead, .dead, .dead, .dead, .dead, .dead, .dead, .dead, .dead, .dead, .dead, .dead, .dead, .dead, .dead, .dead, .dead, .dead, .dead, .dead, .dead, .dead, .dead, .dead, .dead, .dead, .dead, .dead, .dead, .dead, .dead, .dead, .dead, .dead, .dead, .dead, .dead, .dead, .dead, .dead, .dead, .dead, .dead, .dead, .dead, .dead, .dead, .dead, .dead, .dead, .dead, .dead, .dead, .dead, .dead, .dead, .dead, .dead, .dead, .dead, .dead, .dead, .dead, .dead, .dead, .dead, .dead, .dead, .dead, .dead, .dead, .dead, .dead, .dead, .dead, .dead, .dead, .dead, .dead, .dead, .dead, .dead, .dead, .dead, .dead, .dead, .dead, .dead, .dead, .dead, .dead, .dead, .dead, .dead, .dead, .dead, .dead, .dead, .dead, .dead, .dead, .dead, .dead, .dead, .dead, .dead, .dead, .dead, .dead, .dead, .dead, .dead, .dead, .dead, .dead, .dead, .dead, .dead, .dead, .dead, .dead, .dead, .dead, .dead, .dead, .dead, .dead, .dead, .dead, .dead, .dead, .dead, .dead, .dead, .dead, .dead, .dead, .dead], hOf [(1000000000, (.ints .i64 p0))], [(.all 1000000000 1)], []⟩
noncomputable abbrev L3 (fuel n : Nat) (s : St) (k : Kont) := lAt Try.prog X I fuel false 4 false 68 (bodyOf Try.f68) [1, 0, 1, 0, 1, 1, 1, 0, 1, 0] n s k
noncomputable abbrev k3  (fuel : Nat) : Kont := (kAt Try.prog X I fuel false 4 false 68 (bodyOf Try.f68) [1, 0, 1, 0, 1, 1, 1, 0, 1, 0] [] (endK Try.prog Try.f68))
noncomputable def t3 (x2q3 : Int) (x3q1 : Int) (x3q2 : List Int) : St := ⟨[(.all 1000000000 1), .dead, .dead, .dead, .dead, .dead, .dead, .dead, .dead, .dead, .dead, .dead, .dead, .dead, (.imm (.int .i64 x2q3)), .dead, .dead, (.imm (.int .i64 x3q1)), .dead, .dead, .dead, .dead, .dead, .dead, .dead, .dead, .dead, .dead, .dead, .dead, .dead, .dead, .dead, .dead, .dead, .dead, .dead, .dead, .dead, .dead, .dead, .dead, .dead, .dead, .dead, .dead, .dead, .dead, .dead, .dead, .dead, .dead, .dead, .dead, .dead, .dead, .dead, .dead, .dead, .dead, .dead, .dead, .dead, .dead, .dead, .dead, .dead, .dead, .dead, .dead, .dead, .dead, .dead, .dead, .dead, .dead, .dead, .dead, .dead, .dead, .dead, .dead, .dead, .dead, .dead, .dead, .dead, .dead, .dead, .dead, .dead, .dead, .dead, .dead, .dead, .dead, .dead, .dead, .dead, .dead, .dead, .dead, .dead, .dead, .dead, .dead, .dead, .dead, .dead, .dead, .dead, .dead, .dead, .dead, .dead, .dead, .dead, .dead, .dead, .dead, .dead, .dead, .dead, .dead, .dead, .dead, .dead, .dead, .dead, .dead, .dead, .dead, .dead, .dead, .dead, .dead, .dead, .dead, .dead, .dead, .dead, .dead, .dead, .dead, .dead, .dead, .dead, .dead, .dead, .dead, .dead, .dead, .dead, .dead, .dead, .dead, .dead, .dead, .dead, .dead, .dead, .dead, .dead, .dead, .dead, .dead, .dead, .dead, .dead, .dead, .dead, .dead, .dead, .dead, .dead, .dead, .dead, .dead, .dead, .dead, .dead, .dead, .dead, .dead, .dead, .dead, .dead, .dead, .dead, .dead, .dead, .dead, .dead, .dead, .dead, .dead, .dead, .dead, .dead, .dead, .dead, .dead, .dead, .dead, .dead, .dead, .dead, .dead, .dead, .dead, .dead, .dead, .dead, .dead, .dead, .dead, .dead, .dead, .dead, .dead], hOf [(1000000000, (.ints .i64 x3q2))], [(.all 1000000000 1)], []⟩
noncomputable abbrev L4 (fuel n : Nat) (s : St) (k : Kont) := lAt Try.prog X I fuel false 4 false 68 (bodyOf Try.f68) [1, 1, 1, 1, 1, 1, 1, 0, 0] n s k
noncomputable abbrev k4  (fuel : Nat) : Kont := (kAt Try.prog X I fuel false 4 false 68 (bodyOf Try.f68) [1, 1, 1, 1, 1, 1, 1, 0, 0] [] (endK Try.prog Try.f68))
noncomputable def t4 (p1 : Int) (p2 : Int) (p3 : Int) (p4d : List Q → Bool) (p4g : List Q → Int) (p0 : List Int) (x4q7 : Int) (x4q8 : Int) : St := ⟨[(.all 1000000000 1), (.imm (.int .i64 p1)), (.imm (.int .i64 p2)), (.imm (.int .i64 p3)), (.imm (.fn false p4d p4g)), .dead, .dead, .dead, .dead, .dead, .dead, .dead, .dead, .dead, .dead, .dead, .dead, .dead, (.imm (.int .i64 (IntKind.wrap .i64 (Int.fdiv (IntKind.wrap .u64 (IntKind.wrap .i64 (p1 + p3))) (2 ^ min (1 : Int).toNat (IntKind.bits .u64)))))), (.imm (.int .i64 (IntKind.wrap .i64 ((IntKind.wrap .i64 (Int.fdiv (IntKind.wrap .u64 (IntKind.wrap .i64 (p1 + p3))) (2 ^ min (1 : Int).toNat (IntKind.bits .u64)))) + p2)))), (.imm (.int .i64 x4q7)), (.imm (.int .i64 x4q8)), (.imm (.int .i64 (IntKind.wrap .i64 ((IntKind.wrap .i64 ((IntKind.wrap .i64 (Int.fdiv (IntKind.wrap .u64 (IntKind.wrap .i64 (p1 + p3))) (2 ^ min (1 : Int).toNat (IntKind.bits .u64)))) + p2)) - 1)))), .dead, .dead, .dead, .dead, .dead, .dead, .dead, .dead, .dead, .dead, .dead, .dead, .dead, .dead, .dead, .dead, .dead, .dead, .dead, .dead, .dead, .dead, .dead, .dead, .dead, .dead, .dead, .dead, .dead, .dead, .dead, .dead, .dead, .dead, .dead, .dead, .dead, .dead, .dead, .dead, .dead, .dead, .dead, .dead, .dead, .dead, .dead, .dead, .dead, .dead, .dead, .dead, .dead, .dead, .dead, .dead, .dead, .dead, .dead, .dead, .dead, .dead, .dead, .dead, .dead, .dead, .dead, .dead, .dead, .dead, .dead, .dead, .dead, .dead, .dead, .dead, .dead, .dead, .dead, .dead, .dead, .dead, .dead, .dead, .dead, .dead, .dead, .dead, .dead, .dead, .dead, .dead, .dead, .dead, .dead, .dead, .dead, .dead, .dead, .dead, .dead, .dead, .dead, .dead, .dead, .dead, .dead, .dead, .dead, .dead, .dead, .dead, .dead, .dead, .dead, .dead, .dead, .dead, .dead, .dead, .dead, .dead, .dead, .dead, .dead, .dead, .dead, .dead, .dead, .dead, .dead, .dead, .dead, .dead, .dead, .dead, .dead, .dead, .dead, .dead, .dead, .dead, .dead, .dead, .dead, .dead, .dead, .dead, .dead, .dead, .dead, .dead, .dead, .dead, .dead, .dead, .dead, .dead, .dead, .dead, .dead, .dead, .dead, .dead, .dead, .dead, .dead, .dead, .dead, .dead, .dead, .dead, .dead, .dead, .dead, .dead, .dead, .dead, .dead, .dead, .dead, .dead, .dead, .dead, .dead, .dead, .dead, .dead, .dead, .dead, .dead, .dead, .dead, .dead, .dead, .dead, .dead], hOf [(1000000000, (.ints .i64 p0))], [(.all 1000000000 1)], []⟩
noncomputable abbrev L5 (fuel n : Nat) (s : St) (k : Kont) := lAt Try.prog X I fuel false 3 false 72 (bodyOf Try.f72) [1, 1, 0, 0] n s k
noncomputable abbrev k5  (fuel : Nat) : Kont := (kAt Try.prog X I fuel false 3 false 72 (bodyOf Try.f72) [1, 1, 0, 0] [] (endFn Try.prog Try.f72 220 (kOp Try.prog X I fuel false 4 68 (cAt (bodyOf Try.f68) [1, 1, 1, 1, 1, 1, 1, 1, 1, 0, 1, 0]) 5 (kAt Try.prog X I fuel false 4 false 68 (bodyOf Try.f68) [1, 1, 1, 1, 1, 1, 1, 1, 1, 0, 1, 0] [] (endK Try.prog Try.f68)))))
noncomputable def t5 (p2 : Int) (p4d : List Q → Bool) (p4g : List Q → Int) (p1 : Int) (p3 : Int) (x4q7 : Int) (x5q3 : Int) (x5q4 : Int) (x5q5 : List Int) : St := ⟨[(.all 1000000000 1), .dead, (.imm (.int .i64 p2)), .dead, (.imm (.fn false p4d p4g)), .dead, .dead, .dead, .dead, .dead, (.imm (.int .i64 x5q3)), (.imm (.int .i64 x5q4)), .dead, .dead, .dead, .dead, .dead, .dead, .dead, .dead, .dead, .dead, .dead, .dead, .dead, .dead, .dead, .dead, .dead, .dead, .dead, .dead, .dead, .dead, .dead, .dead, .dead, .dead, .dead, .dead, .dead, .dead, .dead, .dead, .dead, .dead, .dead, .dead, .dead, .dead, .dead, .dead, .dead, .dead, .dead, .dead, .dead, .dead], hOf [(1000000000, (.ints .i64 x5q5))], [(.all 1000000000 1), (.imm (.int .i64 p1)), (.imm (.int .i64 p2)), (.imm (.int .i64 p3)), (.imm (.fn false p4d p4g)), .dead, .dead, .dead, .dead, .dead, .dead, .dead, .dead, .dead, .dead, .dead, .dead, .dead, (.imm (.int .i64 (IntKind.wrap .i64 (Int.fdiv (IntKind.wrap .u64 (IntKind.wrap .i64 (p1 + p3))) (2 ^ min (1 : Int).toNat (IntKind.bits .u64)))))), .dead, (.imm (.int .i64 x4q7)), .dead, .dead, .dead, (.imm (.int .i64 (IntKind.wrap .i64 ((IntKind.wrap .i64 ((IntKind.wrap .i64 (Int.fdiv (IntKind.wrap .u64 (IntKind.wrap .i64 (p1 + p3))) (2 ^ min (1 : Int).toNat (IntKind.bits .u64)))) + p2)) - x4q7)))), .dead, .dead, .dead, .dead, .dead, .dead, .dead, .dead, .dead, .dead, .dead, .dead, .dead, .dead, .dead, .dead, .dead, .dead, .dead, .dead, .dead, .dead, .dead, .dead, .dead, .dead, .dead, .dead, .dead, .dead, .dead, .dead, .dead, .dead, .dead, .dead, .dead, .dead, .dead, .dead, .dead, .dead, .dead, .dead, .dead, .dead, .dead, .dead, .dead, .dead, .dead, .dead, .dead, .dead, .dead, .dead, .dead, .dead, .dead, .dead, .dead, .dead, .dead, .dead, .dead, .dead, .dead, .dead, .dead, .dead, .dead, .dead, .dead, .dead, .dead, .dead, .dead, .dead, .dead, .dead, .dead, .dead, .dead, .dead, .dead, .dead, .dead, .dead, .dead, .dead, .dead, .dead, .dead, .dead, .dead, .dead, .dead, .dead, .dead, .dead, .dead, .dead, .dead, .dead, .dead, .dead, .dead, .dead, .dead, .dead, .dead, .dead, .dead, .dead, .dead, .dead, .dead, .dead, .dead, .dead, .dead, .dead, .dead, .dead, .dead, .dead, .dead, .dead, .dead, .dead, .dead, .dead, .dead, .dead, .dead, .dead, .dead, .dead, .dead, .dead, .dead, .dead, .dead, .dead, .dead, .dead, .dead, .dead, .dead, .dead, .dead, .dead, .dead, .dead, .dead, .dead, .dead, .dead, .dead, .dead, .dead, (.all 1000000000 1), (.imm (.int .i64 x4q7)), (.imm (.int .i64 p2)), (.imm (.int .i64 (IntKind.wrap .i64 ((IntKind.wrap .i64 ((IntKind.wrap .i64 (Int.fdiv (IntKind.wrap .u64 (IntKind.wrap .i64 (p1 + p3))) (2 ^ min (1 : Int).toNat (IntKind.bits .u64)))) + p2)) - x4q7)))), (.imm (.fn false p4d p4g)), .dead, .dead, .dead, .dead, .dead, .dead, .dead, .dead, .dead, .dead, .dead, .dead, .dead, .dead, .dead, .dead, .dead, .dead, .dead, .dead, .dead, .dead, .dead, .dead, .dead, .dead, .dead, .dead, .dead, (.tup []), (.all 1000000000 1)], []⟩
noncomputable abbrev L6 (fuel n : Nat) (s : St) (k : Kont) := lAt Try.prog X I fuel false 2 false 75 (bodyOf Try.f75) [1, 0] n s k
noncomputable abbrev k6 (n5 : Nat) (fuel : Nat) : Kont := (kAt Try.prog X I fuel false 2 false 75 (bodyOf Try.f75) [1, 0] [] (endFn Try.prog Try.f75 58 (kOp Try.prog X I fuel false 3 72 (cAt (bodyOf Try.f72) [1, 1, 0, 0, 0, 1, 0, 1, 0, 0]) 7 (kAt Try.prog X I fuel false 3 false 72 (bodyOf Try.f72) [1, 1, 0, 0, 0, 1, 0, 1, 0, 0] [n5] (endFn Try.prog Try.f72 220 (kOp Try.prog X I fuel false 4 68 (cAt (bodyOf Try.f68) [1, 1, 1, 1, 1, 1, 1, 1, 1, 0, 1, 0]) 5 (kAt Try.prog X I fuel false 4 false 68 (bodyOf Try.f68) [1, 1, 1, 1, 1, 1, 1, 1, 1, 0, 1, 0] [] (endK Try.prog Try.f68))))))))
noncomputable def t6 (p2 : Int) (x5q3 : Int) (x5q4 : Int) (p4d : List Q → Bool) (p4g : List Q → Int) (p1 : Int) (p3 : Int) (x4q7 : Int) (x6q3 : Int) (x6q4 : List Int) : St := ⟨[(.all 1000000000 1), (.imm (.int .i64 (IntKind.wrap .i64 (p2 - x5q3)))), (.imm (.int .i64 p2)), (.imm (.int .i64 x5q4)), .dead, .dead, .dead, .dead, .dead, .dead, (.imm (.int .i64 x6q3)), .dead, .dead, .dead, .dead, .dead, .dead, .dead, .dead, .dead, .dead, .dead, .dead, .dead, .dead, .dead, .dead, .dead, .dead, .dead, .dead, .dead, .dead, .dead, .dead, .dead, .dead, .dead], hOf [(1000000000, (.ints .i64 x6q4))], [(.all 1000000000 1), .dead, (.imm (.int .i64 p2)), .dead, (.imm (.fn false p4d p4g)), .dead, .dead, .dead, .dead, .dead, (.imm (.int .i64 x5q3)), (.imm (.int .i64 x5q4)), .dead, .dead, .dead, .dead, .dead, .dead, .dead, .dead, .dead, .dead, .dead, .dead, (.all 1000000000 1), (.imm (.int .i64 p2)), (.imm (.int .i64 x5q3)), (.imm (.int .i64 (IntKind.wrap .i64 (p2 - x5q3)))), (.imm (.int .i64 p2)), (.imm (.int .i64 x5q4)), (.imm (.fn false p4d p4g)), .dead, .dead, .dead, .dead, .dead, .dead, .dead, .dead, .dead, .dead, .dead, .dead, .dead, .dead, .dead, .dead, .dead, .dead, .dead, .dead, .dead, .dead, .dead, .dead, .dead, .dead, .dead, (.tup []), (.all 1000000000 1), (.imm (.int .i64 p1)), (.imm (.int .i64 p2)), (.imm (.int .i64 p3)), (.imm (.fn false p4d p4g)), .dead, .dead, .dead, .dead, .dead, .dead, .dead, .dead, .dead, .dead, .dead, .dead, .dead, (.imm (.int .i64 (IntKind.wrap .i64 (Int.fdiv (IntKind.wrap .u64 (IntKind.wrap .i64 (p1 + p3))) (2 ^ min (1 : Int).toNat (IntKind.bits .u64)))))), .dead, (.imm (.int .i64 x4q7)), .dead, .dead, .dead, (.imm (.int .i64 (IntKind.wrap .i64 ((IntKind.wrap .i64 ((IntKind.wrap .i64 (Int.fdiv (IntKind.wrap .u64 (IntKind.wrap .i64 (p1 + p3))) (2 ^ min (1 : Int).toNat (IntKind.bits .u64)))) + p2)) - x4q7)))), .dead, .dead, .dead, .dead, .dead, .dead, .dead, .dead, .dead, .dead, .dead, .dead, .dead, .dead, .dead, .dead, .dead, .dead, .dead, .dead, .dead, .dead, .dead, .dead, .dead, .dead, .dead, .dead, .dead, .dead, .dead, .dead, .dead, .dead, .dead, .dead, .dead, .dead, .dead, .dead, .dead, .dead, .dead, .dead, .dead, .dead, .dead, .dead, .dead, .dead, .dead, .dead, .dead, .dead, .dead, .dead, .dead, .dead, .dead, .dead, .dead, .dead, .dead, .dead, .dead, .dead, .dead, .dead, .dead, .dead, .dead, .dead, .dead, .dead, .dead, .dead, .dead, .dead, .dead, .dead, .dead, .dead, .dead, .dead, .dead, .dead, .dead, .dead, .dead, .dead, .dead, .dead, .dead, .dead, .dead, .dead, .dead, .dead, .dead, .dead, .dead, .dead, .dead, .dead, .dead, .dead, .dead, .dead, .dead, .dead, .dead, .dead, .dead, .dead, .dead, .dead, .dead, .dead, .dead, .dead, .dead, .dead, .dead, .dead, .dead, .dead, .dead, .dead, .dead, .dead, .dead, .dead, .dead, .dead, .dead, .dead, .dead, .dead, .dead, .dead, .dead, .dead, .dead, .dead, .dead, .dead, .dead, .dead, .dead, .dead, .dead, .dead, .dead, .dead, .dead, .dead, .dead, .dead, .dead, .dead, .dead, (.all 1000000000 1), (.imm (.int .i64 x4q7)), (.imm (.int .i64 p2)), (.imm (.int .i64 (IntKind.wrap .i64 ((IntKind.wrap .i64 ((IntKind.wrap .i64 (Int.fdiv (IntKind.wrap .u64 (IntKind.wrap .i64 (p1 + p3))) (2 ^ min (1 : Int).toNat (IntKind.bits .u64)))) + p2)) - x4q7)))), (.imm (.fn false p4d p4g)), .dead, .dead, .dead, .dead, .dead, .dead, .dead, .dead, .dead, .dead, .dead, .dead, .dead, .dead, .dead, .dead, .dead, .dead, .dead, .dead, .dead, .dead, .dead, .dead, .dead, .dead, .dead, .dead, .dead, (.tup []), (.all 1000000000 1)], []⟩
noncomputable abbrev L7 (fuel n : Nat) (s : St) (k : Kont) := lAt Try.prog X I fuel false 2 false 75 (bodyOf Try.f75) [1, 0] n s k
noncomputable abbrev k7 (n5 : Nat) (fuel : Nat) : Kont := (kAt Try.prog X I fuel false 2 false 75 (bodyOf Try.f75) [1, 0] [] (endFn Try.prog Try.f75 58 (kOp Try.prog X I fuel false 3 72 (cAt (bodyOf Try.f72) [1, 1, 0, 0, 0, 1, 0, 1, 1, 0]) 11 (kAt Try.prog X I fuel false 3 false 72 (bodyOf Try.f72) [1, 1, 0, 0, 0, 1, 0, 1, 1, 0] [n5] (endFn Try.prog Try.f72 220 (kOp Try.prog X I fuel false 4 68 (cAt (bodyOf Try.f68) [1, 1, 1, 1, 1, 1, 1, 1, 1, 0, 1, 0]) 5 (kAt Try.prog X I fuel false 4 false 68 (bodyOf Try.f68) [1, 1, 1, 1, 1, 1, 1, 1, 1, 0, 1, 0] [] (endK Try.prog Try.f68))))))))
noncomputable def t7 (p2 : Int) (x5q3 : Int) (x5q4 : Int) (p4d : List Q → Bool) (p4g : List Q → Int) (p1 : Int) (p3 : Int) (x4q7 : Int) (x7q3 : Int) (x7q4 : List Int) : St := ⟨[(.all 1000000000 1), (.imm (.int .i64 (IntKind.wrap .i64 (p2 - x5q3)))), (.imm (.int .i64 (IntKind.wrap .i64 ((IntKind.wrap .i64 (p2 + x5q4)) - x5q3)))), (.imm (.int .i64 x5q3)), .dead, .dead, .dead, .dead, .dead, .dead, (.imm (.int .i64 x7q3)), .dead, .dead, .dead, .dead, .dead, .dead, .dead, .dead, .dead, .dead, .dead, .dead, .dead, .dead, .dead, .dead, .dead, .dead, .dead, .dead, .dead, .dead, .dead, .dead, .dead, .dead, .dead], hOf [(1000000000, (.ints .i64 x7q4))], [(.all 1000000000 1), .dead, (.imm (.int .i64 p2)), .dead, (.imm (.fn false p4d p4g)), .dead, .dead, .dead, .dead, .dead, (.imm (.int .i64 x5q3)), (.imm (.int .i64 x5q4)), .dead, .dead, .dead, .dead, .dead, .dead, .dead, .dead, .dead, .dead, .dead, .dead, .dead, .dead, .dead, .dead, .dead, .dead, .dead, .dead, .dead, .dead, .dead, (.all 1000000000 1), (.imm (.int .i64 p2)), (.imm (.int .i64 x5q3)), (.imm (.int .i64 (IntKind.wrap .i64 (p2 - x5q3)))), (.imm (.int .i64 p2)), (.imm (.int .i64 x5q4)), (.imm (.int .i64 (IntKind.wrap .i64 (p2 + x5q4)))), (.imm (.int .i64 x5q3)), (.imm (.int .i64 (IntKind.wrap .i64 ((IntKind.wrap .i64 (p2 + x5q4)) - x5q3)))), (.imm (.int .i64 x5q3)), (.imm (.fn false p4d p4g)), .dead, .dead, .dead, .dead, .dead, .dead, .dead, .dead, .dead, .dead, .dead, .dead, (.tup []), (.all 1000000000 1), (.imm (.int .i64 p1)), (.imm (.int .i64 p2)), (.imm (.int .i64 p3)), (.imm (.fn false p4d p4g)), .dead, .dead, .dead, .dead, .dead, .dead, .dead, .dead, .dead, .dead, .dead, .dead, .dead, (.imm (.int .i64 (IntKind.wrap .i64 (Int.fdiv (IntKind.wrap .u64 (IntKind.wrap .i64 (p1 + p3))) (2 ^ min (1 : Int).toNat (IntKind.bits .u64)))))), .dead, (.imm (.int .i64 x4q7)), .dead, .dead, .dead, (.imm (.int .i64 (IntKind.wrap .i64 ((IntKind.wrap .i64 ((IntKind.wrap .i64 (Int.fdiv (IntKind.wrap .u64 (IntKind.wrap .i64 (p1 + p3))) (2 ^ min (1 : Int).toNat (IntKind.bits .u64)))) + p2)) - x4q7)))), .dead, .dead, .dead, .dead, .dead, .dead, .dead, .dead, .dead, .dead, .dead, .dead, .dead, .dead, .dead, .dead, .dead, .dead, .dead, .dead, .dead, .dead, .dead, .dead, .dead, .dead, .dead, .dead, .dead, .dead, .dead, .dead, .dead, .dead, .dead, .dead, .dead, .dead, .dead, .dead, .dead, .dead, .dead, .dead, .dead, .dead, .dead, .dead, .dead, .dead, .dead, .dead, .dead, .dead, .dead, .dead, .dead, .dead, .dead, .dead, .dead, .dead, .dead, .dead, .dead, .dead, .dead, .dead, .dead, .dead, .dead, .dead, .dead, .dead, .dead, .dead, .dead, .dead, .dead, .dead, .dead, .dead, .dead, .dead, .dead, .dead, .dead, .dead, .dead, .dead, .dead, .dead, .dead, .dead, .dead, .dead, .dead, .dead, .dead, .dead, .dead, .dead, .dead, .dead, .dead, .dead, .dead, .dead, .dead, .dead, .dead, .dead, .dead, .dead, .dead, .dead, .dead, .dead, .dead, .dead, .dead, .dead, .dead, .dead, .dead, .dead, .dead, .dead, .dead, .dead, .dead, .dead, .dead, .dead, .dead, .dead, .dead, .dead, .dead, .dead, .dead, .dead, .dead, .dead, .dead, .dead, .dead, .dead, .dead, .dead, .dead, .dead, .dead, .dead, .dead, .dead, .dead, .dead, .dead, .dead, .dead, (.all 1000000000 1), (.imm (.int .i64 x4q7)), (.imm (.int .i64 p2)), (.imm (.int .i64 (IntKind.wrap .i64 ((IntKind.wrap .i64 ((IntKind.wrap .i64 (Int.fdiv (IntKind.wrap .u64 (IntKind.wrap .i64 (p1 + p3))) (2 ^ min (1 : Int).toNat (IntKind.bits .u64)))) + p2)) - x4q7)))), (.imm (.fn false p4d p4g)), .dead, .dead, .dead, .dead, .dead, .dead, .dead, .dead, .dead, .dead, .dead, .dead, .dead, .dead, .dead, .dead, .dead, .dead, .dead, .dead, .dead, .dead, .dead, .dead, .dead, .dead, .dead, .dead, .dead, (.tup []), (.all 1000000000 1)], []⟩
noncomputable abbrev L8 (fuel n : Nat) (s : St) (k : Kont) := lAt Try.prog X I fuel false 2 false 75 (bodyOf Try.f75) [1, 0] n s k
noncomputable abbrev k8  (fuel : Nat) : Kont := (kAt Try.prog X I fuel false 2 false 75 (bodyOf Try.f75) [1, 0] [] (endFn Try.prog Try.f75 58 (kOp Try.prog X I fuel false 3 72 (cAt (bodyOf Try.f72) [1, 1, 1]) 7 (kAt Try.prog X I fuel false 3 false 72 (bodyOf Try.f72) [1, 1, 1] [] (endFn Try.prog Try.f72 220 (kOp Try.prog X I fuel false 4 68 (cAt (bodyOf Try.f68) [1, 1, 1, 1, 1, 1, 1, 1, 1, 0, 1, 0]) 5 (kAt Try.prog X I fuel false 4 false 68 (bodyOf Try.f68) [1, 1, 1, 1, 1, 1, 1, 1, 1, 0, 1, 0] [] (endK Try.prog Try.f68))))))))
noncomputable def t8 (p2 : Int) (x5q3 : Int) (p4d : List Q → Bool) (p4g : List Q → Int) (p1 : Int) (p3 : Int) (x4q7 : Int) (x8q3 : Int) (x8q4 : List Int) : St := ⟨[(.all 1000000000 1), (.imm (.int .i64 (IntKind.wrap .i64 (p2 - x5q3)))), (.imm (.int .i64 p2)), (.imm (.int .i64 x5q3)), .dead, .dead, .dead, .dead, .dead, .dead, (.imm (.int .i64 x8q3)), .dead, .dead, .dead, .dead, .dead, .dead, .dead, .dead, .dead, .dead, .dead, .dead, .dead, .dead, .dead, .dead, .dead, .dead, .dead, .dead, .dead, .dead, .dead, .dead, .dead, .dead, .dead], hOf [(1000000000, (.ints .i64 x8q4))], [(.all 1000000000 1), .dead, (.imm (.int .i64 p2)), .dead, (.imm (.fn false p4d p4g)), .dead, .dead, .dead, .dead, .dead, (.imm (.int .i64 x5q3)), .dead, .dead, .dead, .dead, .dead, .dead, .dead, .dead, .dead, .dead, .dead, .dead, .dead, .dead, .dead, .dead, .dead, .dead, .dead, .dead, .dead, .dead, .dead, .dead, .dead, .dead, .dead, .dead, .dead, .dead, .dead, .dead, .dead, .dead, .dead, .dead, .dead, .dead, .dead, (.all 1000000000 1), (.imm (.int .i64 p2)), (.imm (.int .i64 x5q3)), (.imm (.int .i64 (IntKind.wrap .i64 (p2 - x5q3)))), (.imm (.int .i64 p2)), (.imm (.int .i64 x5q3)), (.imm (.fn false p4d p4g)), .dead, (.tup []), (.all 1000000000 1), (.imm (.int .i64 p1)), (.imm (.int .i64 p2)), (.imm (.int .i64 p3)), (.imm (.fn false p4d p4g)), .dead, .dead, .dead, .dead, .dead, .dead, .dead, .dead, .dead, .dead, .dead, .dead, .dead, (.imm (.int .i64 (IntKind.wrap .i64 (Int.fdiv (IntKind.wrap .u64 (IntKind.wrap .i64 (p1 + p3))) (2 ^ min (1 : Int).toNat (IntKind.bits .u64)))))), .dead, (.imm (.int .i64 x4q7)), .dead, .dead, .dead, (.imm (.int .i64 (IntKind.wrap .i64 ((IntKind.wrap .i64 ((IntKind.wrap .i64 (Int.fdiv (IntKind.wrap .u64 (IntKind.wrap .i64 (p1 + p3))) (2 ^ min (1 : Int).toNat (IntKind.bits .u64)))) + p2)) - x4q7)))), .dead, .dead, .dead, .dead, .dead, .dead, .dead, .dead, .dead, .dead, .dead, .dead, .dead, .dead, .dead, .dead, .dead, .dead, .dead, .dead, .dead, .dead, .dead, .dead, .dead, .dead, .dead, .dead, .dead, .dead, .dead, .dead, .dead, .dead, .dead, .dead, .dead, .dead, .dead, .dead, .dead, .dead, .dead, .dead, .dead, .dead, .dead, .dead, .dead, .dead, .dead, .dead, .dead, .dead, .dead, .dead, .dead, .dead, .dead, .dead, .dead, .dead, .dead, .dead, .dead, .dead, .dead, .dead, .dead, .dead, .dead, .dead, .dead, .dead, .dead, .dead, .dead, .dead, .dead, .dead, .dead, .dead, .dead, .dead, .dead, .dead, .dead, .dead, .dead, .dead, .dead, .dead, .dead, .dead, .dead, .dead, .dead, .dead, .dead, .dead, .dead, .dead, .dead, .dead, .dead, .dead, .dead, .dead, .dead, .dead, .dead, .dead, .dead, .dead, .dead, .dead, .dead, .dead, .dead, .dead, .dead, .dead, .dead, .dead, .dead, .dead, .dead, .dead, .dead, .dead, .dead, .dead, .dead, .dead, .dead, .dead, .dead, .dead, .dead, .dead, .dead, .dead, .dead, .dead, .dead, .dead, .dead, .dead, .dead, .dead, .dead, .dead, .dead, .dead, .dead, .dead, .dead, .dead, .dead, .dead, .dead, (.all 1000000000 1), (.imm (.int .i64 x4q7)), (.imm (.int .i64 p2)), (.imm (.int .i64 (IntKind.wrap .i64 ((IntKind.wrap .i64 ((IntKind.wrap .i64 (Int.fdiv (IntKind.wrap .u64 (IntKind.wrap .i64 (p1 + p3))) (2 ^ min (1 : Int).toNat (IntKind.bits .u64)))) + p2)) - x4q7)))), (.imm (.fn false p4d p4g)), .dead, .dead, .dead, .dead, .dead, .dead, .dead, .dead, .dead, .dead, .dead, .dead, .dead, .dead, .dead, .dead, .dead, .dead, .dead, .dead, .dead, .dead, .dead, .dead, .dead, .dead, .dead, .dead, .dead, (.tup []), (.all 1000000000 1)], []⟩
theorem e (fuel : Nat) (p0 : List Int) (p1 : Int) (p2 : Int) (p3 : Int) (p4d : List Q → Bool) (p4g : List Q → Int) : runF Try.prog X I 4 fuel 68 Try.f68 [.rows true [(.i64, p0)], .d (.int .i64 p1), .d (.int .i64 p2), .d (.int .i64 p3), .d (.fn false p4d p4g)] =
  (bif (((IntKind.wrap .i64 (p2 - p1)) : Int) == 1) then
  L0 fuel fuel (t0 p1 p4d p4g p0 p2 p3) (k0  fuel)
  else
  (bif (((IntKind.wrap .i64 (p3 - p2)) : Int) == 1) then
  L2 fuel fuel (t2 p2 p4d p4g p0 p1 p2) (k2  fuel)
  else
  (bif (decide ((p2 : Int) > (IntKind.wrap .i64 (Int.fdiv (IntKind.wrap .u64 (IntKind.wrap .i64 (p1 + p3))) (2 ^ min (1 : Int).toNat (IntKind.bits .u64)))))) then
  L4 fuel fuel (t4 p1 p2 p3 p4d p4g p0 ((IntKind.wrap .i64 ((IntKind.wrap .i64 ((IntKind.wrap .i64 (Int.fdiv (IntKind.wrap .u64 (IntKind.wrap .i64 (p1 + p3))) (2 ^ min (1 : Int).toNat (IntKind.bits .u64)))) + p2)) - p3))) ((IntKind.wrap .i64 (Int.fdiv (IntKind.wrap .u64 (IntKind.wrap .i64 (p1 + p3))) (2 ^ min (1 : Int).toNat (IntKind.bits .u64)))))) (k4  fuel)
  else
  L4 fuel fuel (t4 p1 p2 p3 p4d p4g p0 p1 p2) (k4  fuel)))) := by kernel_rfl
theorem s0 (fuel n0 : Nat) (p1 : Int) (p4d : List Q → Bool) (p4g : List Q → Int) (p0 : List Int) (x0q3 : Int) (x0q4 : Int) : L0 fuel (n0 + 1) (t0 p1 p4d p4g p0 x0q3 x0q4) (k0  fuel) =
  (bif (decide ((x0q3 : Int) < x0q4)) then
  (idx (IntKind.wrap .i64 (Int.fdiv (IntKind.wrap .u64 (IntKind.wrap .i64 (x0q3 + x0q4))) (2 ^ min (1 : Int).toNat (IntKind.bits .u64)))) p0.length).bind fun j39 =>
  (p0[j39]?).bind fun v40 =>
  (idx p1 p0.length).bind fun j41 =>
  (p0[j41]?).bind fun v42 =>
  (bif (p4d [Q.i v40, Q.i v42]) then
  (bif (decide (((p4g [Q.i v40, Q.i v42]) : Int) < 0)) then
  L0 fuel n0 (t0 p1 p4d p4g p0 ((IntKind.wrap .i64 ((IntKind.wrap .i64 (Int.fdiv (IntKind.wrap .u64 (IntKind.wrap .i64 (x0q3 + x0q4))) (2 ^ min (1 : Int).toNat (IntKind.bits .u64)))) + 1))) x0q4) (k0  fuel)
  else
  L0 fuel n0 (t0 p1 p4d p4g p0 x0q3 ((IntKind.wrap .i64 (Int.fdiv (IntKind.wrap .u64 (IntKind.wrap .i64 (x0q3 + x0q4))) (2 ^ min (1 : Int).toNat (IntKind.bits .u64)))))) (k0  fuel))
  else
  none)
  else
  L1 fuel fuel (t1 x0q3 p1 p0) (k1  fuel)) := by kernel_rfl
theorem s1 (fuel n1 : Nat) (x0q3 : Int) (x1q1 : Int) (x1q2 : List Int) : L1 fuel (n1 + 1) (t1 x0q3 x1q1 x1q2) (k1  fuel) =
  (bif (decide ((x1q1 : Int) < (IntKind.wrap .i64 (x0q3 - 1)))) then
  (idx (IntKind.wrap .i64 (x1q1 + 1)) x1q2.length).bind fun j49 =>
  (x1q2[j49]?).bind fun v50 =>
  (idx x1q1 x1q2.length).bind fun j51 =>
  (x1q2[j51]?).bind fun v52 =>
  (idx x1q1 x1q2.length).bind fun j53 =>
  (bif decide (j53 < x1q2.length) then
  (idx (IntKind.wrap .i64 (x1q1 + 1)) (x1q2.set j53 v50).length).bind fun j54 =>
  (bif decide (j54 < (x1q2.set j53 v50).length) then
  L1 fuel n1 (t1 x0q3 ((IntKind.wrap .i64 (x1q1 + 1))) (((x1q2.set j53 v50).set j54 v52))) (k1  fuel)
  else
  none)
  else
  none)
  else
  some ([], [[(.ints .i64 x1q2)]])) := by kernel_rfl
theorem s2 (fuel n2 : Nat) (p2 : Int) (p4d : List Q → Bool) (p4g : List Q → Int) (p0 : List Int) (x2q3 : Int) (x2q4 : Int) : L2 fuel (n2 + 1) (t2 p2 p4d p4g p0 x2q3 x2q4) (k2  fuel) =
  (bif (decide ((x2q3 : Int) < x2q4)) then
  (idx p2 p0.length).bind fun j93 =>
  (p0[j93]?).bind fun v94 =>
  (idx (IntKind.wrap .i64 (Int.fdiv (IntKind.wrap .u64 (IntKind.wrap .i64 (x2q3 + x2q4))) (2 ^ min (1 : Int).toNat (IntKind.bits .u64)))) p0.length).bind fun j95 =>
  (p0[j95]?).bind fun v96 =>
  (bif (p4d [Q.i v94, Q.i v96]) then
  (bif (!(decide (((p4g [Q.i v94, Q.i v96]) : Int) < 0))) then
  L2 fuel n2 (t2 p2 p4d p4g p0 ((IntKind.wrap .i64 ((IntKind.wrap .i64 (Int.fdiv (IntKind.wrap .u64 (IntKind.wrap .i64 (x2q3 + x2q4))) (2 ^ min (1 : Int).toNat (IntKind.bits .u64)))) + 1))) x2q4) (k2  fuel)
  else
  L2 fuel n2 (t2 p2 p4d p4g p0 x2q3 ((IntKind.wrap .i64 (Int.fdiv (IntKind.wrap .u64 (IntKind.wrap .i64 (x2q3 + x2q4))) (2 ^ min (1 : Int).toNat (IntKind.bits .u64)))))) (k2  fuel))
  else
  none)
  else
  L3 fuel fuel (t3 x2q3 p2 p0) (k3  fuel)) := by kernel_rfl
theorem s3 (fuel n3 : Nat) (x2q3 : Int) (x3q1 : Int) (x3q2 : List Int) : L3 fuel (n3 + 1) (t3 x2q3 x3q1 x3q2) (k3  fuel) =
  (bif (decide ((x3q1 : Int) > x2q3)) then
  (idx (IntKind.wrap .i64 (x3q1 - 1)) x3q2.length).bind fun j103 =>
  (x3q2[j103]?).bind fun v104 =>
  (idx x3q1 x3q2.length).bind fun j105 =>
  (x3q2[j105]?).bind fun v106 =>
  (idx x3q1 x3q2.length).bind fun j107 =>
  (bif decide (j107 < x3q2.length) then
  (idx (IntKind.wrap .i64 (x3q1 - 1)) (x3q2.set j107 v104).length).bind fun j108 =>
  (bif decide (j108 < (x3q2.set j107 v104).length) then
  L3 fuel n3 (t3 x2q3 ((IntKind.wrap .i64 (x3q1 - 1))) (((x3q2.set j107 v104).set j108 v106))) (k3  fuel)
  else
  none)
  else
  none)
  else
  some ([], [[(.ints .i64 x3q2)]])) := by kernel_rfl
theorem s4 (fuel n4 : Nat) (p1 : Int) (p2 : Int) (p3 : Int) (p4d : List Q → Bool) (p4g : List Q → Int) (p0 : List Int) (x4q7 : Int) (x4q8 : Int) : L4 fuel (n4 + 1) (t4 p1 p2 p3 p4d p4g p0 x4q7 x4q8) (k4  fuel) =
  (bif (decide ((x4q7 : Int) < x4q8)) then
  (idx (IntKind.wrap .i64 ((IntKind.wrap .i64 ((IntKind.wrap .i64 ((IntKind.wrap .i64 (Int.fdiv (IntKind.wrap .u64 (IntKind.wrap .i64 (p1 + p3))) (2 ^ min (1 : Int).toNat (IntKind.bits .u64)))) + p2)) - 1)) - (IntKind.wrap .i64 (Int.fdiv (IntKind.wrap .u64 (IntKind.wrap .i64 (x4q7 + x4q8))) (2 ^ min (1 : Int).toNat (IntKind.bits .u64)))))) p0.length).bind fun j315 =>
  (p0[j315]?).bind fun v316 =>
  (idx (IntKind.wrap .i64 (Int.fdiv (IntKind.wrap .u64 (IntKind.wrap .i64 (x4q7 + x4q8))) (2 ^ min (1 : Int).toNat (IntKind.bits .u64)))) p0.length).bind fun j317 =>
  (p0[j317]?).bind fun v318 =>
  (bif (p4d [Q.i v316, Q.i v318]) then
  (bif (!(decide (((p4g [Q.i v316, Q.i v318]) : Int) < 0))) then
  L4 fuel n4 (t4 p1 p2 p3 p4d p4g p0 ((IntKind.wrap .i64 ((IntKind.wrap .i64 (Int.fdiv (IntKind.wrap .u64 (IntKind.wrap .i64 (x4q7 + x4q8))) (2 ^ min (1 : Int).toNat (IntKind.bits .u64)))) + 1))) x4q8) (k4  fuel)
  else
  L4 fuel n4 (t4 p1 p2 p3 p4d p4g p0 x4q7 ((IntKind.wrap .i64 (Int.fdiv (IntKind.wrap .u64 (IntKind.wrap .i64 (x4q7 + x4q8))) (2 ^ min (1 : Int).toNat (IntKind.bits .u64)))))) (k4  fuel))
  else
  none)
  else
  (bif (decide ((x4q7 : Int) < p2)) then
  (bif (decide ((p2 : Int) < (IntKind.wrap .i64 ((IntKind.wrap .i64 ((IntKind.wrap .i64 (Int.fdiv (IntKind.wrap .u64 (IntKind.wrap .i64 (p1 + p3))) (2 ^ min (1 : Int).toNat (IntKind.bits .u64)))) + p2)) - x4q7)))) then
  L5 fuel fuel (t5 p2 p4d p4g p1 p3 x4q7 ((IntKind.wrap .i64 (p2 - x4q7))) ((IntKind.wrap .i64 ((IntKind.wrap .i64 ((IntKind.wrap .i64 ((IntKind.wrap .i64 (Int.fdiv (IntKind.wrap .u64 (IntKind.wrap .i64 (p1 + p3))) (2 ^ min (1 : Int).toNat (IntKind.bits .u64)))) + p2)) - x4q7)) - p2))) p0) (k5  fuel)
  else
  (bif (decide ((p1 : Int) < x4q7)) then
  (bif (decide ((x4q7 : Int) < (IntKind.wrap .i64 (Int.fdiv (IntKind.wrap .u64 (IntKind.wrap .i64 (p1 + p3))) (2 ^ min (1 : Int).toNat (IntKind.bits .u64)))))) then
  none
  else
  (bif (decide (((IntKind.wrap .i64 (Int.fdiv (IntKind.wrap .u64 (IntKind.wrap .i64 (p1 + p3))) (2 ^ min (1 : Int).toNat (IntKind.bits .u64)))) : Int) < (IntKind.wrap .i64 ((IntKind.wrap .i64 ((IntKind.wrap .i64 (Int.fdiv (IntKind.wrap .u64 (IntKind.wrap .i64 (p1 + p3))) (2 ^ min (1 : Int).toNat (IntKind.bits .u64)))) + p2)) - x4q7)))) then
  (bif (decide (((IntKind.wrap .i64 ((IntKind.wrap .i64 ((IntKind.wrap .i64 (Int.fdiv (IntKind.wrap .u64 (IntKind.wrap .i64 (p1 + p3))) (2 ^ min (1 : Int).toNat (IntKind.bits .u64)))) + p2)) - x4q7)) : Int) < p3)) then
  none
  else
  some ([], [[(.ints .i64 p0)]]))
  else
  some ([], [[(.ints .i64 p0)]])))
  else
  (bif (decide (((IntKind.wrap .i64 (Int.fdiv (IntKind.wrap .u64 (IntKind.wrap .i64 (p1 + p3))) (2 ^ min (1 : Int).toNat (IntKind.bits .u64)))) : Int) < (IntKind.wrap .i64 ((IntKind.wrap .i64 ((IntKind.wrap .i64 (Int.fdiv (IntKind.wrap .u64 (IntKind.wrap .i64 (p1 + p3))) (2 ^ min (1 : Int).toNat (IntKind.bits .u64)))) + p2)) - x4q7)))) then
  (bif (decide (((IntKind.wrap .i64 ((IntKind.wrap .i64 ((IntKind.wrap .i64 (Int.fdiv (IntKind.wrap .u64 (IntKind.wrap .i64 (p1 + p3))) (2 ^ min (1 : Int).toNat (IntKind.bits .u64)))) + p2)) - x4q7)) : Int) < p3)) then
  none
  else
  some ([], [[(.ints .i64 p0)]]))
  else
  some ([], [[(.ints .i64 p0)]]))))
  else
  (bif (decide ((p1 : Int) < x4q7)) then
  (bif (decide ((x4q7 : Int) < (IntKind.wrap .i64 (Int.fdiv (IntKind.wrap .u64 (IntKind.wrap .i64 (p1 + p3))) (2 ^ min (1 : Int).toNat (IntKind.bits .u64)))))) then
  none
  else
  (bif (decide (((IntKind.wrap .i64 (Int.fdiv (IntKind.wrap .u64 (IntKind.wrap .i64 (p1 + p3))) (2 ^ min (1 : Int).toNat (IntKind.bits .u64)))) : Int) < (IntKind.wrap .i64 ((IntKind.wrap .i64 ((IntKind.wrap .i64 (Int.fdiv (IntKind.wrap .u64 (IntKind.wrap .i64 (p1 + p3))) (2 ^ min (1 : Int).toNat (IntKind.bits .u64)))) + p2)) - x4q7)))) then
  (bif (decide (((IntKind.wrap .i64 ((IntKind.wrap .i64 ((IntKind.wrap .i64 (Int.fdiv (IntKind.wrap .u64 (IntKind.wrap .i64 (p1 + p3))) (2 ^ min (1 : Int).toNat (IntKind.bits .u64)))) + p2)) - x4q7)) : Int) < p3)) then
  none
  else
  some ([], [[(.ints .i64 p0)]]))
  else
  some ([], [[(.ints .i64 p0)]])))
  else
  (bif (decide (((IntKind.wrap .i64 (Int.fdiv (IntKind.wrap .u64 (IntKind.wrap .i64 (p1 + p3))) (2 ^ min (1 : Int).toNat (IntKind.bits .u64)))) : Int) < (IntKind.wrap .i64 ((IntKind.wrap .i64 ((IntKind.wrap .i64 (Int.fdiv (IntKind.wrap .u64 (IntKind.wrap .i64 (p1 + p3))) (2 ^ min (1 : Int).toNat (IntKind.bits .u64)))) + p2)) - x4q7)))) then
  (bif (decide (((IntKind.wrap .i64 ((IntKind.wrap .i64 ((IntKind.wrap .i64 (Int.fdiv (IntKind.wrap .u64 (IntKind.wrap .i64 (p1 + p3))) (2 ^ min (1 : Int).toNat (IntKind.bits .u64)))) + p2)) - x4q7)) : Int) < p3)) then
  none
  else
  some ([], [[(.ints .i64 p0)]]))
  else
  some ([], [[(.ints .i64 p0)]]))))) := by kernel_rfl
theorem s5 (fuel n5 : Nat) (p2 : Int) (p4d : List Q → Bool) (p4g : List Q → Int) (p1 : Int) (p3 : Int) (x4q7 : Int) (x5q3 : Int) (x5q4 : Int) (x5q5 : List Int) : L5 fuel (n5 + 1) (t5 p2 p4d p4g p1 p3 x4q7 x5q3 x5q4 x5q5) (k5  fuel) =
  (bif ((x5q3 : Int) != x5q4) then
  (bif (decide ((x5q3 : Int) > x5q4)) then
  L6 fuel fuel (t6 p2 x5q3 x5q4 p4d p4g p1 p3 x4q7 0 x5q5) (k6 n5 fuel)
  else
  L7 fuel fuel (t7 p2 x5q3 x5q4 p4d p4g p1 p3 x4q7 0 x5q5) (k7 n5 fuel))
  else
  L8 fuel fuel (t8 p2 x5q3 p4d p4g p1 p3 x4q7 0 x5q5) (k8  fuel)) := by kernel_rfl
theorem s6 (fuel n5 n6 : Nat) (p2 : Int) (x5q3 : Int) (x5q4 : Int) (p4d : List Q → Bool) (p4g : List Q → Int) (p1 : Int) (p3 : Int) (x4q7 : Int) (x6q3 : Int) (x6q4 : List Int) : L6 fuel (n6 + 1) (t6 p2 x5q3 x5q4 p4d p4g p1 p3 x4q7 x6q3 x6q4) (k6 n5 fuel) =
  (bif (decide ((x6q3 : Int) < x5q4)) then
  (idx (IntKind.wrap .i64 (p2 + x6q3)) x6q4.length).bind fun j361 =>
  (x6q4[j361]?).bind fun v362 =>
  (idx (IntKind.wrap .i64 ((IntKind.wrap .i64 (p2 - x5q3)) + x6q3)) x6q4.length).bind fun j363 =>
  (x6q4[j363]?).bind fun v364 =>
  (idx (IntKind.wrap .i64 ((IntKind.wrap .i64 (p2 - x5q3)) + x6q3)) x6q4.length).bind fun j365 =>
  (bif decide (j365 < x6q4.length) then
  (idx (IntKind.wrap .i64 (p2 + x6q3)) (x6q4.set j365 v362).length).bind fun j366 =>
  (bif decide (j366 < (x6q4.set j365 v362).length) then
  L6 fuel n6 (t6 p2 x5q3 x5q4 p4d p4g p1 p3 x4q7 ((IntKind.wrap .i64 (x6q3 + 1))) (((x6q4.set j365 v362).set j366 v364))) (k6 n5 fuel)
  else
  none)
  else
  none)
  else
  L5 fuel n5 (t5 p2 p4d p4g p1 p3 x4q7 ((IntKind.wrap .i64 (x5q3 - x5q4))) x5q4 x6q4) (k5  fuel)) := by kernel_rfl
theorem s7 (fuel n5 n7 : Nat) (p2 : Int) (x5q3 : Int) (x5q4 : Int) (p4d : List Q → Bool) (p4g : List Q → Int) (p1 : Int) (p3 : Int) (x4q7 : Int) (x7q3 : Int) (x7q4 : List Int) : L7 fuel (n7 + 1) (t7 p2 x5q3 x5q4 p4d p4g p1 p3 x4q7 x7q3 x7q4) (k7 n5 fuel) =
  (bif (decide ((x7q3 : Int) < x5q3)) then
  (idx (IntKind.wrap .i64 ((IntKind.wrap .i64 ((IntKind.wrap .i64 (p2 + x5q4)) - x5q3)) + x7q3)) x7q4.length).bind fun j373 =>
  (x7q4[j373]?).bind fun v374 =>
  (idx (IntKind.wrap .i64 ((IntKind.wrap .i64 (p2 - x5q3)) + x7q3)) x7q4.length).bind fun j375 =>
  (x7q4[j375]?).bind fun v376 =>
  (idx (IntKind.wrap .i64 ((IntKind.wrap .i64 (p2 - x5q3)) + x7q3)) x7q4.length).bind fun j377 =>
  (bif decide (j377 < x7q4.length) then
  (idx (IntKind.wrap .i64 ((IntKind.wrap .i64 ((IntKind.wrap .i64 (p2 + x5q4)) - x5q3)) + x7q3)) (x7q4.set j377 v374).length).bind fun j378 =>
  (bif decide (j378 < (x7q4.set j377 v374).length) then
  L7 fuel n7 (t7 p2 x5q3 x5q4 p4d p4g p1 p3 x4q7 ((IntKind.wrap .i64 (x7q3 + 1))) (((x7q4.set j377 v374).set j378 v376))) (k7 n5 fuel)
  else
  none)
  else
  none)
  else
  L5 fuel n5 (t5 p2 p4d p4g p1 p3 x4q7 x5q3 ((IntKind.wrap .i64 (x5q4 - x5q3))) x7q4) (k5  fuel)) := by kernel_rfl
theorem s8 (fuel n8 : Nat) (p2 : Int) (x5q3 : Int) (p4d : List Q → Bool) (p4g : List Q → Int) (p1 : Int) (p3 : Int) (x4q7 : Int) (x8q3 : Int) (x8q4 : List Int) : L8 fuel (n8 + 1) (t8 p2 x5q3 p4d p4g p1 p3 x4q7 x8q3 x8q4) (k8  fuel) =
  (bif (decide ((x8q3 : Int) < x5q3)) then
  (idx (IntKind.wrap .i64 (p2 + x8q3)) x8q4.length).bind fun j385 =>
  (x8q4[j385]?).bind fun v386 =>
  (idx (IntKind.wrap .i64 ((IntKind.wrap .i64 (p2 - x5q3)) + x8q3)) x8q4.length).bind fun j387 =>
  (x8q4[j387]?).bind fun v388 =>
  (idx (IntKind.wrap .i64 ((IntKind.wrap .i64 (p2 - x5q3)) + x8q3)) x8q4.length).bind fun j389 =>
  (bif decide (j389 < x8q4.length) then
  (idx (IntKind.wrap .i64 (p2 + x8q3)) (x8q4.set j389 v386).length).bind fun j390 =>
  (bif decide (j390 < (x8q4.set j389 v386).length) then
  L8 fuel n8 (t8 p2 x5q3 p4d p4g p1 p3 x4q7 ((IntKind.wrap .i64 (x8q3 + 1))) (((x8q4.set j389 v386).set j390 v388))) (k8  fuel)
  else
  none)
  else
  none)
  else
  (bif (decide ((p1 : Int) < x4q7)) then
  (bif (decide ((x4q7 : Int) < (IntKind.wrap .i64 (Int.fdiv (IntKind.wrap .u64 (IntKind.wrap .i64 (p1 + p3))) (2 ^ min (1 : Int).toNat (IntKind.bits .u64)))))) then
  none
  else
  (bif (decide (((IntKind.wrap .i64 (Int.fdiv (IntKind.wrap .u64 (IntKind.wrap .i64 (p1 + p3))) (2 ^ min (1 : Int).toNat (IntKind.bits .u64)))) : Int) < (IntKind.wrap .i64 ((IntKind.wrap .i64 ((IntKind.wrap .i64 (Int.fdiv (IntKind.wrap .u64 (IntKind.wrap .i64 (p1 + p3))) (2 ^ min (1 : Int).toNat (IntKind.bits .u64)))) + p2)) - x4q7)))) then
  (bif (decide (((IntKind.wrap .i64 ((IntKind.wrap .i64 ((IntKind.wrap .i64 (Int.fdiv (IntKind.wrap .u64 (IntKind.wrap .i64 (p1 + p3))) (2 ^ min (1 : Int).toNat (IntKind.bits .u64)))) + p2)) - x4q7)) : Int) < p3)) then
  none
  else
  some ([], [[(.ints .i64 x8q4)]]))
  else
  some ([], [[(.ints .i64 x8q4)]])))
  else
  (bif (decide (((IntKind.wrap .i64 (Int.fdiv (IntKind.wrap .u64 (IntKind.wrap .i64 (p1 + p3))) (2 ^ min (1 : Int).toNat (IntKind.bits .u64)))) : Int) < (IntKind.wrap .i64 ((IntKind.wrap .i64 ((IntKind.wrap .i64 (Int.fdiv (IntKind.wrap .u64 (IntKind.wrap .i64 (p1 + p3))) (2 ^ min (1 : Int).toNat (IntKind.bits .u64)))) + p2)) - x4q7)))) then
  (bif (decide (((IntKind.wrap .i64 ((IntKind.wrap .i64 ((IntKind.wrap .i64 (Int.fdiv (IntKind.wrap .u64 (IntKind.wrap .i64 (p1 + p3))) (2 ^ min (1 : Int).toNat (IntKind.bits .u64)))) + p2)) - x4q7)) : Int) < p3)) then
  none
  else
  some ([], [[(.ints .i64 x8q4)]]))
  else
  some ([], [[(.ints .i64 x8q4)]])))) := by kernel_rfl
end slices_symMergeCmpFunc_int_u1
theorem slices_symMergeCmpFunc_int_u1.ok_of (hX : ∀ E ∈ slices_symMergeCmpFunc_int_u1.X, CallSpec Try.prog E) (h : ∀ (xs : List Int) (a : Int) (m : Int) (b : Int) (dom : List Q → Bool) (G : List Q → Int), (decide ((xs : List Int).length ≤ 60) && domA dom xs && upW G xs && decide (0 ≤ a) && decide (a < m) && decide (m < b) && decide (b ≤ (((xs : List Int).length : Nat) : Int)) && decide (b - a ≤ 2)) = true → ∃ fuel, runF Try.prog slices_symMergeCmpFunc_int_u1.X slices_symMergeCmpFunc_int_u1.I 4 fuel 68 Try.f68 [.rows true [(.i64, xs)], .d (.int .i64 a), .d (.int .i64 m), .d (.int .i64 b), .d (.fn false dom G)] = some ([], [[(.ints .i64 xs)]])) : CallSpec Try.prog slices_symMergeCmpFunc_int_u1.E :=
  callSpec_of (d := 4) hX (by kernel_rfl) slices_symMergeCmpFunc_int_u1.I_ok (by kernel_rfl) (by kernel_rfl) (by kernel_rfl) (fun _ _ _ _ h => by dsimp only [slices_symMergeCmpFunc_int_u1.E] at h; cases h) (fun xs hp => by
    dsimp only [slices_symMergeCmpFunc_int_u1.E] at hp ⊢
    split at hp
    · exact h _ _ _ _ _ _ hp
    · cases hp)
theorem slices_symMergeCmpFunc_int_u1.left {F : Nat} {xs : List Int} {a m : Nat} {dom : List Q → Bool} {G : List Q → Int} (hd : domA dom xs = true) (hu : upW G xs = true) (hl : xs.length ≤ 60) (hm : m = a + 1) (hF : 200 < F) : ∀ (d n j : Nat), j - m ≤ d → m ≤ j → j ≤ xs.length → d < n →
    slices_symMergeCmpFunc_int_u1.L0 F n (slices_symMergeCmpFunc_int_u1.t0 (a : Int) dom G xs (m : Int) (j : Int)) (slices_symMergeCmpFunc_int_u1.k0 F) = some ([], [[(.ints .i64 xs)]]) := by
  intro d
  induction d with
  | zero =>
    intro n j h1 h2 h3 h4
    obtain ⟨n, rfl⟩ : ∃ k, n = k + 1 := ⟨n - 1, by omega⟩
    obtain ⟨f, rfl⟩ : ∃ k, F = k + 1 := ⟨F - 1, by omega⟩
    rw [slices_symMergeCmpFunc_int_u1.s0, decide_eq_false (by omega), cond_false, slices_symMergeCmpFunc_int_u1.s1, wS (by omega) (by omega), decide_eq_false (by omega)]
    rfl
  | succ d ih =>
    intro n j h1 h2 h3 h4
    obtain ⟨n, rfl⟩ : ∃ k, n = k + 1 := ⟨n - 1, by omega⟩
    by_cases hj : m < j
    · have hh : (m + j) / 2 < xs.length := by omega
      have ha : a < xs.length := by omega
      have hdm := domA_get hd (mem_getD hh) (mem_getD ha)
      have hup := up_get hu (i := a) (j := (m + j) / 2) (by omega) hh
      rw [slices_symMergeCmpFunc_int_u1.s0, decide_eq_true (by omega), cond_true, halfW (by omega), idx_nat hh, idx_nat ha]
      simp only [Option.bind_some, getD_get hh, getD_get ha, hdm, hup, cond_true, cond_false]
      exact ih n ((m + j) / 2) (by omega) (by omega) (by omega) (by omega)
    · obtain ⟨f, rfl⟩ : ∃ k, F = k + 1 := ⟨F - 1, by omega⟩
      rw [slices_symMergeCmpFunc_int_u1.s0, decide_eq_false (by omega), cond_false, slices_symMergeCmpFunc_int_u1.s1, wS (by omega) (by omega), decide_eq_false (by omega)]
      rfl
theorem slices_symMergeCmpFunc_int_u1.right {F : Nat} {xs : List Int} {m : Nat} {dom : List Q → Bool} {G : List Q → Int} (hd : domA dom xs = true) (hu : upW G xs = true) (hl : xs.length ≤ 60) (hm : m < xs.length) (hF : 200 < F) : ∀ (d n i : Nat), m - i ≤ d → i ≤ m → d < n →
    slices_symMergeCmpFunc_int_u1.L2 F n (slices_symMergeCmpFunc_int_u1.t2 (m : Int) dom G xs (i : Int) (m : Int)) (slices_symMergeCmpFunc_int_u1.k2 F) = some ([], [[(.ints .i64 xs)]]) := by
  intro d
  induction d with
  | zero =>
    intro n i h1 h2 h4
    obtain ⟨n, rfl⟩ : ∃ k, n = k + 1 := ⟨n - 1, by omega⟩
    obtain ⟨f, rfl⟩ : ∃ k, F = k + 1 := ⟨F - 1, by omega⟩
    rw [slices_symMergeCmpFunc_int_u1.s2, decide_eq_false (by omega), cond_false, slices_symMergeCmpFunc_int_u1.s3, decide_eq_false (by omega)]
    rfl
  | succ d ih =>
    intro n i h1 h2 h4
    obtain ⟨n, rfl⟩ : ∃ k, n = k + 1 := ⟨n - 1, by omega⟩
    by_cases hj : i < m
    · have hh : (i + m) / 2 < xs.length := by omega
      have hdm := domA_get hd (mem_getD hm) (mem_getD hh)
      have hup := up_get hu (i := (i + m) / 2) (j := m) (by omega) hm
      rw [slices_symMergeCmpFunc_int_u1.s2, decide_eq_true (by omega), cond_true, halfW (by omega), idx_nat hh, idx_nat hm]
      simp only [Option.bind_some, getD_get hh, getD_get hm, hdm, hup, cond_true, Bool.not_false]
      rw [w1 (by omega)]
      exact ih n ((i + m) / 2 + 1) (by omega) (by omega) (by omega)
    · obtain ⟨f, rfl⟩ : ∃ k, F = k + 1 := ⟨F - 1, by omega⟩
      rw [slices_symMergeCmpFunc_int_u1.s2, decide_eq_false (by omega), cond_false, slices_symMergeCmpFunc_int_u1.s3, decide_eq_false (by omega)]
      rfl
theorem slices_symMergeCmpFunc_int_u1.seek {F : Nat} {xs : List Int} {a m b r : Nat} {dom : List Q → Bool} {G : List Q → Int} (hd : domA dom xs = true) (hu : upW G xs = true) (hl : xs.length ≤ 60) (hb : b ≤ xs.length) (ham : a + 1 < m) (hmb : m + 1 < b) (hsz : b ≤ a + 2) (hF : 200 < F)
    (hr : (m > (a + b) / 2 ∧ r = (a + b) / 2) ∨ (m ≤ (a + b) / 2 ∧ r = m)) : ∀ (d n s : Nat), r - s ≤ d → s ≤ r → (m ≤ (a + b) / 2 → a ≤ s) → (m > (a + b) / 2 → (a + b) / 2 + m ≤ s + b) → d < n →
    slices_symMergeCmpFunc_int_u1.L4 F n (slices_symMergeCmpFunc_int_u1.t4 (a : Int) (m : Int) (b : Int) dom G xs (s : Int) (r : Int)) (slices_symMergeCmpFunc_int_u1.k4 F) = some ([], [[(.ints .i64 xs)]]) := by
  have hfin : ∀ n : Nat, slices_symMergeCmpFunc_int_u1.L4 F (n + 1) (slices_symMergeCmpFunc_int_u1.t4 (a : Int) (m : Int) (b : Int) dom G xs (r : Int) (r : Int)) (slices_symMergeCmpFunc_int_u1.k4 F) = some ([], [[(.ints .i64 xs)]]) := by
    intro n
    rw [slices_symMergeCmpFunc_int_u1.s4, decide_eq_false (by omega), cond_false, halfW (by omega), wAdd (by omega)]
    rcases hr with ⟨c1, rfl⟩ | ⟨c1, rfl⟩
    · rw [wS (x := (((a + b) / 2 + m : Nat) : Int) - (((a + b) / 2 : Nat) : Int)) (by omega) (by omega), show (((a + b) / 2 + m : Nat) : Int) - (((a + b) / 2 : Nat) : Int) = (m : Int) by omega]
      exfalso; omega
    · rw [wS (x := (((a + b) / 2 + r : Nat) : Int) - (r : Int)) (by omega) (by omega), show (((a + b) / 2 + r : Nat) : Int) - (r : Int) = (((a + b) / 2 : Nat) : Int) by omega]
      exfalso; omega
  intro d
  induction d with
  | zero =>
    intro n s h1 h2 h3 h4 h5
    obtain ⟨n, rfl⟩ : ∃ k, n = k + 1 := ⟨n - 1, by omega⟩
    obtain rfl : s = r := by omega
    exact hfin n
  | succ d ih =>
    intro n s h1 h2 h3 h4 h5
    obtain ⟨n, rfl⟩ : ∃ k, n = k + 1 := ⟨n - 1, by omega⟩
    by_cases hj : s < r
    · have hh : (s + r) / 2 < xs.length := by omega
      have hp : (a + b) / 2 + m - 1 - (s + r) / 2 < xs.length := by omega
      have hdm := domA_get hd (mem_getD hp) (mem_getD hh)
      have hup := up_get hu (i := (s + r) / 2) (j := (a + b) / 2 + m - 1 - (s + r) / 2) (by omega) hp
      rw [slices_symMergeCmpFunc_int_u1.s4, decide_eq_true (by omega), cond_true, halfW (by omega), halfW (by omega), wAdd (by omega), wS (x := (((a + b) / 2 + m : Nat) : Int) - 1) (by omega) (by omega), wS (x := (((a + b) / 2 + m : Nat) : Int) - 1 - (((s + r) / 2 : Nat) : Int)) (by omega) (by omega), show (((a + b) / 2 + m : Nat) : Int) - 1 - (((s + r) / 2 : Nat) : Int) = (((a + b) / 2 + m - 1 - (s + r) / 2 : Nat) : Int) by omega, idx_nat hh, idx_nat hp]
      simp only [Option.bind_some, getD_get hh, getD_get hp, hdm, hup, cond_true, Bool.not_false]
      rw [w1 (by omega)]
      exact ih n ((s + r) / 2 + 1) (by omega) (by omega) (by omega) (by omega) (by omega)
    · obtain rfl : s = r := by omega
      exact hfin n
theorem slices_symMergeCmpFunc_int_u1.ok : CallSpec Try.prog slices_symMergeCmpFunc_int_u1.E := slices_symMergeCmpFunc_int_u1.ok_of (by simp [slices_symMergeCmpFunc_int_u1.X, slices_symMergeCmpFunc_int.ok]) fun xs a m b dom G h => by
  obtain ⟨F, hF⟩ : ∃ F : Nat, 200 < F := ⟨201, by omega⟩
  refine ⟨F, ?_⟩
  simp only [Bool.and_eq_true, decide_eq_true_eq] at h
  obtain ⟨⟨⟨⟨⟨⟨⟨hl, hd⟩, hu⟩, h0⟩, h1⟩, h2⟩, h3⟩, h4⟩ := h
  obtain ⟨a, rfl⟩ : ∃ n : Nat, a = n := ⟨a.toNat, by omega⟩
  obtain ⟨m, rfl⟩ : ∃ n : Nat, m = n := ⟨m.toNat, by omega⟩
  obtain ⟨b, rfl⟩ : ∃ n : Nat, b = n := ⟨b.toNat, by omega⟩
  rw [slices_symMergeCmpFunc_int_u1.e, wS (x := (m : Int) - (a : Int)) (by omega) (by omega), wS (x := (b : Int) - (m : Int)) (by omega) (by omega)]
  by_cases e1 : m = a + 1
  · rw [show (((m : Int) - (a : Int)) == 1) = true from beq_iff_eq.2 (by omega), cond_true]
    exact slices_symMergeCmpFunc_int_u1.left hd hu hl e1 hF 100 F b (by omega) (by omega) (by omega) (by omega)
  rw [show (((m : Int) - (a : Int)) == 1) = false from beq_eq_false_iff_ne.2 (by omega), cond_false]
  by_cases e2 : b = m + 1
  · rw [show (((b : Int) - (m : Int)) == 1) = true from beq_iff_eq.2 (by omega), cond_true]
    exact slices_symMergeCmpFunc_int_u1.right hd hu hl (by omega) hF 100 F a (by omega) (by omega) (by omega)
  rw [show (((b : Int) - (m : Int)) == 1) = false from beq_eq_false_iff_ne.2 (by omega), cond_false, halfW (by omega)]
  by_cases e3 : m > (a + b) / 2
  · rw [decide_eq_true (by omega), cond_true, wAdd (by omega), wS (x := (((a + b) / 2 + m : Nat) : Int) - (b : Int)) (by omega) (by omega), show (((a + b) / 2 + m : Nat) : Int) - (b : Int) = (((a + b) / 2 + m - b : Nat) : Int) by omega]
    exact slices_symMergeCmpFunc_int_u1.seek hd hu hl (by omega) (by omega) (by omega) (by omega) hF (.inl ⟨e3, rfl⟩) 100 F _ (by omega) (by omega) (by omega) (by omega) (by omega)
  · rw [decide_eq_false (by omega), cond_false]
    exact slices_symMergeCmpFunc_int_u1.seek hd hu hl (by omega) (by omega) (by omega) (by omega) hF (.inr ⟨by omega, rfl⟩) 100 F _ (by omega) (by omega) (by omega) (by omega) (by omega)

namespace slices_symMergeCmpFunc_int_u2
noncomputable def E : Entry := ⟨68, false, true, fun | [.rows true [(.i64, xs)], .d (.int .i64 a), .d (.int .i64 m), .d (.int .i64 b), .d (.fn false dom G)] => decide ((xs : List Int).length ≤ 60) && domA dom xs && upW G xs && decide (0 ≤ a) && decide (a < m) && decide (m < b) && decide (b ≤ (((xs : List Int).length : Nat) : Int)) && decide (b - a ≤ 4) | _ => false, fun | [.rows true [(.i64, xs)], .d (.int .i64 a), .d (.int .i64 m), .d (.int .i64 b), .d (.fn false dom G)] => ([], [[(.ints .i64 xs)]]) | _ => ([], []), fun _ => [], false, fun _ => none⟩
end slices_symMergeCmpFunc_int_u2
namespace slices_symMergeCmpFunc_int_u2
noncomputable def X : List Entry := [slices_symMergeCmpFunc_int_u1.E]
noncomputable def I : List Inl := [⟨68, Try.f68, ⟨[], [(40, [5, 6, 7, 8, 9, 10, 11, 12, 13, 14, 15, 16, 17, 19, 21, 22, 23, 25, 26, 27, 28, 29, 30, 31, 32, 33, 34, 35, 36, 37, 38, 39, 40, 41, 42, 43, 44, 45, 46, 47, 48, 49, 50, 51, 52, 53, 54, 55, 56, 57, 58, 59, 60, 61, 62, 63, 64, 65, 66, 67, 68, 69, 70, 71, 72, 73, 74, 75, 76, 77, 78, 79, 80, 81, 82, 83, 84, 85, 86, 87, 88, 89, 90, 91, 92, 93, 94, 95, 96, 97, 98, 99, 100, 101, 102, 103, 104, 105, 106, 107, 108, 109, 110, 111, 112, 113, 114, 115, 116, 117, 118, 119, 120, 121, 122, 123, 124, 125, 126, 127, 128, 129, 130, 131, 132, 133, 134, 135, 136, 137, 138, 139, 140, 141, 142, 143, 144, 145, 146, 147, 148, 149, 150, 151, 152, 153, 154, 155, 156, 157, 158, 159, 160, 161, 162, 163, 164, 165, 166, 167, 168, 169, 170, 171, 172, 173, 174, 175, 176, 177, 178, 179, 180, 181, 182, 183, 184, 185, 186, 187, 188, 189, 190, 191, 192, 193, 194, 195, 196, 197, 198, 199, 200, 201, 202, 203, 204, 205, 206, 207, 208, 209, 210, 211, 212, 213, 214, 215, 216, 217, 218, 219]), (1000003, [2, 3, 5, 6, 7, 8, 9, 12, 13, 14, 15, 16, 17, 18, 19, 20, 21, 22, 23, 24, 25, 26, 27, 28, 29, 30, 31, 32, 33, 34, 35, 36, 37, 38, 39, 40, 41, 42, 43, 44, 45, 46, 47, 48, 49, 50, 51, 52, 53, 54, 55, 56, 57, 58, 59, 60, 61, 62, 63, 64, 65, 66, 67, 68, 69, 70, 71, 72, 73, 74, 75, 76, 77, 78, 79, 80, 81, 82, 83, 84, 85, 86, 87, 88, 89, 90, 91, 92, 93, 94, 95, 96, 97, 98, 99, 100, 101, 102, 103, 104, 105, 106, 107, 108, 109, 110, 111, 112, 113, 114, 115, 116, 117, 118, 119, 120, 121, 122, 123, 124, 125, 126, 127, 128, 129, 130, 131, 132, 133, 134, 135, 136, 137, 138, 139, 140, 141, 142, 143, 144, 145, 146, 147, 148, 149, 150, 151, 152, 153, 154, 155, 156, 157, 158, 159, 160, 161, 162, 163, 164, 165, 166, 167, 168, 169, 170, 171, 172, 173, 174, 175, 176, 177, 178, 179, 180, 181, 182, 183, 184, 185, 186, 187, 188, 189, 190, 191, 192, 193, 194, 195, 196, 197, 198, 199, 200, 201, 202, 203, 204, 205, 206, 207, 208, 209, 210, 211, 212, 213, 214, 215, 216, 217, 218, 219]), (1000009, [1, 2, 3, 4, 5, 6, 7, 8, 9, 11, 12, 14, 15, 16, 17, 18, 19, 20, 21, 22, 23, 24, 25, 26, 27, 28, 29, 30, 31, 32, 33, 34, 35, 36, 37, 38, 39, 40, 41, 42, 43, 44, 45, 46, 47, 48, 49, 50, 51, 52, 53, 54, 55, 56, 57, 58, 59, 60, 61, 62, 63, 64, 65, 66, 67, 68, 69, 70, 71, 72, 73, 74, 75, 76, 77, 78, 79, 80, 81, 82, 83, 84, 85, 86, 87, 88, 89, 90, 91, 92, 93, 94, 95, 96, 97, 98, 99, 100, 101, 102, 103, 104, 105, 106, 107, 108, 109, 110, 111, 112, 113, 114, 115, 116, 117, 118, 119, 120, 121, 122, 123, 124, 125, 126, 127, 128, 129, 130, 131, 132, 133, 134, 135, 136, 137, 138, 139, 140, 141, 142, 143, 144, 145, 146, 147, 148, 149, 150, 151, 152, 153, 154, 155, 156, 157, 158, 159, 160, 161, 162, 163, 164, 165, 166, 167, 168, 169, 170, 171, 172, 173, 174, 175, 176, 177, 178, 179, 180, 181, 182, 183, 184, 185, 186, 187, 188, 189, 190, 191, 192, 193, 194, 195, 196, 197, 198, 199, 200, 201, 202, 203, 204, 205, 206, 207, 208, 209, 210, 211, 212, 213, 214, 215, 216, 217, 218, 219]), (1000015, [1, 3, 5, 6, 7, 8, 9, 10, 11, 12, 13, 16, 17, 18, 19, 20, 21, 22, 23, 24, 25, 26, 27, 28, 29, 30, 31, 32, 33, 34, 35, 36, 37, 38, 39, 40, 41, 42, 43, 44, 45, 46, 47, 48, 49, 50, 51, 52, 53, 54, 55, 56, 57, 58, 59, 60, 61, 62, 63, 64, 65, 66, 67, 68, 69, 70, 71, 72, 73, 74, 75, 76, 77, 78, 79, 80, 81, 82, 83, 84, 85, 86, 87, 88, 89, 90, 91, 92, 93, 94, 95, 96, 97, 98, 99, 100, 101, 102, 103, 104, 105, 106, 107, 108, 109, 110, 111, 112, 113, 114, 115, 116, 117, 118, 119, 120, 121, 122, 123, 124, 125, 126, 127, 128, 129, 130, 131, 132, 133, 134, 135, 136, 137, 138, 139, 140, 141, 142, 143, 144, 145, 146, 147, 148, 149, 150, 151, 152, 153, 154, 155, 156, 157, 158, 159, 160, 161, 162, 163, 164, 165, 166, 167, 168, 169, 170, 171, 172, 173, 174, 175, 176, 177, 178, 179, 180, 181, 182, 183, 184, 185, 186, 187, 188, 189, 190, 191, 192, 193, 194, 195, 196, 197, 198, 199, 200, 201, 202, 203, 204, 205, 206, 207, 208, 209, 210, 211, 212, 213, 214, 215, 216, 217, 218, 219]), (1000021, [1, 2, 3, 4, 5, 6, 7, 8, 9, 10, 11, 12, 13, 15, 16, 18, 19, 20, 21, 22, 23, 24, 25, 26, 27, 28, 29, 30, 31, 32, 33, 34, 35, 36, 37, 38, 39, 40, 41, 42, 43, 44, 45, 46, 47, 48, 49, 50, 51, 52, 53, 54, 55, 56, 57, 58, 59, 60, 61, 62, 63, 64, 65, 66, 67, 68, 69, 70, 71, 72, 73, 74, 75, 76, 77, 78, 79, 80, 81, 82, 83, 84, 85, 86, 87, 88, 89, 90, 91, 92, 93, 94, 95, 96, 97, 98, 99, 100, 101, 102, 103, 104, 105, 106, 107, 108, 109, 110, 111, 112, 113, 114, 115, 116, 117, 118, 119, 120, 121, 122, 123, 124, 125, 126, 127, 128, 129, 130, 131, 132, 133, 134, 135, 136, 137, 138, 139, 140, 141, 142, 143, 144, 145, 146, 147, 148, 149, 150, 151, 152, 153, 154, 155, 156, 157, 158, 159, 160, 161, 162, 163, 164, 165, 166, 167, 168, 169, 170, 171, 172, 173, 174, 175, 176, 177, 178, 179, 180, 181, 182, 183, 184, 185, 186, 187, 188, 189, 190, 191, 192, 193, 194, 195, 196, 197, 198, 199, 200, 201, 202, 203, 204, 205, 206, 207, 208, 209, 210, 211, 212, 213, 214, 215, 216, 217, 218, 219]), (1000033, [5, 6, 7, 8, 9, 10, 11, 12, 13, 14, 15, 16, 17, 23, 24, 25, 26, 27, 28, 29, 30, 31, 32, 33, 34, 35, 36, 37, 38, 39, 40, 41, 42, 43, 44, 45, 46, 47, 48, 49, 50, 51, 52, 53, 54, 55, 56, 57, 58, 59, 60, 61, 62, 63, 64, 65, 66, 67, 68, 69, 70, 71, 72, 73, 74, 75, 76, 77, 78, 79, 80, 81, 82, 83, 84, 85, 86, 87, 88, 89, 90, 91, 92, 93, 94, 95, 96, 97, 98, 99, 100, 101, 102, 103, 104, 105, 106, 107, 108, 109, 110, 111, 112, 113, 114, 115, 116, 117, 118, 119, 120, 121, 122, 123, 124, 125, 126, 127, 128, 129, 130, 131, 132, 133, 134, 135, 136, 137, 138, 139, 140, 141, 142, 143, 144, 145, 146, 147, 148, 149, 150, 151, 152, 153, 154, 155, 156, 157, 158, 159, 160, 161, 162, 163, 164, 165, 166, 167, 168, 169, 170, 171, 172, 173, 174, 175, 176, 177, 178, 179, 180, 181, 182, 183, 184, 185, 186, 187, 188, 189, 190, 191, 192, 193, 194, 195, 196, 197, 198, 199, 200, 201, 202, 203, 204, 205, 206, 207, 208, 209, 210, 211, 212, 213, 214, 215, 216, 217, 218, 219])], [], [(5, [0, 1, 2, 5, 6, 3, 4, 7, 8, 9, 10]), (11, [0, 1, 2, 3, 4, 5, 6, 7, 10, 11, 8, 9, 12, 13, 14, 15, 16, 17]), (17, [0, 1, 2, 5, 6, 3, 4, 7, 8, 9, 10, 11]), (23, [0, 1, 2, 3, 4, 5, 6, 7, 10, 11, 8, 9, 12, 13, 14, 15, 16, 17]), (35, [0, 1, 2, 3, 4, 7, 8, 5, 6, 9, 10, 11, 12, 13])], [], []⟩⟩, ⟨72, Try.f72, ⟨[], [(4, [1, 3, 5, 6, 7, 8, 9, 12, 13, 14, 15, 16, 17, 18, 19, 20, 21, 22, 23, 24, 25, 26, 27, 28, 29, 30, 31, 32, 33, 34, 35, 36, 37, 38, 39, 40, 41, 42, 43, 44, 45, 46, 47, 48, 49, 50, 51, 52, 53, 54, 55, 56, 57]), (6, [1, 3, 5, 6, 7, 8, 9, 12, 13, 14, 15, 16, 17, 18, 19, 20, 21, 22, 23, 24, 25, 26, 27, 28, 29, 30, 31, 32, 33, 34, 35, 36, 37, 38, 39, 40, 41, 42, 43, 44, 45, 46, 47, 48, 49, 50, 51, 52, 53, 54, 55, 56, 57]), (8, [1, 3, 5, 6, 7, 8, 9, 11, 12, 13, 14, 15, 16, 17, 18, 19, 20, 21, 22, 23, 24, 25, 26, 27, 28, 29, 30, 31, 32, 33, 34, 35, 36, 37, 38, 39, 40, 41, 42, 43, 44, 45, 46, 47, 48, 49, 50, 51, 52, 53, 54, 55, 56, 57]), (1000002, [1, 3, 5, 6, 7, 8, 9, 12, 13, 14, 15, 16, 17, 18, 19, 20, 21, 22, 23, 24, 25, 26, 27, 28, 29, 30, 31, 32, 33, 34, 35, 36, 37, 38, 39, 40, 41, 42, 43, 44, 45, 46, 47, 48, 49, 50, 51, 52, 53, 54, 55, 56, 57])], [], [], [], []⟩⟩, ⟨75, Try.f75, ⟨[], [(1000001, [4, 5, 6, 7, 8, 9, 11, 12, 13, 14, 15, 16, 17, 18, 19, 20, 21, 22, 23, 24, 25, 26, 27, 28, 29, 30, 31, 32, 33, 34, 35, 36, 37])], [], [(3, [0, 1, 2, 3, 4, 5, 6, 7, 8, 9, 10, 11, 14, 15, 16, 17, 12, 13, 18, 19, 20, 21, 22, 23])], [], []⟩⟩]
theorem I_ok : ∀ i ∈ I, Try.prog.funcs[i.f]? = some i.fn ∧ (i.fn.name == "runtime.NumGoroutine") = false := by
  intro i hi
  simp only [I, List.mem_cons, List.not_mem_nil, or_false] at hi
  rcases hi with rfl | rfl | rfl
  all_goals exact ⟨by kernel_rfl, by kernel_rfl⟩
noncomputable abbrev L0 (fuel n : Nat) (s : St) (k : Kont) := lAt Try.prog X I fuel false 4 false 68 (bodyOf Try.f68) [0, 1, 0, 1, 1, 0, 0] n s k
noncomputable abbrev k0  (fuel : Nat) : Kont := (kAt Try.prog X I fuel false 4 false 68 (bodyOf Try.f68) [0, 1, 0, 1, 1, 0, 0] [] (endK Try.prog Try.f68))
noncomputable def t0 (p1 : Int) (p4d : List Q → Bool) (p4g : List Q → Int) (p0 : List Int) (x0q3 : Int) (x0q4 : Int) : St := ⟨[(.all 1000000000 1), (.imm (.int .i64 p1)), .dead, .dead, (.imm (.fn false p4d p4g)), .dead, .dead, .dead, .dead, .dead, (.imm (.int .i64 x0q3)), (.imm (.int .i64 x0q4)), .dead, .dead, .dead, .dead, .dead, .dead, .dead, .dead, .dead, .dead, .dead, .dead, .dead, .dead, .dead, .dead, .dead, .dead, .dead, .dead, .dead, .dead, .dead, .dead, .dead, .dead, .dead, .dead, .dead, .dead, .dead, .dead, .dead, .dead, .dead, .dead, .dead, .dead, .dead, .dead, .dead, .dead, .dead, .dead, .dead, .dead, .dead, .dead, .dead, .dead, .dead, .dead, .dead, .dead, .dead, .dead, .dead, .dead, .dead, .dead, .dead, .dead, .dead, .dead, .dead, .dead, .dead, .dead, .dead, .dead, .dead, .dead, .dead, .dead, .dead, .dead, .dead, .dead, .dead, .dead, .dead, .dead, .dead, .dead, .dead, .dead, .dead, .dead, .dead, .dead, .dead, .dead, .dead, .dead, .dead, .dead, .dead, .dead, .dead, .dead, .dead, .dead, .dead, .dead, .dead, .dead, .dead, .dead, .dead, .dead, .dead, .dead, .dead, .dead, .dead, .dead, .dead, .dead, .dead, .dead, .dead, .dead, .dead, .dead, .dead, .dead, .dead, .dead, .dead, .dead, .dead, .dead, .dead, .dead, .dead, .dead, .dead, .dead, .dead, .dead, .dead, .dead, .dead, .dead, .dead, .dead, .dead, .dead, .dead, .dead, .dead, .dead, .dead, .dead, .dead, .dead, .dead, .dead, .dead, .dead, .dead, .dead, .dead, .dead, .dead, .dead, .dead, .dead, .dead, .dead, .dead, .dead, .dead, .dead, .dead, .dead, .dead, .dead, .dead, .dead, .dead, .dead, .dead, .dead, .dead, .dead, .dead, .dead, .dead, .dead, .dead, .dead, .dead, .dead, .dead, .dead, .dead, .dead, .dead, .dead, .dead, .dead, .dead, .dead, .dead, .dead, .dead, .dead], hOf [(1000000000, (.ints .i64 p0))], [(.all 1000000000 1)], []⟩
noncomputable abbrev L1 (fuel n : Nat) (s : St) (k : Kont) := lAt Try.prog X I fuel false 4 false 68 (bodyOf Try.f68) [0, 1, 0, 1, 1, 1, 0, 1, 0] n s k
noncomputable abbrev k1  (fuel : Nat) : Kont := (kAt Try.prog X I fuel false 4 false 68 (bodyOf Try.f68) [0, 1, 0, 1, 1, 1, 0, 1, 0] [] (endK Try.prog Try.f68))
noncomputable def t1 (x0q3 : Int) (x1q1 : Int) (x1q2 : List Int) : St := ⟨[(.all 1000000000 1), .dead, .dead, .dead, .dead, .dead, .dead, .dead, .dead, .dead, (.imm (.int .i64 x0q3)), .dead, .dead, (.imm (.int .i64 x1q1)), .dead, .dead, .dead, .dead, .dead, .dead, .dead, .dead, .dead, .dead, .dead, .dead, .dead, .dead, .dead, .dead, .dead, .dead, .dead, .dead, .dead, .dead, .dead, .dead, .dead, .dead, .dead, .dead, .dead, .dead, .dead, .dead, .dead, .dead, .dead, .dead, .dead, .dead, .dead, .dead, .dead, .dead, .dead, .dead, .dead, .dead, .dead, .dead, .dead, .dead, .dead, .dead, .dead, .dead, .dead, .dead, .dead, .dead, .dead, .dead, .dead, .dead, .dead, .dead, .dead, .dead, .dead, .dead, .dead, .dead, .dead, .dead, .dead, .dead, .dead, .dead, .dead, .dead, .dead, .dead, .dead, .dead, .dead, .dead, .dead, .dead, .dead, .dead, .dead, .dead, .dead, .dead, .dead, .dead, .dead, .dead, .dead, .dead, .dead, .dead, .dead, .dead, .dead, .dead, .dead, .dead, .dead, .dead, .dead, .dead, .dead, .dead, .dead, .dead, .dead, .dead, .dead, .dead, .dead, .dead, .dead, .dead, .dead, .dead, .dead, .dead, .dead, .dead, .dead, .dead, .dead, .dead, .dead, .dead, .dead, .dead, .dead, .dead, .dead, .dead, .dead, .dead, .dead, .dead, .dead, .dead, .dead, .dead, .dead, .dead, .dead, .dead, .dead, .dead, .dead, .dead, .dead, .dead, .dead, .dead, .dead, .dead, .dead, .dead, .dead, .dead, .dead, .dead, .dead, .dead, .dead, .dead, .dead, .dead, .dead, .dead, .dead, .dead, .dead, .dead, .dead, .dead, .dead, .dead, .dead, .dead, .dead, .dead, .dead, .dead, .dead, .dead, .dead, .dead, .dead, .dead, .dead, .dead, .dead, .dead, .dead, .dead, .dead, .dead, .dead, .dead], hOf [(1000000000, (.ints .i64 x1q2))], [(.all 1000000000 1)], []⟩
noncomputable abbrev L2 (fuel n : Nat) (s : St) (k : Kont) := lAt Try.prog X I fuel false 4 false 68 (bodyOf Try.f68) [1, 0, 1, 0, 1, 1, 0, 0] n s k
noncomputable abbrev k2  (fuel : Nat) : Kont := (kAt Try.prog X I fuel false 4 false 68 (bodyOf Try.f68) [1, 0, 1, 0, 1, 1, 0, 0] [] (endK Try.prog Try.f68))
noncomputable def t2 (p2 : Int) (p4d : List Q → Bool) (p4g : List Q → Int) (p0 : List Int) (x2q3 : Int) (x2q4 : Int) : St := ⟨[(.all 1000000000 1), .dead, (.imm (.int .i64 p2)), .dead, (.imm (.fn false p4d p4g)), .dead, .dead, .dead, .dead, .dead, .dead, .dead, .dead, .dead, (.imm (.int .i64 x2q3)), (.imm (.int .i64 x2q4)), .dead, .dead, .dead, .dead, .dead, .dead, .dead, .dead, .dead, .dead, .dead, .dead, .dead, .dead, .dead, .dead, .dead, .dead, .dead, .dead, .dead, .dead, .dead, .dead, .dead, .dead, .dead, .dead, .dead, .dead, .dead, .dead, .dead, .dead, .dead, .dead, .dead, .dead, .dead, .dead, .dead, .dead, .dead, .dead, .dead, .dead, .dead, .dead, .dead, .dead, .dead, .dead, .dead, .dead, .dead, .dead, .dead, .dead, .dead, .dead, .dead, .dead, .dead, .dead, .dead, .dead, .dead, .dead, .dead, .dead, .dead, .dead, .dead, .dead, .dead, .dead, .dead, .dead, .dead, .dead, .dead, .dead, .dead, .dead, .dead, .dead, .dead, .dead, .dead, .dead, .dead, .dead, .dead, .dead, .dead, .dead, .dead, .dead, .dead, .dead, .dead, .dead, .dead, .dead, .dead, .dead, .dead, .dead, .dead, .dead, .dead, .dead, .dead, .dead, .dead, .dead, .dead, .dead, .dead, .dead, .dead, .dead, .dead, .dead, .dead, .dead, .dead, .dead, .dead, .dead, .dead, .dead, .dead, .dead, .dead, .dead, .dead, .dead, .dead, .dead, .dead, .dead, .dead, .dead, .dead, .dead, .dead, .dead, .dead, .dead, .dead, .dead, .dead, .dead, .dead, .dead, .dead, .dead, .dead, .dead, .dead, .dead, .dead, .dead, .dead, .dead, .dead, .dead, .dead, .dead, .dead, .dead, .dead, .dead, .dead, .dead, .dead, .dead, .dead, .dead, .dead, .dead, .dead, .dead, .dead, .dead, .dead, .dead, .dead, .dead, .dead, .dead, .dead, .dead, .dead, .dead, .dead, .dead, .dead, .dead, .dead, .dead, .dead, .dead], hOf [(1000000000, (.ints .i64 p0))], [(.all 1000000000 1)], []⟩
noncomputable abbrev L3 (fuel n : Nat) (s : St) (k : Kont) := lAt Try.prog X I fuel false 4 false 68 (bodyOf Try.f68) [1, 0, 1, 0, 1, 1, 1, 0, 1, 0] n s k
noncomputable abbrev k3  (fuel : Nat) : Kont := (kAt Try.prog X I fuel false 4 false 68 (bodyOf Try.f68) [1, 0, 1, 0, 1, 1, 1, 0, 1, 0] [] (endK Try.prog Try.f68))
noncomputable def t3 (x2q3 : Int) (x3q1 : Int) (x3q2 : List Int) : St := ⟨[(.all 1000000000 1), .dead, .dead, .dead, .dead, .dead, .dead, .dead, .dead, .dead, .dead, .dead, .dead, .dead, (.imm (.int .i64 x2q3)), .dead, .dead, (.imm (.int .i64 x3q1)), .dead, .dead, .dead, .dead, .dead, .dead, .dead, .dead, .dead, .dead, .dead, .dead, .dead, .dead, .dead, .dead, .dead, .dead, .dead, .dead, .dead, .dead, .dead, .dead, .dead, .dead, .dead, .dead, .dead, .dead, .dead, .dead, .dead, .dead, .dead, .dead, .dead, .dead, .dead, .dead, .dead, .dead, .dead, .dead, .dead, .dead, .dead, .dead, .dead, .dead, .dead, .dead, .dead, .dead, .dead, .dead, .dead, .dead, .dead, .dead, .dead, .dead, .dead, .dead, .dead, .dead, .dead, .dead, .dead, .dead, .dead, .dead, .dead, .dead, .dead, .dead, .dead, .dead, .dead, .dead, .dead, .dead, .dead, .dead, .dead, .dead, .dead, .dead, .dead, .dead, .dead, .dead, .dead, .dead, .dead, .dead, .dead, .dead, .dead, .dead, .dead, .dead, .dead, .dead, .dead, .dead, .dead, .dead, .dead, .dead, .dead, .dead, .dead, .dead, .dead, .dead, .dead, .dead, .dead, .dead, .dead, .dead, .dead, .dead, .dead, .dead, .dead, .dead, .dead, .dead, .dead, .dead, .dead, .dead, .dead, .dead, .dead, .dead, .dead, .dead, .dead, .dead, .dead, .dead, .dead, .dead, .dead, .dead, .dead, .dead, .dead, .dead, .dead, .dead, .dead, .dead, .dead, .dead, .dead, .dead, .dead, .dead, .dead, .dead, .dead, .dead, .dead, .dead, .dead, .dead, .dead, .dead, .dead, .dead, .dead, .dead, .dead, .dead, .dead, .dead, .dead, .dead, .dead, .dead, .dead, .dead, .dead, .dead, .dead, .dead, .dead, .dead, .dead, .dead, .dead, .dead, .dead, .dead, .dead, .dead, .dead, .dead], hOf [(1000000000, (.ints .i64 x3q2))], [(.all 1000000000 1)], []⟩
noncomputable abbrev L4 (fuel n : Nat) (s : St) (k : Kont) := lAt Try.prog X I fuel false 4 false 68 (bodyOf Try.f68) [1, 1, 1, 1, 1, 1, 1, 0, 0] n s k
noncomputable abbrev k4  (fuel : Nat) : Kont := (kAt Try.prog X I fuel false 4 false 68 (bodyOf Try.f68) [1, 1, 1, 1, 1, 1, 1, 0, 0] [] (endK Try.prog Try.f68))
noncomputable def t4 (p1 : Int) (p2 : Int) (p3 : Int) (p4d : List Q → Bool) (p4g : List Q → Int) (p0 : List Int) (x4q7 : Int) (x4q8 : Int) : St := ⟨[(.all 1000000000 1), (.imm (.int .i64 p1)), (.imm (.int .i64 p2)), (.imm (.int .i64 p3)), (.imm (.fn false p4d p4g)), .dead, .dead, .dead, .dead, .dead, .dead, .dead, .dead, .dead, .dead, .dead, .dead, .dead, (.imm (.int .i64 (IntKind.wrap .i64 (Int.fdiv (IntKind.wrap .u64 (IntKind.wrap .i64 (p1 + p3))) (2 ^ min (1 : Int).toNat (IntKind.bits .u64)))))), (.imm (.int .i64 (IntKind.wrap .i64 ((IntKind.wrap .i64 (Int.fdiv (IntKind.wrap .u64 (IntKind.wrap .i64 (p1 + p3))) (2 ^ min (1 : Int).toNat (IntKind.bits .u64)))) + p2)))), (.imm (.int .i64 x4q7)), (.imm (.int .i64 x4q8)), (.imm (.int .i64 (IntKind.wrap .i64 ((IntKind.wrap .i64 ((IntKind.wrap .i64 (Int.fdiv (IntKind.wrap .u64 (IntKind.wrap .i64 (p1 + p3))) (2 ^ min (1 : Int).toNat (IntKind.bits .u64)))) + p2)) - 1)))), .dead, .dead, .dead, .dead, .dead, .dead, .dead, .dead, .dead, .dead, .dead, .dead, .dead, .dead, .dead, .dead, .dead, .dead, .dead, .dead, .dead, .dead, .dead, .dead, .dead, .dead, .dead, .dead, .dead, .dead, .dead, .dead, .dead, .dead, .dead, .dead, .dead, .dead, .dead, .dead, .dead, .dead, .dead, .dead, .dead, .dead, .dead, .dead, .dead, .dead, .dead, .dead, .dead, .dead, .dead, .dead, .dead, .dead, .dead, .dead, .dead, .dead, .dead, .dead, .dead, .dead, .dead, .dead, .dead, .dead, .dead, .dead, .dead, .dead, .dead, .dead, .dead, .dead, .dead, .dead, .dead, .dead, .dead, .dead, .dead, .dead, .dead, .dead, .dead, .dead, .dead, .dead, .dead, .dead, .dead, .dead, .dead, .dead, .dead, .dead, .dead, .dead, .dead, .dead, .dead, .dead, .dead, .dead, .dead, .dead, .dead, .dead, .dead, .dead, .dead, .dead, .dead, .dead, .dead, .dead, .dead, .dead, .dead, .dead, .dead, .dead, .dead, .dead, .dead, .dead, .dead, .dead, .dead, .dead, .dead, .dead, .dead, .dead, .dead, .dead, .dead, .dead, .dead, .dead, .dead, .dead, .dead, .dead, .dead, .dead, .dead, .dead, .dead, .dead, .dead, .dead, .dead, .dead, .dead, .dead, .dead, .dead, .dead, .dead, .dead, .dead, .dead, .dead, .dead, .dead, .dead, .dead, .dead, .dead, .dead, .dead, .dead, .dead, .dead, .dead, .dead, .dead, .dead, .dead, .dead, .dead, .dead, .dead, .dead, .dead, .dead, .dead, .dead, .dead, .dead, .dead, .dead], hOf [(1000000000, (.ints .i64 p0))], [(.all 1000000000 1)], []⟩
noncomputable abbrev L5 (fuel n : Nat) (s : St) (k : Kont) := lAt Try.prog X I fuel false 3 false 72 (bodyOf Try.f72) [1, 1, 0, 0] n s k
noncomputable abbrev k5  (fuel : Nat) : Kont := (kAt Try.prog X I fuel false 3 false 72 (bodyOf Try.f72) [1, 1, 0, 0] [] (endFn Try.prog Try.f72 220 (kOp Try.prog X I fuel false 4 68 (cAt (bodyOf Try.f68) [1, 1, 1, 1, 1, 1, 1, 1, 1, 0, 1, 0]) 5 (kAt Try.prog X I fuel false 4 false 68 (bodyOf Try.f68) [1, 1, 1, 1, 1, 1, 1, 1, 1, 0, 1, 0] [] (endK Try.prog Try.f68)))))
noncomputable def t5 (p2 : Int) (p4d : List Q → Bool) (p4g : List Q → Int) (p1 : Int) (p3 : Int) (x4q7 : Int) (x5q3 : Int) (x5q4 : Int) (x5q5 : List Int) : St := ⟨[(.all 1000000000 1), .dead, (.imm (.int .i64 p2)), .dead, (.imm (.fn false p4d p4g)), .dead, .dead, .dead, .dead, .dead, (.imm (.int .i64 x5q3)), (.imm (.int .i64 x5q4)), .dead, .dead, .dead, .dead, .dead, .dead, .dead, .dead, .dead, .dead, .dead, .dead, .dead, .dead, .dead, .dead, .dead, .dead, .dead, .dead, .dead, .dead, .dead, .dead, .dead, .dead, .dead, .dead, .dead, .dead, .dead, .dead, .dead, .dead, .dead, .dead, .dead, .dead, .dead, .dead, .dead, .dead, .dead, .dead, .dead, .dead], hOf [(1000000000, (.ints .i64 x5q5))], [(.all 1000000000 1), (.imm (.int .i64 p1)), (.imm (.int .i64 p2)), (.imm (.int .i64 p3)), (.imm (.fn false p4d p4g)), .dead, .dead, .dead, .dead, .dead, .dead, .dead, .dead, .dead, .dead, .dead, .dead, .dead, (.imm (.int .i64 (IntKind.wrap .i64 (Int.fdiv (IntKind.wrap .u64 (IntKind.wrap .i64 (p1 + p3))) (2 ^ min (1 : Int).toNat (IntKind.bits .u64)))))), .dead, (.imm (.int .i64 x4q7)), .dead, .dead, .dead, (.imm (.int .i64 (IntKind.wrap .i64 ((IntKind.wrap .i64 ((IntKind.wrap .i64 (Int.fdiv (IntKind.wrap .u64 (IntKind.wrap .i64 (p1 + p3))) (2 ^ min (1 : Int).toNat (IntKind.bits .u64)))) + p2)) - x4q7)))), .dead, .dead, .dead, .dead, .dead, .dead, .dead, .dead, .dead, .dead, .dead, .dead, .dead, .dead, .dead, .dead, .dead, .dead, .dead, .dead, .dead, .dead, .dead, .dead, .dead, .dead, .dead, .dead, .dead, .dead, .dead, .dead, .dead, .dead, .dead, .dead, .dead, .dead, .dead, .dead, .dead, .dead, .dead, .dead, .dead, .dead, .dead, .dead, .dead, .dead, .dead, .dead, .dead, .dead, .dead, .dead, .dead, .dead, .dead, .dead, .dead, .dead, .dead, .dead, .dead, .dead, .dead, .dead, .dead, .dead, .dead, .dead, .dead, .dead, .dead, .dead, .dead, .dead, .dead, .dead, .dead, .dead, .dead, .dead, .dead, .dead, .dead, .dead, .dead, .dead, .dead, .dead, .dead, .dead, .dead, .dead, .dead, .dead, .dead, .dead, .dead, .dead, .dead, .dead, .dead, .dead, .dead, .dead, .dead, .dead, .dead, .dead, .dead, .dead, .dead, .dead, .dead, .dead, .dead, .dead, .dead, .dead, .dead, .dead, .dead, .dead, .dead, .dead, .dead, .dead, .dead, .dead, .dead, .dead, .dead, .dead, .dead, .dead, .dead, .dead, .dead, .dead, .dead, .dead, .dead, .dead, .dead, .dead, .dead, .dead, .dead, .dead, .dead, .dead, .dead, .dead, .dead, .dead, .dead, .dead, .dead, (.all 1000000000 1), (.imm (.int .i64 x4q7)), (.imm (.int .i64 p2)), (.imm (.int .i64 (IntKind.wrap .i64 ((IntKind.wrap .i64 ((IntKind.wrap .i64 (Int.fdiv (IntKind.wrap .u64 (IntKind.wrap .i64 (p1 + p3))) (2 ^ min (1 : Int).toNat (IntKind.bits .u64)))) + p2)) - x4q7)))), (.imm (.fn false p4d p4g)), .dead, .dead, .dead, .dead, .dead, .dead, .dead, .dead, .dead, .dead, .dead, .dead, .dead, .dead, .dead, .dead, .dead, .dead, .dead, .dead, .dead, .dead, .dead, .dead, .dead, .dead, .dead, .dead, .dead, (.tup []), (.all 1000000000 1)], []⟩
noncomputable abbrev L6 (fuel n : Nat) (s : St) (k : Kont) := lAt Try.prog X I fuel false 2 false 75 (bodyOf Try.f75) [1, 0] n s k
noncomputable abbrev k6 (n5 : Nat) (fuel : Nat) : Kont := (kAt Try.prog X I fuel false 2 false 75 (bodyOf Try.f75) [1, 0] [] (endFn Try.prog Try.f75 58 (kOp Try.prog X I fuel false 3 72 (cAt (bodyOf Try.f72) [1, 1, 0, 0, 0, 1, 0, 1, 0, 0]) 7 (kAt Try.prog X I fuel false 3 false 72 (bodyOf Try.f72) [1, 1, 0, 0, 0, 1, 0, 1, 0, 0] [n5] (endFn Try.prog Try.f72 220 (kOp Try.prog X I fuel false 4 68 (cAt (bodyOf Try.f68) [1, 1, 1, 1, 1, 1, 1, 1, 1, 0, 1, 0]) 5 (kAt Try.prog X I fuel false 4 false 68 (bodyOf Try.f68) [1, 1, 1, 1, 1, 1, 1, 1, 1, 0, 1, 0] [] (endK Try.prog Try.f68))))))))
noncomputable def t6 (p2 : Int) (x5q3 : Int) (x5q4 : Int) (p4d : List Q → Bool) (p4g : List Q → Int) (p1 : Int) (p3 : Int) (x4q7 : Int) (x6q3 : Int) (x6q4 : List Int) : St := ⟨[(.all 1000000000 1), (.imm (.int .i64 (IntKind.wrap .i64 (p2 - x5q3)))), (.imm (.int .i64 p2)), (.imm (.int .i64 x5q4)), .dead, .dead, .dead, .dead, .dead, .dead, (.imm (.int .i64 x6q3)), .dead, .dead, .dead, .dead, .dead, .dead, .dead, .dead, .dead, .dead, .dead, .dead, .dead, .dead, .dead, .dead, .dead, .dead, .dead, .dead, .dead, .dead, .dead, .dead, .dead, .dead, .dead], hOf [(1000000000, (.ints .i64 x6q4))], [(.all 1000000000 1), .dead, (.imm (.int .i64 p2)), .dead, (.imm (.fn false p4d p4g)), .dead, .dead, .dead, .dead, .dead, (.imm (.int .i64 x5q3)), (.imm (.int .i64 x5q4)), .dead, .dead, .dead, .dead, .dead, .dead, .dead, .dead, .dead, .dead, .dead, .dead, (.all 1000000000 1), (.imm (.int .i64 p2)), (.imm (.int .i64 x5q3)), (.imm (.int .i64 (IntKind.wrap .i64 (p2 - x5q3)))), (.imm (.int .i64 p2)), (.imm (.int .i64 x5q4)), (.imm (.fn false p4d p4g)), .dead, .dead, .dead, .dead, .dead, .dead, .dead, .dead, .dead, .dead, .dead, .dead, .dead, .dead, .dead, .dead, .dead, .dead, .dead, .dead, .dead, .dead, .dead, .dead, .dead, .dead, .dead, (.tup []), (.all 1000000000 1), (.imm (.int .i64 p1)), (.imm (.int .i64 p2)), (.imm (.int .i64 p3)), (.imm (.fn false p4d p4g)), .dead, .dead, .dead, .dead, .dead, .dead, .dead, .dead, .dead, .dead, .dead, .dead, .dead, (.imm (.int .i64 (IntKind.wrap .i64 (Int.fdiv (IntKind.wrap .u64 (IntKind.wrap .i64 (p1 + p3))) (2 ^ min (1 : Int).toNat (IntKind.bits .u64)))))), .dead, (.imm (.int .i64 x4q7)), .dead, .dead, .dead, (.imm (.int .i64 (IntKind.wrap .i64 ((IntKind.wrap .i64 ((IntKind.wrap .i64 (Int.fdiv (IntKind.wrap .u64 (IntKind.wrap .i64 (p1 + p3))) (2 ^ min (1 : Int).toNat (IntKind.bits .u64)))) + p2)) - x4q7)))), .dead, .dead, .dead, .dead, .dead, .dead, .dead, .dead, .dead, .dead, .dead, .dead, .dead, .dead, .dead, .dead, .dead, .dead, .dead, .dead, .dead, .dead, .dead, .dead, .dead, .dead, .dead, .dead, .dead, .dead, .dead, .dead, .dead, .dead, .dead, .dead, .dead, .dead, .dead, .dead, .dead, .dead, .dead, .dead, .dead, .dead, .dead, .dead, .dead, .dead, .dead, .dead, .dead, .dead, .dead, .dead, .dead, .dead, .dead, .dead, .dead, .dead, .dead, .dead, .dead, .dead, .dead, .dead, .dead, .dead, .dead, .dead, .dead, .dead, .dead, .dead, .dead, .dead, .dead, .dead, .dead, .dead, .dead, .dead, .dead, .dead, .dead, .dead, .dead, .dead, .dead, .dead, .dead, .dead, .dead, .dead, .dead, .dead, .dead, .dead, .dead, .dead, .dead, .dead, .dead, .dead, .dead, .dead, .dead, .dead, .dead, .dead, .dead, .dead, .dead, .dead, .dead, .dead, .dead, .dead, .dead, .dead, .dead, .dead, .dead, .dead, .dead, .dead, .dead, .dead, .dead, .dead, .dead, .dead, .dead, .dead, .dead, .dead, .dead, .dead, .dead, .dead, .dead, .dead, .dead, .dead, .dead, .dead, .dead, .dead, .dead, .dead, .dead, .dead, .dead, .dead, .dead, .dead, .dead, .dead, .dead, (.all 1000000000 1), (.imm (.int .i64 x4q7)), (.imm (.int .i64 p2)), (.imm (.int .i64 (IntKind.wrap .i64 ((IntKind.wrap .i64 ((IntKind.wrap .i64 (Int.fdiv (IntKind.wrap .u64 (IntKind.wrap .i64 (p1 + p3))) (2 ^ min (1 : Int).toNat (IntKind.bits .u64)))) + p2)) - x4q7)))), (.imm (.fn false p4d p4g)), .dead, .dead, .dead, .dead, .dead, .dead, .dead, .dead, .dead, .dead, .dead, .dead, .dead, .dead, .dead, .dead, .dead, .dead, .dead, .dead, .dead, .dead, .dead, .dead, .dead, .dead, .dead, .dead, .dead, (.tup []), (.all 1000000000 1)], []⟩
noncomputable abbrev L7 (fuel n : Nat) (s : St) (k : Kont) := lAt Try.prog X I fuel false 2 false 75 (bodyOf Try.f75) [1, 0] n s k
noncomputable abbrev k7 (n5 : Nat) (fuel : Nat) : Kont := (kAt Try.prog X I fuel false 2 false 75 (bodyOf Try.f75) [1, 0] [] (endFn Try.prog Try.f75 58 (kOp Try.prog X I fuel false 3 72 (cAt (bodyOf Try.f72) [1, 1, 0, 0, 0, 1, 0, 1, 1, 0]) 11 (kAt Try.prog X I fuel false 3 false 72 (bodyOf Try.f72) [1, 1, 0, 0, 0, 1, 0, 1, 1, 0] [n5] (endFn Try.prog Try.f72 220 (kOp Try.prog X I fuel false 4 68 (cAt (bodyOf Try.f68) [1, 1, 1, 1, 1, 1, 1, 1, 1, 0, 1, 0]) 5 (kAt Try.prog X I fuel false 4 false 68 (bodyOf Try.f68) [1, 1, 1, 1, 1, 1, 1, 1, 1, 0, 1, 0] [] (endK Try.prog Try.f68))))))))
noncomputable def t7 (p2 : Int) (x5q3 : Int) (x5q4 : Int) (p4d : List Q → Bool) (p4g : List Q → Int) (p1 : Int) (p3 : Int) (x4q7 : Int) (x7q3 : Int) (x7q4 : List Int) : St := ⟨[(.all 1000000000 1), (.imm (.int .i64 (IntKind.wrap .i64 (p2 - x5q3)))), (.imm (.int .i64 (IntKind.wrap .i64 ((IntKind.wrap .i64 (p2 + x5q4)) - x5q3)))), (.imm (.int .i64 x5q3)), .dead, .dead, .dead, .dead, .dead, .dead, (.imm (.int .i64 x7q3)), .dead, .dead, .dead, .dead, .dead, .dead, .dead, .dead, .dead, .dead, .dead, .dead, .dead, .dead, .dead, .dead, .dead, .dead, .dead, .dead, .dead, .dead, .dead, .dead, .dead, .dead, .dead], hOf [(1000000000, (.ints .i64 x7q4))], [(.all 1000000000 1), .dead, (.imm (.int .i64 p2)), .dead, (.imm (.fn false p4d p4g)), .dead, .dead, .dead, .dead, .dead, (.imm (.int .i64 x5q3)), (.imm (.int .i64 x5q4)), .dead, .dead, .dead, .dead, .dead, .dead, .dead, .dead, .dead, .dead, .dead, .dead, .dead, .dead, .dead, .dead, .dead, .dead, .dead, .dead, .dead, .dead, .dead, (.all 1000000000 1), (.imm (.int .i64 p2)), (.imm (.int .i64 x5q3)), (.imm (.int .i64 (IntKind.wrap .i64 (p2 - x5q3)))), (.imm (.int .i64 p2)), (.imm (.int .i64 x5q4)), (.imm (.int .i64 (IntKind.wrap .i64 (p2 + x5q4)))), (.imm (.int .i64 x5q3)), (.imm (.int .i64 (IntKind.wrap .i64 ((IntKind.wrap .i64 (p2 + x5q4)) - x5q3)))), (.imm (.int .i64 x5q3)), (.imm (.fn false p4d p4g)), .dead, .dead, .dead, .dead, .dead, .dead, .dead, .dead, .dead, .dead, .dead, .dead, (.tup []), (.all 1000000000 1), (.imm (.int .i64 p1)), (.imm (.int .i64 p2)), (.imm (.int .i64 p3)), (.imm (.fn false p4d p4g)), .dead, .dead, .dead, .dead, .dead, .dead, .dead, .dead, .dead, .dead, .dead, .dead, .dead, (.imm (.int .i64 (IntKind.wrap .i64 (Int.fdiv (IntKind.wrap .u64 (IntKind.wrap .i64 (p1 + p3))) (2 ^ min (1 : Int).toNat (IntKind.bits .u64)))))), .dead, (.imm (.int .i64 x4q7)), .dead, .dead, .dead, (.imm (.int .i64 (IntKind.wrap .i64 ((IntKind.wrap .i64 ((IntKind.wrap .i64 (Int.fdiv (IntKind.wrap .u64 (IntKind.wrap .i64 (p1 + p3))) (2 ^ min (1 : Int).toNat (IntKind.bits .u64)))) + p2)) - x4q7)))), .dead, .dead, .dead, .dead, .dead, .dead, .dead, .dead, .dead, .dead, .dead, .dead, .dead, .dead, .dead, .dead, .dead, .dead, .dead, .dead, .dead, .dead, .dead, .dead, .dead, .dead, .dead, .dead, .dead, .dead, .dead, .dead, .dead, .dead, .dead, .dead, .dead, .dead, .dead, .dead, .dead, .dead, .dead, .dead, .dead, .dead, .dead, .dead, .dead, .dead, .dead, .dead, .dead, .dead, .dead, .dead, .dead, .dead, .dead, .dead, .dead, .dead, .dead, .dead, .dead, .dead, .dead, .dead, .dead, .dead, .dead, .dead, .dead, .dead, .dead, .dead, .dead, .dead, .dead, .dead, .dead, .dead, .dead, .dead, .dead, .dead, .dead, .dead, .dead, .dead, .dead, .dead, .dead, .dead, .dead, .dead, .dead, .dead, .dead, .dead, .dead, .dead, .dead, .dead, .dead, .dead, .dead, .dead, .dead, .dead, .dead, .dead, .dead, .dead, .dead, .dead, .dead, .dead, .dead, .dead, .dead, .dead, .dead, .dead, .dead, .dead, .dead, .dead, .dead, .dead, .dead, .dead, .dead, .dead, .dead, .dead, .dead, .dead, .dead, .dead, .dead, .dead, .dead, .dead, .dead, .dead, .dead, .dead, .dead, .dead, .dead, .dead, .dead, .dead, .dead, .dead, .dead, .dead, .dead, .dead, .dead, (.all 1000000000 1), (.imm (.int .i64 x4q7)), (.imm (.int .i64 p2)), (.imm (.int .i64 (IntKind.wrap .i64 ((IntKind.wrap .i64 ((IntKind.wrap .i64 (Int.fdiv (IntKind.wrap .u64 (IntKind.wrap .i64 (p1 + p3))) (2 ^ min (1 : Int).toNat (IntKind.bits .u64)))) + p2)) - x4q7)))), (.imm (.fn false p4d p4g)), .dead, .dead, .dead, .dead, .dead, .dead, .dead, .dead, .dead, .dead, .dead, .dead, .dead, .dead, .dead, .dead, .dead, .dead, .dead, .dead, .dead, .dead, .dead, .dead, .dead, .dead, .dead, .dead, .dead, (.tup []), (.all 1000000000 1)], []⟩
noncomputable abbrev L8 (fuel n : Nat) (s : St) (k : Kont) := lAt Try.prog X I fuel false 2 false 75 (bodyOf Try.f75) [1, 0] n s k
noncomputable abbrev k8  (fuel : Nat) : Kont := (kAt Try.prog X I fuel false 2 false 75 (bodyOf Try.f75) [1, 0] [] (endFn Try.prog Try.f75 58 (kOp Try.prog X I fuel false 3 72 (cAt (bodyOf Try.f72) [1, 1, 1]) 7 (kAt Try.prog X I fuel false 3 false 72 (bodyOf Try.f72) [1, 1, 1] [] (endFn Try.prog Try.f72 220 (kOp Try.prog X I fuel false 4 68 (cAt (bodyOf Try.f68) [1, 1, 1, 1, 1, 1, 1, 1, 1, 0, 1, 0]) 5 (kAt Try.prog X I fuel false 4 false 68 (bodyOf Try.f68) [1, 1, 1, 1, 1, 1, 1, 1, 1, 0, 1, 0] [] (endK Try.prog Try.f68))))))))
noncomputable def t8 (p2 : Int) (x5q3 : Int) (p4d : List Q → Bool) (p4g : List Q → Int) (p1 : Int) (p3 : Int) (x4q7 : Int) (x8q3 : Int) (x8q4 : List Int) : St := ⟨[(.all 1000000000 1), (.imm (.int .i64 (IntKind.wrap .i64 (p2 - x5q3)))), (.imm (.int .i64 p2)), (.imm (.int .i64 x5q3)), .dead, .dead, .dead, .dead, .dead, .dead, (.imm (.int .i64 x8q3)), .dead, .dead, .dead, .dead, .dead, .dead, .dead, .dead, .dead, .dead, .dead, .dead, .dead, .dead, .dead, .dead, .dead, .dead, .dead, .dead, .dead, .dead, .dead, .dead, .dead, .dead, .dead], hOf [(1000000000, (.ints .i64 x8q4))], [(.all 1000000000 1), .dead, (.imm (.int .i64 p2)), .dead, (.imm (.fn false p4d p4g)), .dead, .dead, .dead, .dead, .dead, (.imm (.int .i64 x5q3)), .dead, .dead, .dead, .dead, .dead, .dead, .dead, .dead, .dead, .dead, .dead, .dead, .dead, .dead, .dead, .dead, .dead, .dead, .dead, .dead, .dead, .dead, .dead, .dead, .dead, .dead, .dead, .dead, .dead, .dead, .dead, .dead, .dead, .dead, .dead, .dead, .dead, .dead, .dead, (.all 1000000000 1), (.imm (.int .i64 p2)), (.imm (.int .i64 x5q3)), (.imm (.int .i64 (IntKind.wrap .i64 (p2 - x5q3)))), (.imm (.int .i64 p2)), (.imm (.int .i64 x5q3)), (.imm (.fn false p4d p4g)), .dead, (.tup []), (.all 1000000000 1), (.imm (.int .i64 p1)), (.imm (.int .i64 p2)), (.imm (.int .i64 p3)), (.imm (.fn false p4d p4g)), .dead, .dead, .dead, .dead, .dead, .dead, .dead, .dead, .dead, .dead, .dead, .dead, .dead, (.imm (.int .i64 (IntKind.wrap .i64 (Int.fdiv (IntKind.wrap .u64 (IntKind.wrap .i64 (p1 + p3))) (2 ^ min (1 : Int).toNat (IntKind.bits .u64)))))), .dead, (.imm (.int .i64 x4q7)), .dead, .dead, .dead, (.imm (.int .i64 (IntKind.wrap .i64 ((IntKind.wrap .i64 ((IntKind.wrap .i64 (Int.fdiv (IntKind.wrap .u64 (IntKind.wrap .i64 (p1 + p3))) (2 ^ min (1 : Int).toNat (IntKind.bits .u64)))) + p2)) - x4q7)))), .dead, .dead, .dead, .dead, .dead, .dead, .dead, .dead, .dead, .dead, .dead, .dead, .dead, .dead, .dead, .dead, .dead, .dead, .dead, .dead, .dead, .dead, .dead, .dead, .dead, .dead, .dead, .dead, .dead, .dead, .dead, .dead, .dead, .dead, .dead, .dead, .dead, .dead, .dead, .dead, .dead, .dead, .dead, .dead, .dead, .dead, .dead, .dead, .dead, .dead, .dead, .dead, .dead, .dead, .dead, .dead, .dead, .dead, .dead, .dead, .dead, .dead, .dead, .dead, .dead, .dead, .dead, .dead, .dead, .dead, .dead, .dead, .dead, .dead, .dead, .dead, .dead, .dead, .dead, .dead, .dead, .dead, .dead, .dead, .dead, .dead, .dead, .dead, .dead, .dead, .dead, .dead, .dead, .dead, .dead, .dead, .dead, .dead, .dead, .dead, .dead, .dead, .dead, .dead, .dead, .dead, .dead, .dead, .dead, .dead, .dead, .dead, .dead, .dead, .dead, .dead, .dead, .dead, .dead, .dead, .dead, .dead, .dead, .dead, .dead, .dead, .dead, .dead, .dead, .dead, .dead, .dead, .dead, .dead, .dead, .dead, .dead, .dead, .dead, .dead, .dead, .dead, .dead, .dead, .dead, .dead, .dead, .dead, .dead, .dead, .dead, .dead, .dead, .dead, .dead, .dead, .dead, .dead, .dead, .dead, .dead, (.all 1000000000 1), (.imm (.int .i64 x4q7)), (.imm (.int .i64 p2)), (.imm (.int .i64 (IntKind.wrap .i64 ((IntKind.wrap .i64 ((IntKind.wrap .i64 (Int.fdiv (IntKind.wrap .u64 (IntKind.wrap .i64 (p1 + p3))) (2 ^ min (1 : Int).toNat (IntKind.bits .u64)))) + p2)) - x4q7)))), (.imm (.fn false p4d p4g)), .dead, .dead, .dead, .dead, .dead, .dead, .dead, .dead, .dead, .dead, .dead, .dead, .dead, .dead, .dead, .dead, .dead, .dead, .dead, .dead, .dead, .dead, .dead, .dead, .dead, .dead, .dead, .dead, .dead, (.tup []), (.all 1000000000 1)], []⟩
theorem e (fuel : Nat) (p0 : List Int) (p1 : Int) (p2 : Int) (p3 : Int) (p4d : List Q → Bool) (p4g : List Q → Int) : runF Try.prog X I 4 fuel 68 Try.f68 [.rows true [(.i64, p0)], .d (.int .i64 p1), .d (.int .i64 p2), .d (.int .i64 p3), .d (.fn false p4d p4g)] =
  (bif (((IntKind.wrap .i64 (p2 - p1)) : Int) == 1) then
  L0 fuel fuel (t0 p1 p4d p4g p0 p2 p3) (k0  fuel)
  else
  (bif (((IntKind.wrap .i64 (p3 - p2)) : Int) == 1) then
  L2 fuel fuel (t2 p2 p4d p4g p0 p1 p2) (k2  fuel)
  else
  (bif (decide ((p2 : Int) > (IntKind.wrap .i64 (Int.fdiv (IntKind.wrap .u64 (IntKind.wrap .i64 (p1 + p3))) (2 ^ min (1 : Int).toNat (IntKind.bits .u64)))))) then
  L4 fuel fuel (t4 p1 p2 p3 p4d p4g p0 ((IntKind.wrap .i64 ((IntKind.wrap .i64 ((IntKind.wrap .i64 (Int.fdiv (IntKind.wrap .u64 (IntKind.wrap .i64 (p1 + p3))) (2 ^ min (1 : Int).toNat (IntKind.bits .u64)))) + p2)) - p3))) ((IntKind.wrap .i64 (Int.fdiv (IntKind.wrap .u64 (IntKind.wrap .i64 (p1 + p3))) (2 ^ min (1 : Int).toNat (IntKind.bits .u64)))))) (k4  fuel)
  else
  L4 fuel fuel (t4 p1 p2 p3 p4d p4g p0 p1 p2) (k4  fuel)))) := by kernel_rfl
theorem s0 (fuel n0 : Nat) (p1 : Int) (p4d : List Q → Bool) (p4g : List Q → Int) (p0 : List Int) (x0q3 : Int) (x0q4 : Int) : L0 fuel (n0 + 1) (t0 p1 p4d p4g p0 x0q3 x0q4) (k0  fuel) =
  (bif (decide ((x0q3 : Int) < x0q4)) then
  (idx (IntKind.wrap .i64 (Int.fdiv (IntKind.wrap .u64 (IntKind.wrap .i64 (x0q3 + x0q4))) (2 ^ min (1 : Int).toNat (IntKind.bits .u64)))) p0.length).bind fun j39 =>
  (p0[j39]?).bind fun v40 =>
  (idx p1 p0.length).bind fun j41 =>
  (p0[j41]?).bind fun v42 =>
  (bif (p4d [Q.i v40, Q.i v42]) then
  (bif (decide (((p4g [Q.i v40, Q.i v42]) : Int) < 0)) then
  L0 fuel n0 (t0 p1 p4d p4g p0 ((IntKind.wrap .i64 ((IntKind.wrap .i64 (Int.fdiv (IntKind.wrap .u64 (IntKind.wrap .i64 (x0q3 + x0q4))) (2 ^ min (1 : Int).toNat (IntKind.bits .u64)))) + 1))) x0q4) (k0  fuel)
  else
  L0 fuel n0 (t0 p1 p4d p4g p0 x0q3 ((IntKind.wrap .i64 (Int.fdiv (IntKind.wrap .u64 (IntKind.wrap .i64 (x0q3 + x0q4))) (2 ^ min (1 : Int).toNat (IntKind.bits .u64)))))) (k0  fuel))
  else
  none)
  else
  L1 fuel fuel (t1 x0q3 p1 p0) (k1  fuel)) := by kernel_rfl
theorem s1 (fuel n1 : Nat) (x0q3 : Int) (x1q1 : Int) (x1q2 : List Int) : L1 fuel (n1 + 1) (t1 x0q3 x1q1 x1q2) (k1  fuel) =
  (bif (decide ((x1q1 : Int) < (IntKind.wrap .i64 (x0q3 - 1)))) then
  (idx (IntKind.wrap .i64 (x1q1 + 1)) x1q2.length).bind fun j49 =>
  (x1q2[j49]?).bind fun v50 =>
  (idx x1q1 x1q2.length).bind fun j51 =>
  (x1q2[j51]?).bind fun v52 =>
  (idx x1q1 x1q2.length).bind fun j53 =>
  (bif decide (j53 < x1q2.length) then
  (idx (IntKind.wrap .i64 (x1q1 + 1)) (x1q2.set j53 v50).length).bind fun j54 =>
  (bif decide (j54 < (x1q2.set j53 v50).length) then
  L1 fuel n1 (t1 x0q3 ((IntKind.wrap .i64 (x1q1 + 1))) (((x1q2.set j53 v50).set j54 v52))) (k1  fuel)
  else
  none)
  else
  none)
  else
  some ([], [[(.ints .i64 x1q2)]])) := by kernel_rfl
theorem s2 (fuel n2 : Nat) (p2 : Int) (p4d : List Q → Bool) (p4g : List Q → Int) (p0 : List Int) (x2q3 : Int) (x2q4 : Int) : L2 fuel (n2 + 1) (t2 p2 p4d p4g p0 x2q3 x2q4) (k2  fuel) =
  (bif (decide ((x2q3 : Int) < x2q4)) then
  (idx p2 p0.length).bind fun j93 =>
  (p0[j93]?).bind fun v94 =>
  (idx (IntKind.wrap .i64 (Int.fdiv (IntKind.wrap .u64 (IntKind.wrap .i64 (x2q3 + x2q4))) (2 ^ min (1 : Int).toNat (IntKind.bits .u64)))) p0.length).bind fun j95 =>
  (p0[j95]?).bind fun v96 =>
  (bif (p4d [Q.i v94, Q.i v96]) then
  (bif (!(decide (((p4g [Q.i v94, Q.i v96]) : Int) < 0))) then
  L2 fuel n2 (t2 p2 p4d p4g p0 ((IntKind.wrap .i64 ((IntKind.wrap .i64 (Int.fdiv (IntKind.wrap .u64 (IntKind.wrap .i64 (x2q3 + x2q4))) (2 ^ min (1 : Int).toNat (IntKind.bits .u64)))) + 1))) x2q4) (k2  fuel)
  else
  L2 fuel n2 (t2 p2 p4d p4g p0 x2q3 ((IntKind.wrap .i64 (Int.fdiv (IntKind.wrap .u64 (IntKind.wrap .i64 (x2q3 + x2q4))) (2 ^ min (1 : Int).toNat (IntKind.bits .u64)))))) (k2  fuel))
  else
  none)
  else
  L3 fuel fuel (t3 x2q3 p2 p0) (k3  fuel)) := by kernel_rfl
theorem s3 (fuel n3 : Nat) (x2q3 : Int) (x3q1 : Int) (x3q2 : List Int) : L3 fuel (n3 + 1) (t3 x2q3 x3q1 x3q2) (k3  fuel) =
  (bif (decide ((x3q1 : Int) > x2q3)) then
  (idx (IntKind.wrap .i64 (x3q1 - 1)) x3q2.length).bind fun j103 =>
  (x3q2[j103]?).bind fun v104 =>
  (idx x3q1 x3q2.length).bind fun j105 =>
  (x3q2[j105]?).bind fun v106 =>
  (idx x3q1 x3q2.length).bind fun j107 =>
  (bif decide (j107 < x3q2.length) then
  (idx (IntKind.wrap .i64 (x3q1 - 1)) (x3q2.set j107 v104).length).bind fun j108 =>
  (bif decide (j108 < (x3q2.set j107 v104).length) then
  L3 fuel n3 (t3 x2q3 ((IntKind.wrap .i64 (x3q1 - 1))) (((x3q2.set j107 v104).set j108 v106))) (k3  fuel)
  else
  none)
  else
  none)
  else
  some ([], [[(.ints .i64 x3q2)]])) := by kernel_rfl
theorem s4 (fuel n4 : Nat) (p1 : Int) (p2 : Int) (p3 : Int) (p4d : List Q → Bool) (p4g : List Q → Int) (p0 : List Int) (x4q7 : Int) (x4q8 : Int) : L4 fuel (n4 + 1) (t4 p1 p2 p3 p4d p4g p0 x4q7 x4q8) (k4  fuel) =
  (bif (decide ((x4q7 : Int) < x4q8)) then
  (idx (IntKind.wrap .i64 ((IntKind.wrap .i64 ((IntKind.wrap .i64 ((IntKind.wrap .i64 (Int.fdiv (IntKind.wrap .u64 (IntKind.wrap .i64 (p1 + p3))) (2 ^ min (1 : Int).toNat (IntKind.bits .u64)))) + p2)) - 1)) - (IntKind.wrap .i64 (Int.fdiv (IntKind.wrap .u64 (IntKind.wrap .i64 (x4q7 + x4q8))) (2 ^ min (1 : Int).toNat (IntKind.bits .u64)))))) p0.length).bind fun j315 =>
  (p0[j315]?).bind fun v316 =>
  (idx (IntKind.wrap .i64 (Int.fdiv (IntKind.wrap .u64 (IntKind.wrap .i64 (x4q7 + x4q8))) (2 ^ min (1 : Int).toNat (IntKind.bits .u64)))) p0.length).bind fun j317 =>
  (p0[j317]?).bind fun v318 =>
  (bif (p4d [Q.i v316, Q.i v318]) then
  (bif (!(decide (((p4g [Q.i v316, Q.i v318]) : Int) < 0))) then
  L4 fuel n4 (t4 p1 p2 p3 p4d p4g p0 ((IntKind.wrap .i64 ((IntKind.wrap .i64 (Int.fdiv (IntKind.wrap .u64 (IntKind.wrap .i64 (x4q7 + x4q8))) (2 ^ min (1 : Int).toNat (IntKind.bits .u64)))) + 1))) x4q8) (k4  fuel)
  else
  L4 fuel n4 (t4 p1 p2 p3 p4d p4g p0 x4q7 ((IntKind.wrap .i64 (Int.fdiv (IntKind.wrap .u64 (IntKind.wrap .i64 (x4q7 + x4q8))) (2 ^ min (1 : Int).toNat (IntKind.bits .u64)))))) (k4  fuel))
  else
  none)
  else
  (bif (decide ((x4q7 : Int) < p2)) then
  (bif (decide ((p2 : Int) < (IntKind.wrap .i64 ((IntKind.wrap .i64 ((IntKind.wrap .i64 (Int.fdiv (IntKind.wrap .u64 (IntKind.wrap .i64 (p1 + p3))) (2 ^ min (1 : Int).toNat (IntKind.bits .u64)))) + p2)) - x4q7)))) then
  L5 fuel fuel (t5 p2 p4d p4g p1 p3 x4q7 ((IntKind.wrap .i64 (p2 - x4q7))) ((IntKind.wrap .i64 ((IntKind.wrap .i64 ((IntKind.wrap .i64 ((IntKind.wrap .i64 (Int.fdiv (IntKind.wrap .u64 (IntKind.wrap .i64 (p1 + p3))) (2 ^ min (1 : Int).toNat (IntKind.bits .u64)))) + p2)) - x4q7)) - p2))) p0) (k5  fuel)
  else
  (bif (decide ((p1 : Int) < x4q7)) then
  (bif (decide ((x4q7 : Int) < (IntKind.wrap .i64 (Int.fdiv (IntKind.wrap .u64 (IntKind.wrap .i64 (p1 + p3))) (2 ^ min (1 : Int).toNat (IntKind.bits .u64)))))) then
  (bif decide ((p0 : List Int).length ≤ 60) && domA p4d p0 && upW p4g p0 && decide (0 ≤ p1) && decide (p1 < x4q7) && decide (x4q7 < ((IntKind.wrap .i64 (Int.fdiv (IntKind.wrap .u64 (IntKind.wrap .i64 (p1 + p3))) (2 ^ min (1 : Int).toNat (IntKind.bits .u64)))))) && decide (((IntKind.wrap .i64 (Int.fdiv (IntKind.wrap .u64 (IntKind.wrap .i64 (p1 + p3))) (2 ^ min (1 : Int).toNat (IntKind.bits .u64))))) ≤ (((p0 : List Int).length : Nat) : Int)) && decide (((IntKind.wrap .i64 (Int.fdiv (IntKind.wrap .u64 (IntKind.wrap .i64 (p1 + p3))) (2 ^ min (1 : Int).toNat (IntKind.bits .u64))))) - p1 ≤ 2) then
  (bif (decide (((IntKind.wrap .i64 (Int.fdiv (IntKind.wrap .u64 (IntKind.wrap .i64 (p1 + p3))) (2 ^ min (1 : Int).toNat (IntKind.bits .u64)))) : Int) < (IntKind.wrap .i64 ((IntKind.wrap .i64 ((IntKind.wrap .i64 (Int.fdiv (IntKind.wrap .u64 (IntKind.wrap .i64 (p1 + p3))) (2 ^ min (1 : Int).toNat (IntKind.bits .u64)))) + p2)) - x4q7)))) then
  (bif (decide (((IntKind.wrap .i64 ((IntKind.wrap .i64 ((IntKind.wrap .i64 (Int.fdiv (IntKind.wrap .u64 (IntKind.wrap .i64 (p1 + p3))) (2 ^ min (1 : Int).toNat (IntKind.bits .u64)))) + p2)) - x4q7)) : Int) < p3)) then
  (bif decide ((p0 : List Int).length ≤ 60) && domA p4d p0 && upW p4g p0 && decide (0 ≤ ((IntKind.wrap .i64 (Int.fdiv (IntKind.wrap .u64 (IntKind.wrap .i64 (p1 + p3))) (2 ^ min (1 : Int).toNat (IntKind.bits .u64)))))) && decide (((IntKind.wrap .i64 (Int.fdiv (IntKind.wrap .u64 (IntKind.wrap .i64 (p1 + p3))) (2 ^ min (1 : Int).toNat (IntKind.bits .u64))))) < ((IntKind.wrap .i64 ((IntKind.wrap .i64 ((IntKind.wrap .i64 (Int.fdiv (IntKind.wrap .u64 (IntKind.wrap .i64 (p1 + p3))) (2 ^ min (1 : Int).toNat (IntKind.bits .u64)))) + p2)) - x4q7)))) && decide (((IntKind.wrap .i64 ((IntKind.wrap .i64 ((IntKind.wrap .i64 (Int.fdiv (IntKind.wrap .u64 (IntKind.wrap .i64 (p1 + p3))) (2 ^ min (1 : Int).toNat (IntKind.bits .u64)))) + p2)) - x4q7))) < p3) && decide (p3 ≤ (((p0 : List Int).length : Nat) : Int)) && decide (p3 - ((IntKind.wrap .i64 (Int.fdiv (IntKind.wrap .u64 (IntKind.wrap .i64 (p1 + p3))) (2 ^ min (1 : Int).toNat (IntKind.bits .u64))))) ≤ 2) then
  some ([], [[(.ints .i64 p0)]])
  else
  none)
  else
  some ([], [[(.ints .i64 p0)]]))
  else
  some ([], [[(.ints .i64 p0)]]))
  else
  none)
  else
  (bif (decide (((IntKind.wrap .i64 (Int.fdiv (IntKind.wrap .u64 (IntKind.wrap .i64 (p1 + p3))) (2 ^ min (1 : Int).toNat (IntKind.bits .u64)))) : Int) < (IntKind.wrap .i64 ((IntKind.wrap .i64 ((IntKind.wrap .i64 (Int.fdiv (IntKind.wrap .u64 (IntKind.wrap .i64 (p1 + p3))) (2 ^ min (1 : Int).toNat (IntKind.bits .u64)))) + p2)) - x4q7)))) then
  (bif (decide (((IntKind.wrap .i64 ((IntKind.wrap .i64 ((IntKind.wrap .i64 (Int.fdiv (IntKind.wrap .u64 (IntKind.wrap .i64 (p1 + p3))) (2 ^ min (1 : Int).toNat (IntKind.bits .u64)))) + p2)) - x4q7)) : Int) < p3)) then
  (bif decide ((p0 : List Int).length ≤ 60) && domA p4d p0 && upW p4g p0 && decide (0 ≤ ((IntKind.wrap .i64 (Int.fdiv (IntKind.wrap .u64 (IntKind.wrap .i64 (p1 + p3))) (2 ^ min (1 : Int).toNat (IntKind.bits .u64)))))) && decide (((IntKind.wrap .i64 (Int.fdiv (IntKind.wrap .u64 (IntKind.wrap .i64 (p1 + p3))) (2 ^ min (1 : Int).toNat (IntKind.bits .u64))))) < ((IntKind.wrap .i64 ((IntKind.wrap .i64 ((IntKind.wrap .i64 (Int.fdiv (IntKind.wrap .u64 (IntKind.wrap .i64 (p1 + p3))) (2 ^ min (1 : Int).toNat (IntKind.bits .u64)))) + p2)) - x4q7)))) && decide (((IntKind.wrap .i64 ((IntKind.wrap .i64 ((IntKind.wrap .i64 (Int.fdiv (IntKind.wrap .u64 (IntKind.wrap .i64 (p1 + p3))) (2 ^ min (1 : Int).toNat (IntKind.bits .u64)))) + p2)) - x4q7))) < p3) && decide (p3 ≤ (((p0 : List Int).length : Nat) : Int)) && decide (p3 - ((IntKind.wrap .i64 (Int.fdiv (IntKind.wrap .u64 (IntKind.wrap .i64 (p1 + p3))) (2 ^ min (1 : Int).toNat (IntKind.bits .u64))))) ≤ 2) then
  some ([], [[(.ints .i64 p0)]])
  else
  none)
  else
  some ([], [[(.ints .i64 p0)]]))
  else
  some ([], [[(.ints .i64 p0)]])))
  else
  (bif (decide (((IntKind.wrap .i64 (Int.fdiv (IntKind.wrap .u64 (IntKind.wrap .i64 (p1 + p3))) (2 ^ min (1 : Int).toNat (IntKind.bits .u64)))) : Int) < (IntKind.wrap .i64 ((IntKind.wrap .i64 ((IntKind.wrap .i64 (Int.fdiv (IntKind.wrap .u64 (IntKind.wrap .i64 (p1 + p3))) (2 ^ min (1 : Int).toNat (IntKind.bits .u64)))) + p2)) - x4q7)))) then
  (bif (decide (((IntKind.wrap .i64 ((IntKind.wrap .i64 ((IntKind.wrap .i64 (Int.fdiv (IntKind.wrap .u64 (IntKind.wrap .i64 (p1 + p3))) (2 ^ min (1 : Int).toNat (IntKind.bits .u64)))) + p2)) - x4q7)) : Int) < p3)) then
  (bif decide ((p0 : List Int).length ≤ 60) && domA p4d p0 && upW p4g p0 && decide (0 ≤ ((IntKind.wrap .i64 (Int.fdiv (IntKind.wrap .u64 (IntKind.wrap .i64 (p1 + p3))) (2 ^ min (1 : Int).toNat (IntKind.bits .u64)))))) && decide (((IntKind.wrap .i64 (Int.fdiv (IntKind.wrap .u64 (IntKind.wrap .i64 (p1 + p3))) (2 ^ min (1 : Int).toNat (IntKind.bits .u64))))) < ((IntKind.wrap .i64 ((IntKind.wrap .i64 ((IntKind.wrap .i64 (Int.fdiv (IntKind.wrap .u64 (IntKind.wrap .i64 (p1 + p3))) (2 ^ min (1 : Int).toNat (IntKind.bits .u64)))) + p2)) - x4q7)))) && decide (((IntKind.wrap .i64 ((IntKind.wrap .i64 ((IntKind.wrap .i64 (Int.fdiv (IntKind.wrap .u64 (IntKind.wrap .i64 (p1 + p3))) (2 ^ min (1 : Int).toNat (IntKind.bits .u64)))) + p2)) - x4q7))) < p3) && decide (p3 ≤ (((p0 : List Int).length : Nat) : Int)) && decide (p3 - ((IntKind.wrap .i64 (Int.fdiv (IntKind.wrap .u64 (IntKind.wrap .i64 (p1 + p3))) (2 ^ min (1 : Int).toNat (IntKind.bits .u64))))) ≤ 2) then
  some ([], [[(.ints .i64 p0)]])
  else
  none)
  else
  some ([], [[(.ints .i64 p0)]]))
  else
  some ([], [[(.ints .i64 p0)]]))))
  else
  (bif (decide ((p1 : Int) < x4q7)) then
  (bif (decide ((x4q7 : Int) < (IntKind.wrap .i64 (Int.fdiv (IntKind.wrap .u64 (IntKind.wrap .i64 (p1 + p3))) (2 ^ min (1 : Int).toNat (IntKind.bits .u64)))))) then
  (bif decide ((p0 : List Int).length ≤ 60) && domA p4d p0 && upW p4g p0 && decide (0 ≤ p1) && decide (p1 < x4q7) && decide (x4q7 < ((IntKind.wrap .i64 (Int.fdiv (IntKind.wrap .u64 (IntKind.wrap .i64 (p1 + p3))) (2 ^ min (1 : Int).toNat (IntKind.bits .u64)))))) && decide (((IntKind.wrap .i64 (Int.fdiv (IntKind.wrap .u64 (IntKind.wrap .i64 (p1 + p3))) (2 ^ min (1 : Int).toNat (IntKind.bits .u64))))) ≤ (((p0 : List Int).length : Nat) : Int)) && decide (((IntKind.wrap .i64 (Int.fdiv (IntKind.wrap .u64 (IntKind.wrap .i64 (p1 + p3))) (2 ^ min (1 : Int).toNat (IntKind.bits .u64))))) - p1 ≤ 2) then
  (bif (decide (((IntKind.wrap .i64 (Int.fdiv (IntKind.wrap .u64 (IntKind.wrap .i64 (p1 + p3))) (2 ^ min (1 : Int).toNat (IntKind.bits .u64)))) : Int) < (IntKind.wrap .i64 ((IntKind.wrap .i64 ((IntKind.wrap .i64 (Int.fdiv (IntKind.wrap .u64 (IntKind.wrap .i64 (p1 + p3))) (2 ^ min (1 : Int).toNat (IntKind.bits .u64)))) + p2)) - x4q7)))) then
  (bif (decide (((IntKind.wrap .i64 ((IntKind.wrap .i64 ((IntKind.wrap .i64 (Int.fdiv (IntKind.wrap .u64 (IntKind.wrap .i64 (p1 + p3))) (2 ^ min (1 : Int).toNat (IntKind.bits .u64)))) + p2)) - x4q7)) : Int) < p3)) then
  (bif decide ((p0 : List Int).length ≤ 60) && domA p4d p0 && upW p4g p0 && decide (0 ≤ ((IntKind.wrap .i64 (Int.fdiv (IntKind.wrap .u64 (IntKind.wrap .i64 (p1 + p3))) (2 ^ min (1 : Int).toNat (IntKind.bits .u64)))))) && decide (((IntKind.wrap .i64 (Int.fdiv (IntKind.wrap .u64 (IntKind.wrap .i64 (p1 + p3))) (2 ^ min (1 : Int).toNat (IntKind.bits .u64))))) < ((IntKind.wrap .i64 ((IntKind.wrap .i64 ((IntKind.wrap .i64 (Int.fdiv (IntKind.wrap .u64 (IntKind.wrap .i64 (p1 + p3))) (2 ^ min (1 : Int).toNat (IntKind.bits .u64)))) + p2)) - x4q7)))) && decide (((IntKind.wrap .i64 ((IntKind.wrap .i64 ((IntKind.wrap .i64 (Int.fdiv (IntKind.wrap .u64 (IntKind.wrap .i64 (p1 + p3))) (2 ^ min (1 : Int).toNat (IntKind.bits .u64)))) + p2)) - x4q7))) < p3) && decide (p3 ≤ (((p0 : List Int).length : Nat) : Int)) && decide (p3 - ((IntKind.wrap .i64 (Int.fdiv (IntKind.wrap .u64 (IntKind.wrap .i64 (p1 + p3))) (2 ^ min (1 : Int).toNat (IntKind.bits .u64))))) ≤ 2) then
  some ([], [[(.ints .i64 p0)]])
  else
  none)
  else
  some ([], [[(.ints .i64 p0)]]))
  else
  some ([], [[(.ints .i64 p0)]]))
  else
  none)
  else
  (bif (decide (((IntKind.wrap .i64 (Int.fdiv (IntKind.wrap .u64 (IntKind.wrap .i64 (p1 + p3))) (2 ^ min (1 : Int).toNat (IntKind.bits .u64)))) : Int) < (IntKind.wrap .i64 ((IntKind.wrap .i64 ((IntKind.wrap .i64 (Int.fdiv (IntKind.wrap .u64 (IntKind.wrap .i64 (p1 + p3))) (2 ^ min (1 : Int).toNat (IntKind.bits .u64)))) + p2)) - x4q7)))) then
  (bif (decide (((IntKind.wrap .i64 ((IntKind.wrap .i64 ((IntKind.wrap .i64 (Int.fdiv (IntKind.wrap .u64 (IntKind.wrap .i64 (p1 + p3))) (2 ^ min (1 : Int).toNat (IntKind.bits .u64)))) + p2)) - x4q7)) : Int) < p3)) then
  (bif decide ((p0 : List Int).length ≤ 60) && domA p4d p0 && upW p4g p0 && decide (0 ≤ ((IntKind.wrap .i64 (Int.fdiv (IntKind.wrap .u64 (IntKind.wrap .i64 (p1 + p3))) (2 ^ min (1 : Int).toNat (IntKind.bits .u64)))))) && decide (((IntKind.wrap .i64 (Int.fdiv (IntKind.wrap .u64 (IntKind.wrap .i64 (p1 + p3))) (2 ^ min (1 : Int).toNat (IntKind.bits .u64))))) < ((IntKind.wrap .i64 ((IntKind.wrap .i64 ((IntKind.wrap .i64 (Int.fdiv (IntKind.wrap .u64 (IntKind.wrap .i64 (p1 + p3))) (2 ^ min (1 : Int).toNat (IntKind.bits .u64)))) + p2)) - x4q7)))) && decide (((IntKind.wrap .i64 ((IntKind.wrap .i64 ((IntKind.wrap .i64 (Int.fdiv (IntKind.wrap .u64 (IntKind.wrap .i64 (p1 + p3))) (2 ^ min (1 : Int).toNat (IntKind.bits .u64)))) + p2)) - x4q7))) < p3) && decide (p3 ≤ (((p0 : List Int).length : Nat) : Int)) && decide (p3 - ((IntKind.wrap .i64 (Int.fdiv (IntKind.wrap .u64 (IntKind.wrap .i64 (p1 + p3))) (2 ^ min (1 : Int).toNat (IntKind.bits .u64))))) ≤ 2) then
  some ([], [[(.ints .i64 p0)]])
  else
  none)
  else
  some ([], [[(.ints .i64 p0)]]))
  else
  some ([], [[(.ints .i64 p0)]])))
  else
  (bif (decide (((IntKind.wrap .i64 (Int.fdiv (IntKind.wrap .u64 (IntKind.wrap .i64 (p1 + p3))) (2 ^ min (1 : Int).toNat (IntKind.bits .u64)))) : Int) < (IntKind.wrap .i64 ((IntKind.wrap .i64 ((IntKind.wrap .i64 (Int.fdiv (IntKind.wrap .u64 (IntKind.wrap .i64 (p1 + p3))) (2 ^ min (1 : Int).toNat (IntKind.bits .u64)))) + p2)) - x4q7)))) then
  (bif (decide (((IntKind.wrap .i64 ((IntKind.wrap .i64 ((IntKind.wrap .i64 (Int.fdiv (IntKind.wrap .u64 (IntKind.wrap .i64 (p1 + p3))) (2 ^ min (1 : Int).toNat (IntKind.bits .u64)))) + p2)) - x4q7)) : Int) < p3)) then
  (bif decide ((p0 : List Int).length ≤ 60) && domA p4d p0 && upW p4g p0 && decide (0 ≤ ((IntKind.wrap .i64 (Int.fdiv (IntKind.wrap .u64 (IntKind.wrap .i64 (p1 + p3))) (2 ^ min (1 : Int).toNat (IntKind.bits .u64)))))) && decide (((IntKind.wrap .i64 (Int.fdiv (IntKind.wrap .u64 (IntKind.wrap .i64 (p1 + p3))) (2 ^ min (1 : Int).toNat (IntKind.bits .u64))))) < ((IntKind.wrap .i64 ((IntKind.wrap .i64 ((IntKind.wrap .i64 (Int.fdiv (IntKind.wrap .u64 (IntKind.wrap .i64 (p1 + p3))) (2 ^ min (1 : Int).toNat (IntKind.bits .u64)))) + p2)) - x4q7)))) && decide (((IntKind.wrap .i64 ((IntKind.wrap .i64 ((IntKind.wrap .i64 (Int.fdiv (IntKind.wrap .u64 (IntKind.wrap .i64 (p1 + p3))) (2 ^ min (1 : Int).toNat (IntKind.bits .u64)))) + p2)) - x4q7))) < p3) && decide (p3 ≤ (((p0 : List Int).length : Nat) : Int)) && decide (p3 - ((IntKind.wrap .i64 (Int.fdiv (IntKind.wrap .u64 (IntKind.wrap .i64 (p1 + p3))) (2 ^ min (1 : Int).toNat (IntKind.bits .u64))))) ≤ 2) then
  some ([], [[(.ints .i64 p0)]])
  else
  none)
  else
  some ([], [[(.ints .i64 p0)]]))
  else
  some ([], [[(.ints .i64 p0)]]))))) := by kernel_rfl
theorem s5 (fuel n5 : Nat) (p2 : Int) (p4d : List Q → Bool) (p4g : List Q → Int) (p1 : Int) (p3 : Int) (x4q7 : Int) (x5q3 : Int) (x5q4 : Int) (x5q5 : List Int) : L5 fuel (n5 + 1) (t5 p2 p4d p4g p1 p3 x4q7 x5q3 x5q4 x5q5) (k5  fuel) =
  (bif ((x5q3 : Int) != x5q4) then
  (bif (decide ((x5q3 : Int) > x5q4)) then
  L6 fuel fuel (t6 p2 x5q3 x5q4 p4d p4g p1 p3 x4q7 0 x5q5) (k6 n5 fuel)
  else
  L7 fuel fuel (t7 p2 x5q3 x5q4 p4d p4g p1 p3 x4q7 0 x5q5) (k7 n5 fuel))
  else
  L8 fuel fuel (t8 p2 x5q3 p4d p4g p1 p3 x4q7 0 x5q5) (k8  fuel)) := by kernel_rfl
theorem s6 (fuel n5 n6 : Nat) (p2 : Int) (x5q3 : Int) (x5q4 : Int) (p4d : List Q → Bool) (p4g : List Q → Int) (p1 : Int) (p3 : Int) (x4q7 : Int) (x6q3 : Int) (x6q4 : List Int) : L6 fuel (n6 + 1) (t6 p2 x5q3 x5q4 p4d p4g p1 p3 x4q7 x6q3 x6q4) (k6 n5 fuel) =
  (bif (decide ((x6q3 : Int) < x5q4)) then
  (idx (IntKind.wrap .i64 (p2 + x6q3)) x6q4.length).bind fun j361 =>
  (x6q4[j361]?).bind fun v362 =>
  (idx (IntKind.wrap .i64 ((IntKind.wrap .i64 (p2 - x5q3)) + x6q3)) x6q4.length).bind fun j363 =>
  (x6q4[j363]?).bind fun v364 =>
  (idx (IntKind.wrap .i64 ((IntKind.wrap .i64 (p2 - x5q3)) + x6q3)) x6q4.length).bind fun j365 =>
  (bif decide (j365 < x6q4.length) then
  (idx (IntKind.wrap .i64 (p2 + x6q3)) (x6q4.set j365 v362).length).bind fun j366 =>
  (bif decide (j366 < (x6q4.set j365 v362).length) then
  L6 fuel n6 (t6 p2 x5q3 x5q4 p4d p4g p1 p3 x4q7 ((IntKind.wrap .i64 (x6q3 + 1))) (((x6q4.set j365 v362).set j366 v364))) (k6 n5 fuel)
  else
  none)
  else
  none)
  else
  L5 fuel n5 (t5 p2 p4d p4g p1 p3 x4q7 ((IntKind.wrap .i64 (x5q3 - x5q4))) x5q4 x6q4) (k5  fuel)) := by kernel_rfl
theorem s7 (fuel n5 n7 : Nat) (p2 : Int) (x5q3 : Int) (x5q4 : Int) (p4d : List Q → Bool) (p4g : List Q → Int) (p1 : Int) (p3 : Int) (x4q7 : Int) (x7q3 : Int) (x7q4 : List Int) : L7 fuel (n7 + 1) (t7 p2 x5q3 x5q4 p4d p4g p1 p3 x4q7 x7q3 x7q4) (k7 n5 fuel) =
  (bif (decide ((x7q3 : Int) < x5q3)) then
  (idx (IntKind.wrap .i64 ((IntKind.wrap .i64 ((IntKind.wrap .i64 (p2 + x5q4)) - x5q3)) + x7q3)) x7q4.length).bind fun j373 =>
  (x7q4[j373]?).bind fun v374 =>
  (idx (IntKind.wrap .i64 ((IntKind.wrap .i64 (p2 - x5q3)) + x7q3)) x7q4.length).bind fun j375 =>
  (x7q4[j375]?).bind fun v376 =>
  (idx (IntKind.wrap .i64 ((IntKind.wrap .i64 (p2 - x5q3)) + x7q3)) x7q4.length).bind fun j377 =>
  (bif decide (j377 < x7q4.length) then
  (idx (IntKind.wrap .i64 ((IntKind.wrap .i64 ((IntKind.wrap .i64 (p2 + x5q4)) - x5q3)) + x7q3)) (x7q4.set j377 v374).length).bind fun j378 =>
  (bif decide (j378 < (x7q4.set j377 v374).length) then
  L7 fuel n7 (t7 p2 x5q3 x5q4 p4d p4g p1 p3 x4q7 ((IntKind.wrap .i64 (x7q3 + 1))) (((x7q4.set j377 v374).set j378 v376))) (k7 n5 fuel)
  else
  none)
  else
  none)
  else
  L5 fuel n5 (t5 p2 p4d p4g p1 p3 x4q7 x5q3 ((IntKind.wrap .i64 (x5q4 - x5q3))) x7q4) (k5  fuel)) := by kernel_rfl
theorem s8 (fuel n8 : Nat) (p2 : Int) (x5q3 : Int) (p4d : List Q → Bool) (p4g : List Q → Int) (p1 : Int) (p3 : Int) (x4q7 : Int) (x8q3 : Int) (x8q4 : List Int) : L8 fuel (n8 + 1) (t8 p2 x5q3 p4d p4g p1 p3 x4q7 x8q3 x8q4) (k8  fuel) =
  (bif (decide ((x8q3 : Int) < x5q3)) then
  (idx (IntKind.wrap .i64 (p2 + x8q3)) x8q4.length).bind fun j385 =>
  (x8q4[j385]?).bind fun v386 =>
  (idx (IntKind.wrap .i64 ((IntKind.wrap .i64 (p2 - x5q3)) + x8q3)) x8q4.length).bind fun j387 =>
  (x8q4[j387]?).bind fun v388 =>
  (idx (IntKind.wrap .i64 ((IntKind.wrap .i64 (p2 - x5q3)) + x8q3)) x8q4.length).bind fun j389 =>
  (bif decide (j389 < x8q4.length) then
  (idx (IntKind.wrap .i64 (p2 + x8q3)) (x8q4.set j389 v386).length).bind fun j390 =>
  (bif decide (j390 < (x8q4.set j389 v386).length) then
  L8 fuel n8 (t8 p2 x5q3 p4d p4g p1 p3 x4q7 ((IntKind.wrap .i64 (x8q3 + 1))) (((x8q4.set j389 v386).set j390 v388))) (k8  fuel)
  else
  none)
  else
  none)
  else
  (bif (decide ((p1 : Int) < x4q7)) then
  (bif (decide ((x4q7 : Int) < (IntKind.wrap .i64 (Int.fdiv (IntKind.wrap .u64 (IntKind.wrap .i64 (p1 + p3))) (2 ^ min (1 : Int).toNat (IntKind.bits .u64)))))) then
  (bif decide ((x8q4 : List Int).length ≤ 60) && domA p4d x8q4 && upW p4g x8q4 && decide (0 ≤ p1) && decide (p1 < x4q7) && decide (x4q7 < ((IntKind.wrap .i64 (Int.fdiv (IntKind.wrap .u64 (IntKind.wrap .i64 (p1 + p3))) (2 ^ min (1 : Int).toNat (IntKind.bits .u64)))))) && decide (((IntKind.wrap .i64 (Int.fdiv (IntKind.wrap .u64 (IntKind.wrap .i64 (p1 + p3))) (2 ^ min (1 : Int).toNat (IntKind.bits .u64))))) ≤ (((x8q4 : List Int).length : Nat) : Int)) && decide (((IntKind.wrap .i64 (Int.fdiv (IntKind.wrap .u64 (IntKind.wrap .i64 (p1 + p3))) (2 ^ min (1 : Int).toNat (IntKind.bits .u64))))) - p1 ≤ 2) then
  (bif (decide (((IntKind.wrap .i64 (Int.fdiv (IntKind.wrap .u64 (IntKind.wrap .i64 (p1 + p3))) (2 ^ min (1 : Int).toNat (IntKind.bits .u64)))) : Int) < (IntKind.wrap .i64 ((IntKind.wrap .i64 ((IntKind.wrap .i64 (Int.fdiv (IntKind.wrap .u64 (IntKind.wrap .i64 (p1 + p3))) (2 ^ min (1 : Int).toNat (IntKind.bits .u64)))) + p2)) - x4q7)))) then
  (bif (decide (((IntKind.wrap .i64 ((IntKind.wrap .i64 ((IntKind.wrap .i64 (Int.fdiv (IntKind.wrap .u64 (IntKind.wrap .i64 (p1 + p3))) (2 ^ min (1 : Int).toNat (IntKind.bits .u64)))) + p2)) - x4q7)) : Int) < p3)) then
  (bif decide ((x8q4 : List Int).length ≤ 60) && domA p4d x8q4 && upW p4g x8q4 && decide (0 ≤ ((IntKind.wrap .i64 (Int.fdiv (IntKind.wrap .u64 (IntKind.wrap .i64 (p1 + p3))) (2 ^ min (1 : Int).toNat (IntKind.bits .u64)))))) && decide (((IntKind.wrap .i64 (Int.fdiv (IntKind.wrap .u64 (IntKind.wrap .i64 (p1 + p3))) (2 ^ min (1 : Int).toNat (IntKind.bits .u64))))) < ((IntKind.wrap .i64 ((IntKind.wrap .i64 ((IntKind.wrap .i64 (Int.fdiv (IntKind.wrap .u64 (IntKind.wrap .i64 (p1 + p3))) (2 ^ min (1 : Int).toNat (IntKind.bits .u64)))) + p2)) - x4q7)))) && decide (((IntKind.wrap .i64 ((IntKind.wrap .i64 ((IntKind.wrap .i64 (Int.fdiv (IntKind.wrap .u64 (IntKind.wrap .i64 (p1 + p3))) (2 ^ min (1 : Int).toNat (IntKind.bits .u64)))) + p2)) - x4q7))) < p3) && decide (p3 ≤ (((x8q4 : List Int).length : Nat) : Int)) && decide (p3 - ((IntKind.wrap .i64 (Int.fdiv (IntKind.wrap .u64 (IntKind.wrap .i64 (p1 + p3))) (2 ^ min (1 : Int).toNat (IntKind.bits .u64))))) ≤ 2) then
  some ([], [[(.ints .i64 x8q4)]])
  else
  none)
  else
  some ([], [[(.ints .i64 x8q4)]]))
  else
  some ([], [[(.ints .i64 x8q4)]]))
  else
  none)
  else
  (bif (decide (((IntKind.wrap .i64 (Int.fdiv (IntKind.wrap .u64 (IntKind.wrap .i64 (p1 + p3))) (2 ^ min (1 : Int).toNat (IntKind.bits .u64)))) : Int) < (IntKind.wrap .i64 ((IntKind.wrap .i64 ((IntKind.wrap .i64 (Int.fdiv (IntKind.wrap .u64 (IntKind.wrap .i64 (p1 + p3))) (2 ^ min (1 : Int).toNat (IntKind.bits .u64)))) + p2)) - x4q7)))) then
  (bif (decide (((IntKind.wrap .i64 ((IntKind.wrap .i64 ((IntKind.wrap .i64 (Int.fdiv (IntKind.wrap .u64 (IntKind.wrap .i64 (p1 + p3))) (2 ^ min (1 : Int).toNat (IntKind.bits .u64)))) + p2)) - x4q7)) : Int) < p3)) then
  (bif decide ((x8q4 : List Int).length ≤ 60) && domA p4d x8q4 && upW p4g x8q4 && decide (0 ≤ ((IntKind.wrap .i64 (Int.fdiv (IntKind.wrap .u64 (IntKind.wrap .i64 (p1 + p3))) (2 ^ min (1 : Int).toNat (IntKind.bits .u64)))))) && decide (((IntKind.wrap .i64 (Int.fdiv (IntKind.wrap .u64 (IntKind.wrap .i64 (p1 + p3))) (2 ^ min (1 : Int).toNat (IntKind.bits .u64))))) < ((IntKind.wrap .i64 ((IntKind.wrap .i64 ((IntKind.wrap .i64 (Int.fdiv (IntKind.wrap .u64 (IntKind.wrap .i64 (p1 + p3))) (2 ^ min (1 : Int).toNat (IntKind.bits .u64)))) + p2)) - x4q7)))) && decide (((IntKind.wrap .i64 ((IntKind.wrap .i64 ((IntKind.wrap .i64 (Int.fdiv (IntKind.wrap .u64 (IntKind.wrap .i64 (p1 + p3))) (2 ^ min (1 : Int).toNat (IntKind.bits .u64)))) + p2)) - x4q7))) < p3) && decide (p3 ≤ (((x8q4 : List Int).length : Nat) : Int)) && decide (p3 - ((IntKind.wrap .i64 (Int.fdiv (IntKind.wrap .u64 (IntKind.wrap .i64 (p1 + p3))) (2 ^ min (1 : Int).toNat (IntKind.bits .u64))))) ≤ 2) then
  some ([], [[(.ints .i64 x8q4)]])
  else
  none)
  else
  some ([], [[(.ints .i64 x8q4)]]))
  else
  some ([], [[(.ints .i64 x8q4)]])))
  else
  (bif (decide (((IntKind.wrap .i64 (Int.fdiv (IntKind.wrap .u64 (IntKind.wrap .i64 (p1 + p3))) (2 ^ min (1 : Int).toNat (IntKind.bits .u64)))) : Int) < (IntKind.wrap .i64 ((IntKind.wrap .i64 ((IntKind.wrap .i64 (Int.fdiv (IntKind.wrap .u64 (IntKind.wrap .i64 (p1 + p3))) (2 ^ min (1 : Int).toNat (IntKind.bits .u64)))) + p2)) - x4q7)))) then
  (bif (decide (((IntKind.wrap .i64 ((IntKind.wrap .i64 ((IntKind.wrap .i64 (Int.fdiv (IntKind.wrap .u64 (IntKind.wrap .i64 (p1 + p3))) (2 ^ min (1 : Int).toNat (IntKind.bits .u64)))) + p2)) - x4q7)) : Int) < p3)) then
  (bif decide ((x8q4 : List Int).length ≤ 60) && domA p4d x8q4 && upW p4g x8q4 && decide (0 ≤ ((IntKind.wrap .i64 (Int.fdiv (IntKind.wrap .u64 (IntKind.wrap .i64 (p1 + p3))) (2 ^ min (1 : Int).toNat (IntKind.bits .u64)))))) && decide (((IntKind.wrap .i64 (Int.fdiv (IntKind.wrap .u64 (IntKind.wrap .i64 (p1 + p3))) (2 ^ min (1 : Int).toNat (IntKind.bits .u64))))) < ((IntKind.wrap .i64 ((IntKind.wrap .i64 ((IntKind.wrap .i64 (Int.fdiv (IntKind.wrap .u64 (IntKind.wrap .i64 (p1 + p3))) (2 ^ min (1 : Int).toNat (IntKind.bits .u64)))) + p2)) - x4q7)))) && decide (((IntKind.wrap .i64 ((IntKind.wrap .i64 ((IntKind.wrap .i64 (Int.fdiv (IntKind.wrap .u64 (IntKind.wrap .i64 (p1 + p3))) (2 ^ min (1 : Int).toNat (IntKind.bits .u64)))) + p2)) - x4q7))) < p3) && decide (p3 ≤ (((x8q4 : List Int).length : Nat) : Int)) && decide (p3 - ((IntKind.wrap .i64 (Int.fdiv (IntKind.wrap .u64 (IntKind.wrap .i64 (p1 + p3))) (2 ^ min (1 : Int).toNat (IntKind.bits .u64))))) ≤ 2) then
  some ([], [[(.ints .i64 x8q4)]])
  else
  none)
  else
  some ([], [[(.ints .i64 x8q4)]]))
  else
  some ([], [[(.ints .i64 x8q4)]])))) := by kernel_rfl
end slices_symMergeCmpFunc_int_u2
theorem slices_symMergeCmpFunc_int_u2.ok_of (hX : ∀ E ∈ slices_symMergeCmpFunc_int_u2.X, CallSpec Try.prog E) (h : ∀ (xs : List Int) (a : Int) (m : Int) (b : Int) (dom : List Q → Bool) (G : List Q → Int), (decide ((xs : List Int).length ≤ 60) && domA dom xs && upW G xs && decide (0 ≤ a) && decide (a < m) && decide (m < b) && decide (b ≤ (((xs : List Int).length : Nat) : Int)) && decide (b - a ≤ 4)) = true → ∃ fuel, runF Try.prog slices_symMergeCmpFunc_int_u2.X slices_symMergeCmpFunc_int_u2.I 4 fuel 68 Try.f68 [.rows true [(.i64, xs)], .d (.int .i64 a), .d (.int .i64 m), .d (.int .i64 b), .d (.fn false dom G)] = some ([], [[(.ints .i64 xs)]])) : CallSpec Try.prog slices_symMergeCmpFunc_int_u2.E :=
  callSpec_of (d := 4) hX (by kernel_rfl) slices_symMergeCmpFunc_int_u2.I_ok (by kernel_rfl) (by kernel_rfl) (by kernel_rfl) (fun _ _ _ _ h => by dsimp only [slices_symMergeCmpFunc_int_u2.E] at h; cases h) (fun xs hp => by
    dsimp only [slices_symMergeCmpFunc_int_u2.E] at hp ⊢
    split at hp
    · exact h _ _ _ _ _ _ hp
    · cases hp)
theorem slices_symMergeCmpFunc_int_u2.left {F : Nat} {xs : List Int} {a m : Nat} {dom : List Q → Bool} {G : List Q → Int} (hd : domA dom xs = true) (hu : upW G xs = true) (hl : xs.length ≤ 60) (hm : m = a + 1) (hF : 200 < F) : ∀ (d n j : Nat), j - m ≤ d → m ≤ j → j ≤ xs.length → d < n →
    slices_symMergeCmpFunc_int_u2.L0 F n (slices_symMergeCmpFunc_int_u2.t0 (a : Int) dom G xs (m : Int) (j : Int)) (slices_symMergeCmpFunc_int_u2.k0 F) = some ([], [[(.ints .i64 xs)]]) := by
  intro d
  induction d with
  | zero =>
    intro n j h1 h2 h3 h4
    obtain ⟨n, rfl⟩ : ∃ k, n = k + 1 := ⟨n - 1, by omega⟩
    obtain ⟨f, rfl⟩ : ∃ k, F = k + 1 := ⟨F - 1, by omega⟩
    rw [slices_symMergeCmpFunc_int_u2.s0, decide_eq_false (by omega), cond_false, slices_symMergeCmpFunc_int_u2.s1, wS (by omega) (by omega), decide_eq_false (by omega)]
    rfl
  | succ d ih =>
    intro n j h1 h2 h3 h4
    obtain ⟨n, rfl⟩ : ∃ k, n = k + 1 := ⟨n - 1, by omega⟩
    by_cases hj : m < j
    · have hh : (m + j) / 2 < xs.length := by omega
      have ha : a < xs.length := by omega
      have hdm := domA_get hd (mem_getD hh) (mem_getD ha)
      have hup := up_get hu (i := a) (j := (m + j) / 2) (by omega) hh
      rw [slices_symMergeCmpFunc_int_u2.s0, decide_eq_true (by omega), cond_true, halfW (by omega), idx_nat hh, idx_nat ha]
      simp only [Option.bind_some, getD_get hh, getD_get ha, hdm, hup, cond_true, cond_false]
      exact ih n ((m + j) / 2) (by omega) (by omega) (by omega) (by omega)
    · obtain ⟨f, rfl⟩ : ∃ k, F = k + 1 := ⟨F - 1, by omega⟩
      rw [slices_symMergeCmpFunc_int_u2.s0, decide_eq_false (by omega), cond_false, slices_symMergeCmpFunc_int_u2.s1, wS (by omega) (by omega), decide_eq_false (by omega)]
      rfl
theorem slices_symMergeCmpFunc_int_u2.right {F : Nat} {xs : List Int} {m : Nat} {dom : List Q → Bool} {G : List Q → Int} (hd : domA dom xs = true) (hu : upW G xs = true) (hl : xs.length ≤ 60) (hm : m < xs.length) (hF : 200 < F) : ∀ (d n i : Nat), m - i ≤ d → i ≤ m → d < n →
    slices_symMergeCmpFunc_int_u2.L2 F n (slices_symMergeCmpFunc_int_u2.t2 (m : Int) dom G xs (i : Int) (m : Int)) (slices_symMergeCmpFunc_int_u2.k2 F) = some ([], [[(.ints .i64 xs)]]) := by
  intro d
  induction d with
  | zero =>
    intro n i h1 h2 h4
    obtain ⟨n, rfl⟩ : ∃ k, n = k + 1 := ⟨n - 1, by omega⟩
    obtain ⟨f, rfl⟩ : ∃ k, F = k + 1 := ⟨F - 1, by omega⟩
    rw [slices_symMergeCmpFunc_int_u2.s2, decide_eq_false (by omega), cond_false, slices_symMergeCmpFunc_int_u2.s3, decide_eq_false (by omega)]
    rfl
  | succ d ih =>
    intro n i h1 h2 h4
    obtain ⟨n, rfl⟩ : ∃ k, n = k + 1 := ⟨n - 1, by omega⟩
    by_cases hj : i < m
    · have hh : (i + m) / 2 < xs.length := by omega
      have hdm := domA_get hd (mem_getD hm) (mem_getD hh)
      have hup := up_get hu (i := (i + m) / 2) (j := m) (by omega) hm
      rw [slices_symMergeCmpFunc_int_u2.s2, decide_eq_true (by omega), cond_true, halfW (by omega), idx_nat hh, idx_nat hm]
      simp only [Option.bind_some, getD_get hh, getD_get hm, hdm, hup, cond_true, Bool.not_false]
      rw [w1 (by omega)]
      exact ih n ((i + m) / 2 + 1) (by omega) (by omega) (by omega)
    · obtain ⟨f, rfl⟩ : ∃ k, F = k + 1 := ⟨F - 1, by omega⟩
      rw [slices_symMergeCmpFunc_int_u2.s2, decide_eq_false (by omega), cond_false, slices_symMergeCmpFunc_int_u2.s3, decide_eq_false (by omega)]
      rfl
theorem slices_symMergeCmpFunc_int_u2.seek {F : Nat} {xs : List Int} {a m b r : Nat} {dom : List Q → Bool} {G : List Q → Int} (hd : domA dom xs = true) (hu : upW G xs = true) (hl : xs.length ≤ 60) (hb : b ≤ xs.length) (ham : a + 1 < m) (hmb : m + 1 < b) (hsz : b ≤ a + 4) (hF : 200 < F)
    (hr : (m > (a + b) / 2 ∧ r = (a + b) / 2) ∨ (m ≤ (a + b) / 2 ∧ r = m)) : ∀ (d n s : Nat), r - s ≤ d → s ≤ r → (m ≤ (a + b) / 2 → a ≤ s) → (m > (a + b) / 2 → (a + b) / 2 + m ≤ s + b) → d < n →
    slices_symMergeCmpFunc_int_u2.L4 F n (slices_symMergeCmpFunc_int_u2.t4 (a : Int) (m : Int) (b : Int) dom G xs (s : Int) (r : Int)) (slices_symMergeCmpFunc_int_u2.k4 F) = some ([], [[(.ints .i64 xs)]]) := by
  have hfin : ∀ n : Nat, slices_symMergeCmpFunc_int_u2.L4 F (n + 1) (slices_symMergeCmpFunc_int_u2.t4 (a : Int) (m : Int) (b : Int) dom G xs (r : Int) (r : Int)) (slices_symMergeCmpFunc_int_u2.k4 F) = some ([], [[(.ints .i64 xs)]]) := by
    intro n
    rw [slices_symMergeCmpFunc_int_u2.s4, decide_eq_false (by omega), cond_false, halfW (by omega), wAdd (by omega)]
    rcases hr with ⟨c1, rfl⟩ | ⟨c1, rfl⟩
    · rw [wS (x := (((a + b) / 2 + m : Nat) : Int) - (((a + b) / 2 : Nat) : Int)) (by omega) (by omega), show (((a + b) / 2 + m : Nat) : Int) - (((a + b) / 2 : Nat) : Int) = (m : Int) by omega]
      rw [decide_eq_true (p := (((a + b) / 2 : Nat) : Int) < (m : Int)) (by omega), decide_eq_false (p := (m : Int) < (m : Int)) (by omega), decide_eq_true (p := (a : Int) < (((a + b) / 2 : Nat) : Int)) (by omega), decide_eq_false (p := (((a + b) / 2 : Nat) : Int) < (((a + b) / 2 : Nat) : Int)) (by omega), decide_eq_true (p := (m : Int) < (b : Int)) (by omega)]
      have hpre : (decide (xs.length ≤ 60) && domA dom xs && upW G xs && decide ((0 : Int) ≤ (((a + b) / 2 : Nat) : Int)) && decide ((((a + b) / 2 : Nat) : Int) < (m : Int)) && decide ((m : Int) < (b : Int)) && decide ((b : Int) ≤ ((xs.length : Nat) : Int)) && decide ((b : Int) - (((a + b) / 2 : Nat) : Int) ≤ 2)) = true := by
        simp only [hd, hu, Bool.and_true, Bool.and_eq_true, decide_eq_true_eq]
        omega
      rw [decide_eq_true (p := (m : Int) < (b : Int)) (by omega)] at hpre
      rw [decide_eq_true (p := (((a + b) / 2 : Nat) : Int) < (m : Int)) (by omega)] at hpre
      rw [hpre]
      rfl
    · rw [wS (x := (((a + b) / 2 + r : Nat) : Int) - (r : Int)) (by omega) (by omega), show (((a + b) / 2 + r : Nat) : Int) - (r : Int) = (((a + b) / 2 : Nat) : Int) by omega]
      rw [decide_eq_false (p := (r : Int) < (r : Int)) (by omega), decide_eq_true (p := (a : Int) < (r : Int)) (by omega), decide_eq_false (p := (((a + b) / 2 : Nat) : Int) < (((a + b) / 2 : Nat) : Int)) (by omega)]
      by_cases c2 : r < (a + b) / 2
      · rw [decide_eq_true (p := (r : Int) < (((a + b) / 2 : Nat) : Int)) (by omega)]
        have hpre : (decide (xs.length ≤ 60) && domA dom xs && upW G xs && decide ((0 : Int) ≤ (a : Int)) && decide ((a : Int) < (r : Int)) && decide ((r : Int) < (((a + b) / 2 : Nat) : Int)) && decide ((((a + b) / 2 : Nat) : Int) ≤ ((xs.length : Nat) : Int)) && decide ((((a + b) / 2 : Nat) : Int) - (a : Int) ≤ 2)) = true := by
          simp only [hd, hu, Bool.and_true, Bool.and_eq_true, decide_eq_true_eq]
          omega
        rw [decide_eq_true (p := (a : Int) < (r : Int)) (by omega)] at hpre
        rw [decide_eq_true (p := (r : Int) < (((a + b) / 2 : Nat) : Int)) (by omega)] at hpre
        rw [hpre]
        rfl
      · rw [decide_eq_false (p := (r : Int) < (((a + b) / 2 : Nat) : Int)) (by omega)]
        rfl
  intro d
  induction d with
  | zero =>
    intro n s h1 h2 h3 h4 h5
    obtain ⟨n, rfl⟩ : ∃ k, n = k + 1 := ⟨n - 1, by omega⟩
    obtain rfl : s = r := by omega
    exact hfin n
  | succ d ih =>
    intro n s h1 h2 h3 h4 h5
    obtain ⟨n, rfl⟩ : ∃ k, n = k + 1 := ⟨n - 1, by omega⟩
    by_cases hj : s < r
    · have hh : (s + r) / 2 < xs.length := by omega
      have hp : (a + b) / 2 + m - 1 - (s + r) / 2 < xs.length := by omega
      have hdm := domA_get hd (mem_getD hp) (mem_getD hh)
      have hup := up_get hu (i := (s + r) / 2) (j := (a + b) / 2 + m - 1 - (s + r) / 2) (by omega) hp
      rw [slices_symMergeCmpFunc_int_u2.s4, decide_eq_true (by omega), cond_true, halfW (by omega), halfW (by omega), wAdd (by omega), wS (x := (((a + b) / 2 + m : Nat) : Int) - 1) (by omega) (by omega), wS (x := (((a + b) / 2 + m : Nat) : Int) - 1 - (((s + r) / 2 : Nat) : Int)) (by omega) (by omega), show (((a + b) / 2 + m : Nat) : Int) - 1 - (((s + r) / 2 : Nat) : Int) = (((a + b) / 2 + m - 1 - (s + r) / 2 : Nat) : Int) by omega, idx_nat hh, idx_nat hp]
      simp only [Option.bind_some, getD_get hh, getD_get hp, hdm, hup, cond_true, Bool.not_false]
      rw [w1 (by omega)]
      exact ih n ((s + r) / 2 + 1) (by omega) (by omega) (by omega) (by omega) (by omega)
    · obtain rfl : s = r := by omega
      exact hfin n
theorem slices_symMergeCmpFunc_int_u2.ok : CallSpec Try.prog slices_symMergeCmpFunc_int_u2.E := slices_symMergeCmpFunc_int_u2.ok_of (by simp [slices_symMergeCmpFunc_int_u2.X, slices_symMergeCmpFunc_int_u1.ok]) fun xs a m b dom G h => by
  obtain ⟨F, hF⟩ : ∃ F : Nat, 200 < F := ⟨201, by omega⟩
  refine ⟨F, ?_⟩
  simp only [Bool.and_eq_true, decide_eq_true_eq] at h
  obtain ⟨⟨⟨⟨⟨⟨⟨hl, hd⟩, hu⟩, h0⟩, h1⟩, h2⟩, h3⟩, h4⟩ := h
  obtain ⟨a, rfl⟩ : ∃ n : Nat, a = n := ⟨a.toNat, by omega⟩
  obtain ⟨m, rfl⟩ : ∃ n : Nat, m = n := ⟨m.toNat, by omega⟩
  obtain ⟨b, rfl⟩ : ∃ n : Nat, b = n := ⟨b.toNat, by omega⟩
  rw [slices_symMergeCmpFunc_int_u2.e, wS (x := (m : Int) - (a : Int)) (by omega) (by omega), wS (x := (b : Int) - (m : Int)) (by omega) (by omega)]
  by_cases e1 : m = a + 1
  · rw [show (((m : Int) - (a : Int)) == 1) = true from beq_iff_eq.2 (by omega), cond_true]
    exact slices_symMergeCmpFunc_int_u2.left hd hu hl e1 hF 100 F b (by omega) (by omega) (by omega) (by omega)
  rw [show (((m : Int) - (a : Int)) == 1) = false from beq_eq_false_iff_ne.2 (by omega), cond_false]
  by_cases e2 : b = m + 1
  · rw [show (((b : Int) - (m : Int)) == 1) = true from beq_iff_eq.2 (by omega), cond_true]
    exact slices_symMergeCmpFunc_int_u2.right hd hu hl (by omega) hF 100 F a (by omega) (by omega) (by omega)
  rw [show (((b : Int) - (m : Int)) == 1) = false from beq_eq_false_iff_ne.2 (by omega), cond_false, halfW (by omega)]
  by_cases e3 : m > (a + b) / 2
  · rw [decide_eq_true (by omega), cond_true, wAdd (by omega), wS (x := (((a + b) / 2 + m : Nat) : Int) - (b : Int)) (by omega) (by omega), show (((a + b) / 2 + m : Nat) : Int) - (b : Int) = (((a + b) / 2 + m - b : Nat) : Int) by omega]
    exact slices_symMergeCmpFunc_int_u2.seek hd hu hl (by omega) (by omega) (by omega) (by omega) hF (.inl ⟨e3, rfl⟩) 100 F _ (by omega) (by omega) (by omega) (by omega) (by omega)
  · rw [decide_eq_false (by omega), cond_false]
    exact slices_symMergeCmpFunc_int_u2.seek hd hu hl (by omega) (by omega) (by omega) (by omega) hF (.inr ⟨by omega, rfl⟩) 100 F _ (by omega) (by omega) (by omega) (by omega) (by omega)

end Go.Ab
