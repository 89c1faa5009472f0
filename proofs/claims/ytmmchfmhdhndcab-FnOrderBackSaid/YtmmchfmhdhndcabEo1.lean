import Derived.Test.YtmmchfmhdhndcabEop
import Derived.Test.YtmmchfmhdhndcabProg
import Derived.Test.YtmmchfmhdhndcabChecked
open Go Go.Ab Go.Proofs
set_option maxRecDepth 100000
set_option linter.unusedVariables false
set_option linter.unusedSimpArgs false
namespace Go.Ab
namespace spec_newReader
noncomputable def E : Entry := ⟨48, false, false, fun | [.d (.ints .u8 bs)] => true | _ => false, fun | [.d (.ints .u8 bs)] => ([.box [((.ints .u8 (cutC bs)), false), ((.int .i64 0), false)]], []) | _ => ([], []), fun _ => [], true, fun _ => none⟩
end spec_newReader
namespace spec_newReader
noncomputable def X : List Entry := []
noncomputable def I : List Inl := [⟨48, Try.f48, ⟨[], [], [], [], [], []⟩⟩]
theorem I_ok : ∀ i ∈ I, Try.prog.funcs[i.f]? = some i.fn ∧ (i.fn.name == "runtime.NumGoroutine") = false := by
  intro i hi
  simp only [I, List.mem_cons, List.not_mem_nil, or_false] at hi
  subst hi
  exact ⟨by kernel_rfl, by kernel_rfl⟩
theorem e (fuel : Nat) (p0 : List Int) : runF Try.prog X I 0 fuel 48 Try.f48 [.d (.ints .u8 p0)] =
  (bif (decide ((((p0.length : Nat) : Int) : Int) > 2000)) then
  (cutEnds p0.length (none) (some (.imm (.int .i64 2000)))).bind fun cq1 =>
  some ([.box [((.ints .u8 ((p0.drop cq1.1).take (cq1.2 - cq1.1))), false), ((.int .i64 0), false)]], [])
  else
  some ([.box [((.ints .u8 p0), false), ((.int .i64 0), false)]], [])) := by kernel_rfl
end spec_newReader
theorem spec_newReader.ok_of (hX : ∀ E ∈ spec_newReader.X, CallSpec Try.prog E) (h : ∀ (bs : List Int), (true) = true → ∃ fuel, runF Try.prog spec_newReader.X spec_newReader.I 0 fuel 48 Try.f48 [.d (.ints .u8 bs)] = some ([.box [((.ints .u8 (cutC bs)), false), ((.int .i64 0), false)]], [])) : CallSpec Try.prog spec_newReader.E :=
  callSpec_of (d := 0) hX (by kernel_rfl) spec_newReader.I_ok (by kernel_rfl) (by kernel_rfl) (by kernel_rfl) (fun _ _ _ _ h => by dsimp only [spec_newReader.E] at h; cases h) (fun xs hp => by
    dsimp only [spec_newReader.E] at hp ⊢
    split at hp
    · exact h _ hp
    · cases hp)
theorem spec_newReader.ok : CallSpec Try.prog spec_newReader.E := spec_newReader.ok_of (by simp [spec_newReader.X]) fun bs _ => ⟨0, by
  rw [spec_newReader.e]
  unfold cutC
  by_cases h : ((bs.length : Nat) : Int) > 2000
  · rw [decide_eq_true h]
    have : cutEnds bs.length none (some (.imm (.int .i64 2000))) = some (0, 2000) := by
      unfold cutEnds
      simp only
      rw [if_pos ⟨by omega, by omega⟩]
      rfl
    rw [this]
    rfl
  · rw [decide_eq_false h]
    rfl⟩

namespace spec_reader_pick
noncomputable def E : Entry := ⟨51, false, false, fun | [.box [(.ints .u8 bs), (.int .i64 p)], .d (.int .i64 n)] => rdOk bs p && decide ((n : Int) ≤ 1048576) | _ => false, fun | [.box [(.ints .u8 bs), (.int .i64 p)], .d (.int .i64 n)] => ([.one ((.int .i64 (pickV bs p n)), false)], [[(.ints .u8 bs), (.int .i64 (p + 1))]]) | _ => ([], []), fun _ => [], false, fun _ => none⟩
end spec_reader_pick
namespace spec_reader_pick
noncomputable def X : List Entry := []
noncomputable def I : List Inl := [⟨51, Try.f51, ⟨[], [], [], [(7, [0, 1, 2, 4, 5, 6, 7, 15, 16, 17, 19, 20, 21, 22, 23, 24, 33, 34, 36, 37, 38, 39, 3, 8, 9, 10, 11, 12, 13, 14, 18, 25, 26, 27, 28, 29, 30, 31, 32, 35, 40, 41, 42, 43, 44, 45])], [], []⟩⟩]
theorem I_ok : ∀ i ∈ I, Try.prog.funcs[i.f]? = some i.fn ∧ (i.fn.name == "runtime.NumGoroutine") = false := by
  intro i hi
  simp only [I, List.mem_cons, List.not_mem_nil, or_false] at hi
  subst hi
  exact ⟨by kernel_rfl, by kernel_rfl⟩
theorem e (fuel : Nat) (p0q0 : List Int) (p0q1 : Int) (p1 : Int) : runF Try.prog X I 0 fuel 51 Try.f51 [.box [(.ints .u8 p0q0), (.int .i64 p0q1)], .d (.int .i64 p1)] =
  (bif (decide ((p1 : Int) < 1)) then
  some ([.one ((.int .i64 0), false)], [[(.ints .u8 p0q0), (.int .i64 (IntKind.wrap .i64 (p0q1 + 1)))]])
  else
  (bif ((((p0q0.length : Nat) : Int) : Int) == 0) then
  some ([.one ((.int .i64 0), false)], [[(.ints .u8 p0q0), (.int .i64 (IntKind.wrap .i64 (p0q1 + 1)))]])
  else
  (bif (decide (((IntKind.wrap .i64 ((IntKind.wrap .i64 (p0q1 + 1)) - 1)) : Int) < ((p0q0.length : Nat) : Int))) then
  (idx (IntKind.wrap .i64 ((IntKind.wrap .i64 (p0q1 + 1)) - 1)) p0q0.length).bind fun j1 =>
  (p0q0[j1]?).bind fun v2 =>
  (bif decide ((p1 : Int) = 0) then
  none
  else
  some ([.one ((.int .i64 (Int.tmod (IntKind.wrap .i64 v2) p1)), false)], [[(.ints .u8 p0q0), (.int .i64 (IntKind.wrap .i64 (p0q1 + 1)))]]))
  else
  (bif decide ((((p0q0.length : Nat) : Int) : Int) = 0) then
  none
  else
  (idx (Int.tmod (IntKind.wrap .i64 ((IntKind.wrap .i64 (p0q1 + 1)) - 1)) ((p0q0.length : Nat) : Int)) p0q0.length).bind fun j3 =>
  (p0q0[j3]?).bind fun v4 =>
  (bif decide ((((p0q0.length : Nat) : Int) : Int) = 0) then
  none
  else
  (idx (Int.tmod (IntKind.wrap .i64 ((IntKind.wrap .i64 ((IntKind.wrap .i64 ((IntKind.wrap .i64 (p0q1 + 1)) - 1)) * 7)) + 3)) ((p0q0.length : Nat) : Int)) p0q0.length).bind fun j5 =>
  (p0q0[j5]?).bind fun v6 =>
  (bif decide ((((p0q0.length : Nat) : Int) : Int) = 0) then
  none
  else
  (bif decide ((p1 : Int) = 0) then
  none
  else
  some ([.one ((.int .i64 (Int.tmod (IntKind.wrap .i64 ((BitVec.ofInt (IntKind.bits .i64) (IntKind.wrap .i64 ((IntKind.wrap .i64 ((IntKind.wrap .i64 ((IntKind.wrap .i64 ((IntKind.wrap .i64 v4) * 131)) + (IntKind.wrap .i64 ((IntKind.wrap .i64 v6) * 1117)))) + (IntKind.wrap .i64 ((IntKind.wrap .i64 ((IntKind.wrap .i64 (p0q1 + 1)) - 1)) * 29)))) + (IntKind.wrap .i64 ((IntKind.wrap .i64 (Int.tdiv (IntKind.wrap .i64 ((IntKind.wrap .i64 (p0q1 + 1)) - 1)) ((p0q0.length : Nat) : Int))) * 53)))) ^^^ BitVec.ofInt (IntKind.bits .i64) (IntKind.wrap .i64 (Int.tdiv (IntKind.wrap .i64 ((IntKind.wrap .i64 ((IntKind.wrap .i64 ((IntKind.wrap .i64 ((IntKind.wrap .i64 v4) * 131)) + (IntKind.wrap .i64 ((IntKind.wrap .i64 v6) * 1117)))) + (IntKind.wrap .i64 ((IntKind.wrap .i64 ((IntKind.wrap .i64 (p0q1 + 1)) - 1)) * 29)))) + (IntKind.wrap .i64 ((IntKind.wrap .i64 (Int.tdiv (IntKind.wrap .i64 ((IntKind.wrap .i64 (p0q1 + 1)) - 1)) ((p0q0.length : Nat) : Int))) * 53)))) 64))).toNat : Int)) p1)), false)], [[(.ints .u8 p0q0), (.int .i64 (IntKind.wrap .i64 (p0q1 + 1)))]])))))))) := by kernel_rfl
end spec_reader_pick
theorem spec_reader_pick.ok_of (hX : ∀ E ∈ spec_reader_pick.X, CallSpec Try.prog E) (h : ∀ (bs : List Int) (p : Int) (n : Int), (rdOk bs p && decide ((n : Int) ≤ 1048576)) = true → ∃ fuel, runF Try.prog spec_reader_pick.X spec_reader_pick.I 0 fuel 51 Try.f51 [.box [(.ints .u8 bs), (.int .i64 p)], .d (.int .i64 n)] = some ([.one ((.int .i64 (pickV bs p n)), false)], [[(.ints .u8 bs), (.int .i64 (p + 1))]])) : CallSpec Try.prog spec_reader_pick.E :=
  callSpec_of (d := 0) hX (by kernel_rfl) spec_reader_pick.I_ok (by kernel_rfl) (by kernel_rfl) (by kernel_rfl) (fun _ _ _ _ h => by dsimp only [spec_reader_pick.E] at h; cases h) (fun xs hp => by
    dsimp only [spec_reader_pick.E] at hp ⊢
    split at hp
    · exact h _ _ _ hp
    · cases hp)
theorem spec_reader_pick.ok : CallSpec Try.prog spec_reader_pick.E := spec_reader_pick.ok_of (by simp [spec_reader_pick.X]) fun bs p n h => ⟨0, by
  simp only [Bool.and_eq_true, decide_eq_true_eq] at h
  obtain ⟨h0, h1, h2, h3⟩ := rdOk_inv h.1
  have hP := @wS (p + 1) (by omega) (by omega)
  have hK := @wS (p + 1 - 1) (by omega) (by omega)
  rw [show p + 1 - 1 = p by omega] at hK
  rw [spec_reader_pick.e]
  simp only [hP, show p + 1 - 1 = p by omega, hK]
  unfold pickV
  by_cases hn : n < 1
  · rw [decide_eq_true hn]; rfl
  rw [decide_eq_false hn, cond_false, cond_false]
  by_cases hL : bs.length = 0
  · rw [show (((bs.length : Nat) : Int) == 0) = true by simp [hL]]; rfl
  rw [beq0 hL, cond_false, cond_false]
  by_cases hp : p < ((bs.length : Nat) : Int)
  · have hlt : p.toNat < bs.length := by omega
    have hi : idx p bs.length = some p.toNat := by unfold idx; rw [if_pos ⟨h0, hp⟩]
    rw [decide_eq_true hp, hi, decide_eq_false (p := n = 0) (by omega)]
    simp [hlt]
  · have t1 := tmod_bd (x := p) (n := ((bs.length : Nat) : Int)) h0 (by omega)
    have e7 := @wS (p * 7) (by omega) (by omega)
    have e8 := @wS (p * 7 + 3) (by omega) (by omega)
    have t2 := tmod_bd (x := p * 7 + 3) (n := ((bs.length : Nat) : Int)) (by omega) (by omega)
    have i1 : idx (Int.tmod p ((bs.length : Nat) : Int)) bs.length = some (Int.tmod p ((bs.length : Nat) : Int)).toNat := by unfold idx; rw [if_pos t1]
    have i2 : idx (Int.tmod (p * 7 + 3) ((bs.length : Nat) : Int)) bs.length = some (Int.tmod (p * 7 + 3) ((bs.length : Nat) : Int)).toNat := by unfold idx; rw [if_pos t2]
    have g1 : (Int.tmod p ((bs.length : Nat) : Int)).toNat < bs.length := by omega
    have g2 : (Int.tmod (p * 7 + 3) ((bs.length : Nat) : Int)).toNat < bs.length := by omega
    have q1 : bs[(Int.tmod p ((bs.length : Nat) : Int)).toNat]? = some (bs.getD (Int.tmod p ((bs.length : Nat) : Int)).toNat 0) := by simp [g1]
    have q2 : bs[(Int.tmod (p * 7 + 3) ((bs.length : Nat) : Int)).toNat]? = some (bs.getD (Int.tmod (p * 7 + 3) ((bs.length : Nat) : Int)).toNat 0) := by simp [g2]
    rw [decide_eq_false hp, decide_eq_false (p := (((bs.length : Nat) : Int) = 0)) (by omega), decide_eq_false (p := n = 0) (by omega), e7, e8, i1, i2]
    simp only [cond_false, Option.bind_some, q1, q2]
    rfl⟩

namespace spec_someOrder
noncomputable def E : Entry := ⟨50, false, false, fun | [.box [(.ints .u8 bs), (.int .i64 p)], .d (.int .i64 n)] => rdOk bs p && decide ((p : Int) ≤ 900000) && decide (0 ≤ n) && decide (n ≤ 1000) | _ => false, fun | [.box [(.ints .u8 bs), (.int .i64 p)], .d (.int .i64 n)] => ([.one ((.ints .i64 (soL bs p n.toNat)), true)], [[(.ints .u8 bs), (.int .i64 (p + n))]]) | _ => ([], []), fun _ => [], false, fun _ => none⟩
end spec_someOrder
namespace spec_someOrder
noncomputable def X : List Entry := [spec_reader_pick.E]
noncomputable def I : List Inl := [⟨50, Try.f50, ⟨[], [(1000003, [2, 3, 4, 7, 8, 9, 10, 11, 12, 13, 14, 15, 16, 17, 18, 19, 20, 21, 22, 23, 24, 25, 26, 27, 28, 29, 30, 31, 32, 33])], [], [], [], []⟩⟩]
theorem I_ok : ∀ i ∈ I, Try.prog.funcs[i.f]? = some i.fn ∧ (i.fn.name == "runtime.NumGoroutine") = false := by
  intro i hi
  simp only [I, List.mem_cons, List.not_mem_nil, or_false] at hi
  subst hi
  exact ⟨by kernel_rfl, by kernel_rfl⟩
noncomputable abbrev L0 (fuel n : Nat) (s : St) (k : Kont) := lAt Try.prog X I fuel false 0 false 50 (bodyOf Try.f50) [1, 1, 0, 1, 0] n s k
noncomputable abbrev k0  (fuel : Nat) : Kont := (kAt Try.prog X I fuel false 0 false 50 (bodyOf Try.f50) [1, 1, 0, 1, 0] [] (endK Try.prog Try.f50))
noncomputable def t0 (p1 : Int) (p0q0 : List Int) (x0q1 : Int) (x0q3 : Int) (x0q4 : List Int) : St := ⟨[(.ptr 1000000000 0 0), (.imm (.int .i64 p1)), .dead, .dead, .dead, (.all 1000000001 1), (.imm (.int .i64 x0q1)), .dead, .dead, .dead, .dead, .dead, .dead, .dead, .dead, .dead, .dead, .dead, .dead, .dead, .dead, .dead, .dead, .dead, .dead, .dead, .dead, .dead, .dead, .dead, .dead, .dead, .dead, .dead], hOf [(1000000000, (.box [(.imm (.ints .u8 p0q0)), (.imm (.int .i64 x0q3))])), (1000000001, (.ints .i64 x0q4))], [(.ptr 1000000000 0 0)], []⟩
theorem e (fuel : Nat) (p0q0 : List Int) (p0q1 : Int) (p1 : Int) : runF Try.prog X I 0 fuel 50 Try.f50 [.box [(.ints .u8 p0q0), (.int .i64 p0q1)], .d (.int .i64 p1)] =
  L0 fuel fuel (t0 p1 p0q0 0 p0q1 ([])) (k0  fuel) := by kernel_rfl
theorem s0 (fuel n0 : Nat) (p1 : Int) (p0q0 : List Int) (x0q1 : Int) (x0q3 : Int) (x0q4 : List Int) : L0 fuel (n0 + 1) (t0 p1 p0q0 x0q1 x0q3 x0q4) (k0  fuel) =
  (bif (decide ((x0q1 : Int) < p1)) then
  (bif rdOk p0q0 x0q3 && decide ((((IntKind.wrap .i64 (x0q1 + 1))) : Int) ≤ 1048576) then
  (bif fits (x0q4.length + ([x0q1] : List Int).length) 8 then
  (idx (pickV p0q0 x0q3 ((IntKind.wrap .i64 (x0q1 + 1)))) (x0q4 ++ [x0q1]).length).bind fun j9 =>
  ((x0q4 ++ [x0q1])[j9]?).bind fun v10 =>
  (idx x0q1 (x0q4 ++ [x0q1]).length).bind fun j11 =>
  (bif decide (j11 < (x0q4 ++ [x0q1]).length) then
  (idx (pickV p0q0 x0q3 ((IntKind.wrap .i64 (x0q1 + 1)))) ((x0q4 ++ [x0q1]).set j11 v10).length).bind fun j12 =>
  (bif decide (j12 < ((x0q4 ++ [x0q1]).set j11 v10).length) then
  L0 fuel n0 (t0 p1 p0q0 ((IntKind.wrap .i64 (x0q1 + 1))) ((x0q3 + 1)) ((((x0q4 ++ [x0q1]).set j11 v10).set j12 x0q1))) (k0  fuel)
  else
  none)
  else
  none)
  else
  none)
  else
  none)
  else
  some ([.one ((.ints .i64 x0q4), true)], [[(.ints .u8 p0q0), (.int .i64 x0q3)]])) := by kernel_rfl
end spec_someOrder
theorem spec_someOrder.ok_of (hX : ∀ E ∈ spec_someOrder.X, CallSpec Try.prog E) (h : ∀ (bs : List Int) (p : Int) (n : Int), (rdOk bs p && decide ((p : Int) ≤ 900000) && decide (0 ≤ n) && decide (n ≤ 1000)) = true → ∃ fuel, runF Try.prog spec_someOrder.X spec_someOrder.I 0 fuel 50 Try.f50 [.box [(.ints .u8 bs), (.int .i64 p)], .d (.int .i64 n)] = some ([.one ((.ints .i64 (soL bs p n.toNat)), true)], [[(.ints .u8 bs), (.int .i64 (p + n))]])) : CallSpec Try.prog spec_someOrder.E :=
  callSpec_of (d := 0) hX (by kernel_rfl) spec_someOrder.I_ok (by kernel_rfl) (by kernel_rfl) (by kernel_rfl) (fun _ _ _ _ h => by dsimp only [spec_someOrder.E] at h; cases h) (fun xs hp => by
    dsimp only [spec_someOrder.E] at hp ⊢
    split at hp
    · exact h _ _ _ hp
    · cases hp)
theorem spec_someOrder.ok : CallSpec Try.prog spec_someOrder.E := spec_someOrder.ok_of (by simp [spec_someOrder.X, spec_reader_pick.ok]) fun bs p n h => by
  obtain ⟨F, hF⟩ : ∃ F : Nat, 1000 < F := ⟨1001, by omega⟩
  refine ⟨F, ?_⟩
  simp only [Bool.and_eq_true, decide_eq_true_eq] at h
  obtain ⟨⟨⟨h1, h2⟩, h3⟩, h4⟩ := h
  obtain ⟨n, rfl⟩ : ∃ m : Nat, n = m := ⟨n.toNat, by omega⟩
  rw [spec_someOrder.e, Int.toNat_natCast]
  refine run_loop (N := n) (fun m j (st : Int × List Int) => spec_someOrder.L0 F m (spec_someOrder.t0 (n : Int) bs (j : Int) st.1 st.2) (spec_someOrder.k0 F)) (fun j st => st.1 = p + ((j : Nat) : Int) ∧ st.2 = soL bs p j) ?_ ?_ F 0 (p, []) (by omega) (by omega) ⟨by simp, rfl⟩
  · rintro m ⟨q, out⟩ ⟨e1, e2⟩
    simp only at e1 e2
    subst e1
    subst e2
    dsimp only
    rw [spec_someOrder.s0, dge (by omega), cond_false]
  · rintro m j ⟨q, out⟩ hj ⟨e1, e2⟩
    simp only at e1 e2
    subst e1
    subst e2
    dsimp only
    have hl := soL_length bs p j
    have r1 := rd_le (q := p + ((j : Nat) : Int)) h1 (by omega) (by omega)
    have pb := pick_bd (n := ((j + 1 : Nat) : Int)) r1 (by omega)
    have hl2 : (soL bs p j ++ [((j : Nat) : Int)]).length = j + 1 := by rw [List.length_append, hl]; rfl
    have hk : (pickV bs (p + ((j : Nat) : Int)) ((j + 1 : Nat) : Int)).toNat < j + 1 := by omega
    have hi : idx (pickV bs (p + ((j : Nat) : Int)) ((j + 1 : Nat) : Int)) (j + 1) = some (pickV bs (p + ((j : Nat) : Int)) ((j + 1 : Nat) : Int)).toNat := by
      simp only [idx]
      rw [if_pos (by omega)]
    rw [spec_someOrder.s0, dlt hj, cond_true, w1 (by omega), r1, decide_eq_true (p := ((j + 1 : Nat) : Int) ≤ 1048576) (by omega), fitsOk (by simp only [List.length_cons, List.length_nil]; omega), hl2, hi]
    simp only [Bool.and_self, cond_true, Option.bind_some]
    rw [getD_get (by omega)]
    simp only [Option.bind_some]
    rw [idx_nat (by omega)]
    simp only [Option.bind_some, List.length_set, hl2]
    rw [decide_eq_true (p := j < j + 1) (by omega), cond_true, hi]
    simp only [Option.bind_some]
    rw [decide_eq_true hk, cond_true]
    exact ⟨(p + ((j + 1 : Nat) : Int), soL bs p (j + 1)), ⟨rfl, rfl⟩, by rw [show p + ((j + 1 : Nat) : Int) = p + ((j : Nat) : Int) + 1 by omega]; rfl⟩

namespace spec_copyInts
noncomputable def E : Entry := ⟨58, false, false, fun | [.d (.ints .i64 xs)] => szB xs | _ => false, fun | [.d (.ints .i64 xs)] => ([.one ((.ints .i64 xs), true)], []) | _ => ([], []), fun _ => [], true, fun _ => none⟩
end spec_copyInts
namespace spec_copyInts
noncomputable def X : List Entry := []
noncomputable def I : List Inl := [⟨58, Try.f58, ⟨[], [], [], [], [], []⟩⟩]
theorem I_ok : ∀ i ∈ I, Try.prog.funcs[i.f]? = some i.fn ∧ (i.fn.name == "runtime.NumGoroutine") = false := by
  intro i hi
  simp only [I, List.mem_cons, List.not_mem_nil, or_false] at hi
  subst hi
  exact ⟨by kernel_rfl, by kernel_rfl⟩
theorem e (fuel : Nat) (p0 : List Int) : runF Try.prog X I 0 fuel 58 Try.f58 [.d (.ints .i64 p0)] =
  (bif fits (([] : List Int).length + p0.length) 8 then
  some ([.one ((.ints .i64 (([] : List Int) ++ p0)), true)], [])
  else
  none) := by kernel_rfl
end spec_copyInts
theorem spec_copyInts.ok_of (hX : ∀ E ∈ spec_copyInts.X, CallSpec Try.prog E) (h : ∀ (xs : List Int), (szB xs) = true → ∃ fuel, runF Try.prog spec_copyInts.X spec_copyInts.I 0 fuel 58 Try.f58 [.d (.ints .i64 xs)] = some ([.one ((.ints .i64 xs), true)], [])) : CallSpec Try.prog spec_copyInts.E :=
  callSpec_of (d := 0) hX (by kernel_rfl) spec_copyInts.I_ok (by kernel_rfl) (by kernel_rfl) (by kernel_rfl) (fun _ _ _ _ h => by dsimp only [spec_copyInts.E] at h; cases h) (fun xs hp => by
    dsimp only [spec_copyInts.E] at hp ⊢
    split at hp
    · exact h _ hp
    · cases hp)
theorem spec_copyInts.ok : CallSpec Try.prog spec_copyInts.E := spec_copyInts.ok_of (by simp [spec_copyInts.X]) fun xs h => ⟨0, by
  have hx := szB_le h
  rw [spec_copyInts.e, fitsOk (by simp; omega)]
  rfl⟩

namespace spec_reader_one
noncomputable def E : Entry := ⟨62, false, false, fun | [.box [(.ints .u8 bs), (.int .i64 p)], .d (.ints .i64 xs)] => rdOk bs p && decide (0 < (xs : List Int).length) && decide ((xs : List Int).length ≤ 1048576) | _ => false, fun | [.box [(.ints .u8 bs), (.int .i64 p)], .d (.ints .i64 xs)] => ([.one ((.int .i64 (oneV bs p xs)), false)], [[(.ints .u8 bs), (.int .i64 (p + 1))]]) | _ => ([], []), fun _ => [], false, fun _ => none⟩
end spec_reader_one
namespace spec_reader_one
noncomputable def X : List Entry := [spec_reader_pick.E]
noncomputable def I : List Inl := [⟨62, Try.f62, ⟨[], [], [], [], [], []⟩⟩]
theorem I_ok : ∀ i ∈ I, Try.prog.funcs[i.f]? = some i.fn ∧ (i.fn.name == "runtime.NumGoroutine") = false := by
  intro i hi
  simp only [I, List.mem_cons, List.not_mem_nil, or_false] at hi
  subst hi
  exact ⟨by kernel_rfl, by kernel_rfl⟩
theorem e (fuel : Nat) (p0q0 : List Int) (p0q1 : Int) (p1 : List Int) : runF Try.prog X I 0 fuel 62 Try.f62 [.box [(.ints .u8 p0q0), (.int .i64 p0q1)], .d (.ints .i64 p1)] =
  (bif rdOk p0q0 p0q1 && decide (((((p1.length : Nat) : Int)) : Int) ≤ 1048576) then
  (idx (pickV p0q0 p0q1 (((p1.length : Nat) : Int))) p1.length).bind fun j1 =>
  (p1[j1]?).bind fun v2 =>
  some ([.one ((.int .i64 v2), false)], [[(.ints .u8 p0q0), (.int .i64 (p0q1 + 1))]])
  else
  none) := by kernel_rfl
end spec_reader_one
theorem spec_reader_one.ok_of (hX : ∀ E ∈ spec_reader_one.X, CallSpec Try.prog E) (h : ∀ (bs : List Int) (p : Int) (xs : List Int), (rdOk bs p && decide (0 < (xs : List Int).length) && decide ((xs : List Int).length ≤ 1048576)) = true → ∃ fuel, runF Try.prog spec_reader_one.X spec_reader_one.I 0 fuel 62 Try.f62 [.box [(.ints .u8 bs), (.int .i64 p)], .d (.ints .i64 xs)] = some ([.one ((.int .i64 (oneV bs p xs)), false)], [[(.ints .u8 bs), (.int .i64 (p + 1))]])) : CallSpec Try.prog spec_reader_one.E :=
  callSpec_of (d := 0) hX (by kernel_rfl) spec_reader_one.I_ok (by kernel_rfl) (by kernel_rfl) (by kernel_rfl) (fun _ _ _ _ h => by dsimp only [spec_reader_one.E] at h; cases h) (fun xs hp => by
    dsimp only [spec_reader_one.E] at hp ⊢
    split at hp
    · exact h _ _ _ hp
    · cases hp)
theorem spec_reader_one.ok : CallSpec Try.prog spec_reader_one.E := spec_reader_one.ok_of (by simp [spec_reader_one.X, spec_reader_pick.ok]) fun bs p xs h => ⟨0, by
  simp only [Bool.and_eq_true, decide_eq_true_eq] at h
  have hb := pick_bd (n := ((xs.length : Nat) : Int)) h.1.1 (by omega)
  have hi : idx (pickV bs p ((xs.length : Nat) : Int)) xs.length = some (pickV bs p ((xs.length : Nat) : Int)).toNat := by unfold idx; rw [if_pos hb]
  have g : (pickV bs p ((xs.length : Nat) : Int)).toNat < xs.length := by omega
  rw [spec_reader_one.e, h.1.1, decide_eq_true (p := (((xs.length : Nat) : Int) ≤ 1048576)) (by omega), hi]
  unfold oneV
  simp [g]⟩

namespace spec_reader_spoil
noncomputable def E : Entry := ⟨49, false, false, fun | [.box [(.ints .u8 bs), (.int .i64 p)], .d (.ints .i64 xs), .d (.int .i64 n)] => rdOk bs p && decide ((p : Int) ≤ 2000000) && decide ((xs : List Int).length ≤ 1000000) | _ => false, fun | [.box [(.ints .u8 bs), (.int .i64 p)], .d (.ints .i64 xs), .d (.int .i64 n)] => ([.one ((.ints .i64 (spV bs p xs n)), false)], [[(.ints .u8 bs), (.int .i64 (spP bs p xs))]]) | _ => ([], []), fun _ => [], false, fun _ => none⟩
end spec_reader_spoil
namespace spec_reader_spoil
noncomputable def X : List Entry := [spec_copyInts.E, spec_reader_pick.E, spec_reader_one.E]
noncomputable def I : List Inl := [⟨49, Try.f49, ⟨[9], [], [(7, [7]), (11, [7])], [], [37], []⟩⟩]
theorem I_ok : ∀ i ∈ I, Try.prog.funcs[i.f]? = some i.fn ∧ (i.fn.name == "runtime.NumGoroutine") = false := by
  intro i hi
  simp only [I, List.mem_cons, List.not_mem_nil, or_false] at hi
  subst hi
  exact ⟨by kernel_rfl, by kernel_rfl⟩
theorem e (fuel : Nat) (p0q0 : List Int) (p0q1 : Int) (p1 : List Int) (p2 : Int) : runF Try.prog X I 0 fuel 49 Try.f49 [.box [(.ints .u8 p0q0), (.int .i64 p0q1)], .d (.ints .i64 p1), .d (.int .i64 p2)] =
  (bif szB p1 then
  (bif rdOk p0q0 p0q1 && decide ((20 : Int) ≤ 1048576) then
  (bif (((pickV p0q0 p0q1 20) : Int) == 0) then
  (bif fits (p1.length + ([p2] : List Int).length) 8 then
  some ([.one ((.ints .i64 (p1 ++ [p2])), false)], [[(.ints .u8 p0q0), (.int .i64 (p0q1 + 1))]])
  else
  none)
  else
  (bif (((pickV p0q0 p0q1 20) : Int) == 1) then
  (bif (decide ((((p1.length : Nat) : Int) : Int) > 0)) then
  (cutEnds p1.length (some (.imm (.int .i64 1))) (none)).bind fun cq1 =>
  some ([.one ((.ints .i64 ((p1.drop cq1.1).take (cq1.2 - cq1.1))), false)], [[(.ints .u8 p0q0), (.int .i64 (p0q1 + 1))]])
  else
  some ([.one ((.ints .i64 p1), false)], [[(.ints .u8 p0q0), (.int .i64 (p0q1 + 1))]]))
  else
  (bif (((pickV p0q0 p0q1 20) : Int) == 2) then
  (bif (decide ((((p1.length : Nat) : Int) : Int) > 0)) then
  (bif rdOk p0q0 ((p0q1 + 1)) && decide (((((p1.length : Nat) : Int)) : Int) ≤ 1048576) then
  (bif rdOk p0q0 ((((p0q1 + 1)) + 1)) && decide (0 < (([(-1), p2, 0, 1]) : List Int).length) && decide ((([(-1), p2, 0, 1]) : List Int).length ≤ 1048576) then
  (idx (pickV p0q0 ((p0q1 + 1)) (((p1.length : Nat) : Int))) p1.length).bind fun j2 =>
  (bif decide (j2 < p1.length) then
  some ([.one ((.ints .i64 (p1.set j2 (oneV p0q0 ((((p0q1 + 1)) + 1)) ([(-1), p2, 0, 1])))), false)], [[(.ints .u8 p0q0), (.int .i64 (((((p0q1 + 1)) + 1)) + 1))]])
  else
  none)
  else
  none)
  else
  none)
  else
  some ([.one ((.ints .i64 p1), false)], [[(.ints .u8 p0q0), (.int .i64 (p0q1 + 1))]]))
  else
  some ([.one ((.ints .i64 p1), false)], [[(.ints .u8 p0q0), (.int .i64 (p0q1 + 1))]]))))
  else
  none)
  else
  none) := by kernel_rfl
end spec_reader_spoil
theorem spec_reader_spoil.ok_of (hX : ∀ E ∈ spec_reader_spoil.X, CallSpec Try.prog E) (h : ∀ (bs : List Int) (p : Int) (xs : List Int) (n : Int), (rdOk bs p && decide ((p : Int) ≤ 2000000) && decide ((xs : List Int).length ≤ 1000000)) = true → ∃ fuel, runF Try.prog spec_reader_spoil.X spec_reader_spoil.I 0 fuel 49 Try.f49 [.box [(.ints .u8 bs), (.int .i64 p)], .d (.ints .i64 xs), .d (.int .i64 n)] = some ([.one ((.ints .i64 (spV bs p xs n)), false)], [[(.ints .u8 bs), (.int .i64 (spP bs p xs))]])) : CallSpec Try.prog spec_reader_spoil.E :=
  callSpec_of (d := 0) hX (by kernel_rfl) spec_reader_spoil.I_ok (by kernel_rfl) (by kernel_rfl) (by kernel_rfl) (fun _ _ _ _ h => by dsimp only [spec_reader_spoil.E] at h; cases h) (fun xs hp => by
    dsimp only [spec_reader_spoil.E] at hp ⊢
    split at hp
    · exact h _ _ _ _ hp
    · cases hp)
theorem spec_reader_spoil.ok : CallSpec Try.prog spec_reader_spoil.E := spec_reader_spoil.ok_of (by simp [spec_reader_spoil.X, spec_copyInts.ok, spec_reader_pick.ok, spec_reader_one.ok]) fun bs p xs n h => ⟨0, by
  simp only [Bool.and_eq_true, decide_eq_true_eq] at h
  obtain ⟨⟨h1, h2⟩, h3⟩ := h
  have r1 := rd_le (q := p + 1) h1 (by omega) (by omega)
  have r2 := rd_le (q := p + 1 + 1) h1 (by omega) (by omega)
  rw [spec_reader_spoil.e, szB_of (by omega), h1]
  unfold spV spP
  simp only [Bool.true_and, cond_true]
  rw [decide_eq_true (p := (20 : Int) ≤ 1048576) (by omega), cond_true]
  cases pickV bs p 20 == 0 with
  | true => rw [fitsOk (by simp only [List.length_cons, List.length_nil]; omega)]; rfl
  | false =>
    cases pickV bs p 20 == 1 with
    | true =>
      simp only [cond_true, cond_false]
      by_cases h0 : xs.length = 0
      · have e := List.length_eq_zero_iff.mp h0
        subst e
        rfl
      · rw [decide_eq_true (p := ((xs.length : Nat) : Int) > 0) (by omega), cond_true, cut_one (by omega)]
        simp only [Option.bind_some]
        rw [drop_take]
    | false =>
      cases pickV bs p 20 == 2 with
      | false => rfl
      | true =>
        simp only [cond_true, cond_false]
        by_cases h0 : xs.length = 0
        · have e := List.length_eq_zero_iff.mp h0
          subst e
          rfl
        · have pb := pick_bd (n := ((xs.length : Nat) : Int)) r1 (by omega)
          have hi : idx (pickV bs (p + 1) ((xs.length : Nat) : Int)) xs.length = some (pickV bs (p + 1) ((xs.length : Nat) : Int)).toNat := by
            simp only [idx]
            rw [if_pos (by omega)]
          rw [decide_eq_true (p := ((xs.length : Nat) : Int) > 0) (by omega), cond_true, r1, r2, decide_eq_true (p := ((xs.length : Nat) : Int) ≤ 1048576) (by omega), hi, decide_eq_true (p := 0 < xs.length) (by omega)]
          simp only [Bool.true_and, cond_true, Option.bind_some]
          rw [decide_eq_true (p := (pickV bs (p + 1) ((xs.length : Nat) : Int)).toNat < xs.length) (by omega)]
          rfl⟩

namespace spec_DrawOrderBack
noncomputable def E : Entry := ⟨26, true, false, fun | [.d (.ints .u8 bs)] => bytesB bs | _ => false, fun | [.d (.ints .u8 bs)] => ([.one ((.ints .i64 (dOB (cutC bs))), false)], []) | _ => ([], []), fun _ => [], false, fun _ => none⟩
end spec_DrawOrderBack
namespace spec_DrawOrderBack
noncomputable def X : List Entry := [spec_newReader.E, spec_reader_pick.E, spec_someOrder.E, spec_reader_spoil.E]
noncomputable def I : List Inl := [⟨26, Try.f26, ⟨[10, 11], [], [(3000011, [10])], [], [], [11]⟩⟩]
theorem I_ok : ∀ i ∈ I, Try.prog.funcs[i.f]? = some i.fn ∧ (i.fn.name == "runtime.NumGoroutine") = false := by
  intro i hi
  simp only [I, List.mem_cons, List.not_mem_nil, or_false] at hi
  subst hi
  exact ⟨by kernel_rfl, by kernel_rfl⟩
theorem e (fuel : Nat) (p0 : List Int) : runF Try.prog X I 0 fuel 26 Try.f26 [.d (.ints .u8 p0)] =
  (bif rdOk ((cutC p0)) 0 && decide ((5 : Int) ≤ 1048576) then
  (bif rdOk (((cutC p0))) ((0 + 1)) && decide ((((0 + 1)) : Int) ≤ 900000) && decide (0 ≤ ((pickV ((cutC p0)) 0 5))) && decide (((pickV ((cutC p0)) 0 5)) ≤ 1000) then
  (bif rdOk ((((cutC p0)))) ((((0 + 1)) + ((pickV ((cutC p0)) 0 5)))) && decide ((((((0 + 1)) + ((pickV ((cutC p0)) 0 5)))) : Int) ≤ 2000000) && decide ((((soL (((cutC p0))) ((0 + 1)) ((pickV ((cutC p0)) 0 5)).toNat)) : List Int).length ≤ 1000000) then
  some ([.one ((.ints .i64 (spV ((((cutC p0)))) ((((0 + 1)) + ((pickV ((cutC p0)) 0 5)))) ((soL (((cutC p0))) ((0 + 1)) ((pickV ((cutC p0)) 0 5)).toNat)) 3)), false)], [])
  else
  none)
  else
  none)
  else
  none) := by kernel_rfl
end spec_DrawOrderBack
theorem spec_DrawOrderBack.ok_of (hX : ∀ E ∈ spec_DrawOrderBack.X, CallSpec Try.prog E) (h : ∀ (bs : List Int), (bytesB bs) = true → ∃ fuel, runF Try.prog spec_DrawOrderBack.X spec_DrawOrderBack.I 0 fuel 26 Try.f26 [.d (.ints .u8 bs)] = some ([.one ((.ints .i64 (dOB (cutC bs))), false)], [])) : CallSpec Try.prog spec_DrawOrderBack.E :=
  callSpec_of (d := 0) hX (by kernel_rfl) spec_DrawOrderBack.I_ok (by kernel_rfl) (by kernel_rfl) (by kernel_rfl) (fun _ _ _ _ h => by dsimp only [spec_DrawOrderBack.E] at h; cases h) (fun xs hp => by
    dsimp only [spec_DrawOrderBack.E] at hp ⊢
    split at hp
    · exact h _ hp
    · cases hp)
theorem spec_DrawOrderBack.ok : CallSpec Try.prog spec_DrawOrderBack.E := spec_DrawOrderBack.ok_of (by simp [spec_DrawOrderBack.X, spec_newReader.ok, spec_reader_pick.ok, spec_someOrder.ok, spec_reader_spoil.ok]) fun bs h => ⟨0, by
  have r0 := cut_ok h (p := 0) (by omega) (by omega)
  have b := pick_bd (n := 5) r0 (by omega)
  have hl := soL_length (cutC bs) 1 (pickV (cutC bs) 0 5).toNat
  have hz : (soL (cutC bs) 1 (pickV (cutC bs) 0 5).toNat).length ≤ 1000000 := by omega
  rw [spec_DrawOrderBack.e, show (0 : Int) + 1 = 1 from rfl, r0, rd_le (q := 1) r0 (by omega) (by omega), rd_le (q := 1 + pickV (cutC bs) 0 5) r0 (by omega) (by omega), decide_eq_true (p := (0 : Int) ≤ pickV (cutC bs) 0 5) b.1, decide_eq_true (p := pickV (cutC bs) 0 5 ≤ 1000) (by omega), decide_eq_true (p := 1 + pickV (cutC bs) 0 5 ≤ 2000000) (by omega), decide_eq_true hz]
  rfl⟩

namespace slices_Index_int_int
noncomputable def E : Entry := ⟨47, true, false, fun | [.d (.ints .i64 xs), .d (.int .i64 v)] => decide (xs.length < 9223372036854775808) | _ => false, fun | [.d (.ints .i64 xs), .d (.int .i64 v)] => ([.one ((.int .i64 (idxI xs v)), false)], []) | _ => ([], []), fun _ => [], false, fun _ => none⟩
end slices_Index_int_int
namespace slices_Index_int_int
noncomputable def X : List Entry := []
noncomputable def I : List Inl := [⟨47, Try.f47, ⟨[], [(1000002, [2, 3, 4, 5, 6, 9, 10, 11, 12, 13, 14, 15, 16, 17, 18])], [], [], [], []⟩⟩]
theorem I_ok : ∀ i ∈ I, Try.prog.funcs[i.f]? = some i.fn ∧ (i.fn.name == "runtime.NumGoroutine") = false := by
  intro i hi
  simp only [I, List.mem_cons, List.not_mem_nil, or_false] at hi
  subst hi
  exact ⟨by kernel_rfl, by kernel_rfl⟩
noncomputable abbrev L0 (fuel n : Nat) (s : St) (k : Kont) := lAt Try.prog X I fuel true 0 false 47 (bodyOf Try.f47) [1, 0, 1, 0] n s k
noncomputable abbrev k0  (fuel : Nat) : Kont := (kAt Try.prog X I fuel true 0 false 47 (bodyOf Try.f47) [1, 0, 1, 0] [] (endK Try.prog Try.f47))
noncomputable def t0 (p0 : List Int) (p1 : Int) (x0q3 : Int) : St := ⟨[(.imm (.ints .i64 p0)), (.imm (.int .i64 p1)), .dead, .dead, .dead, .dead, .dead, (.imm (.int .i64 ((p0.length : Nat) : Int))), (.imm (.int .i64 x0q3)), .dead, .dead, .dead, .dead, .dead, .dead, .dead, .dead, .dead, .dead], hOf [], [], []⟩
theorem e (fuel : Nat) (p0 : List Int) (p1 : Int) : runF Try.prog X I 0 fuel 47 Try.f47 [.d (.ints .i64 p0), .d (.int .i64 p1)] =
  L0 fuel fuel (t0 p0 p1 0) (k0  fuel) := by kernel_rfl
theorem s0 (fuel n0 : Nat) (p0 : List Int) (p1 : Int) (x0q3 : Int) : L0 fuel (n0 + 1) (t0 p0 p1 x0q3) (k0  fuel) =
  (bif (decide ((x0q3 : Int) < ((p0.length : Nat) : Int))) then
  (idx x0q3 p0.length).bind fun j5 =>
  (p0[j5]?).bind fun v6 =>
  (bif ((p1 : Int) == v6) then
  some ([.one ((.int .i64 x0q3), false)], [])
  else
  L0 fuel n0 (t0 p0 p1 ((IntKind.wrap .i64 (x0q3 + 1)))) (k0  fuel))
  else
  some ([.one ((.int .i64 (-1)), false)], [])) := by kernel_rfl
end slices_Index_int_int
theorem slices_Index_int_int.ok_of (hX : ∀ E ∈ slices_Index_int_int.X, CallSpec Try.prog E) (h : ∀ (xs : List Int) (v : Int), (decide (xs.length < 9223372036854775808)) = true → ∃ fuel, runF Try.prog slices_Index_int_int.X slices_Index_int_int.I 0 fuel 47 Try.f47 [.d (.ints .i64 xs), .d (.int .i64 v)] = some ([.one ((.int .i64 (idxI xs v)), false)], [])) : CallSpec Try.prog slices_Index_int_int.E :=
  callSpec_of (d := 0) hX (by kernel_rfl) slices_Index_int_int.I_ok (by kernel_rfl) (by kernel_rfl) (by kernel_rfl) (fun _ _ _ _ h => by dsimp only [slices_Index_int_int.E] at h; cases h) (fun xs hp => by
    dsimp only [slices_Index_int_int.E] at hp ⊢
    split at hp
    · exact h _ _ hp
    · cases hp)
theorem slices_Index_int_int.ok : CallSpec Try.prog slices_Index_int_int.E := slices_Index_int_int.ok_of (by simp [slices_Index_int_int.X]) fun xs v h => ⟨xs.length + 1, by
  simp only [decide_eq_true_eq] at h
  rw [slices_Index_int_int.e]
  refine cnt_loop (N := xs.length) (fun n j (_ : Unit) => slices_Index_int_int.L0 (xs.length + 1) n (slices_Index_int_int.t0 xs v (j : Int)) (slices_Index_int_int.k0 (xs.length + 1))) (fun j _ => ∀ i, i < j → xs.getD i 0 ≠ v) ?_ ?_ (xs.length + 1) 0 () (by omega) (by omega) (fun i hi => absurd hi (by omega))
  · intro n _ hI
    rw [slices_Index_int_int.s0, dge (by omega), cond_false, idxI_no hI]
  · intro n j _ hj hI
    rw [slices_Index_int_int.s0, dlt hj, cond_true, idx_nat hj, w1 (by omega)]
    simp only [Option.bind_some, getD_get hj]
    by_cases he : v = xs.getD j 0
    · refine .inl ?_
      rw [show (v == xs.getD j 0) = true by simp [he], cond_true, idxI_at hj hI he.symm]
    · refine .inr ⟨(), ?_, by rw [show (v == xs.getD j 0) = false by simpa using he, cond_false]⟩
      intro i hi
      by_cases h1 : i = j
      · subst h1; exact fun e => he e.symm
      · exact hI i (by omega)⟩

namespace impl_OrderBack
noncomputable def E : Entry := ⟨24, false, false, fun | [.d (.ints .i64 order)] => decide (order.length < 9223372036854775808) | _ => false, fun | [.d (.ints .i64 order)] => ([.one ((.ints .i64 (obS order)), true), .one ((.bool (obB order)), false)], []) | _ => ([], []), fun _ => [], true, fun _ => none⟩
end impl_OrderBack
namespace impl_OrderBack
noncomputable def X : List Entry := [slices_Index_int_int.E]
noncomputable def I : List Inl := [⟨24, Try.f24, ⟨[], [(1000005, [1, 2, 3, 5, 6, 7, 8, 9, 10, 11, 12, 15, 16, 17, 18, 19, 20, 21, 22, 23, 24, 25, 26, 27, 28, 29])], [], [], [], []⟩⟩]
theorem I_ok : ∀ i ∈ I, Try.prog.funcs[i.f]? = some i.fn ∧ (i.fn.name == "runtime.NumGoroutine") = false := by
  intro i hi
  simp only [I, List.mem_cons, List.not_mem_nil, or_false] at hi
  subst hi
  exact ⟨by kernel_rfl, by kernel_rfl⟩
noncomputable abbrev L0 (fuel n : Nat) (s : St) (k : Kont) := lAt Try.prog X I fuel true 0 false 24 (bodyOf Try.f24) [1, 1, 1, 0, 1, 0] n s k
noncomputable abbrev k0  (fuel : Nat) : Kont := (kAt Try.prog X I fuel true 0 false 24 (bodyOf Try.f24) [1, 1, 1, 0, 1, 0] [] (endK Try.prog Try.f24))
noncomputable def t0 (p0 : List Int) (x0q2 : Int) (x0q3 : List Int) : St := ⟨[(.imm (.ints .i64 p0)), .dead, .dead, .dead, (.all 1000000000 1), .dead, .dead, .dead, .dead, .dead, .dead, .dead, .dead, (.imm (.int .i64 (((List.replicate (((p0.length : Nat) : Int)).toNat (0 : Int)).length : Nat) : Int))), (.imm (.int .i64 x0q2)), .dead, .dead, .dead, .dead, .dead, .dead, .dead, .dead, .dead, .dead, .dead, .dead, .dead, .dead, .dead], hOf [(1000000000, (.ints .i64 x0q3))], [], []⟩
theorem e (fuel : Nat) (p0 : List Int) : runF Try.prog X I 0 fuel 24 Try.f24 [.d (.ints .i64 p0)] =
  (bif (decide ((((p0.length : Nat) : Int) : Int) > 3)) then
  some ([.one ((.ints .i64 []), true), .one ((.bool false), false)], [])
  else
  (bif decide (0 ≤ (((p0.length : Nat) : Int) : Int)) && decide ((((p0.length : Nat) : Int) : Int) ≤ ((p0.length : Nat) : Int)) && decide ((((p0.length : Nat) : Int) : Int) ≤ 1152921504606846976) && decide (((8 : Nat) : Int) * ((p0.length : Nat) : Int) ≤ 281474976710656) then
  L0 fuel fuel (t0 p0 0 ((List.replicate (((p0.length : Nat) : Int)).toNat (0 : Int)))) (k0  fuel)
  else
  none)) := by kernel_rfl
theorem s0 (fuel n0 : Nat) (p0 : List Int) (x0q2 : Int) (x0q3 : List Int) : L0 fuel (n0 + 1) (t0 p0 x0q2 x0q3) (k0  fuel) =
  (bif (decide ((x0q2 : Int) < (((List.replicate (((p0.length : Nat) : Int)).toNat (0 : Int)).length : Nat) : Int))) then
  (bif decide (p0.length < 9223372036854775808) then
  (idx x0q2 x0q3.length).bind fun j7 =>
  (bif decide (j7 < x0q3.length) then
  (idx x0q2 (x0q3.set j7 (idxI p0 x0q2)).length).bind fun j8 =>
  ((x0q3.set j7 (idxI p0 x0q2))[j8]?).bind fun v9 =>
  (bif (decide ((v9 : Int) < 0)) then
  some ([.one ((.ints .i64 []), true), .one ((.bool false), false)], [])
  else
  L0 fuel n0 (t0 p0 ((IntKind.wrap .i64 (x0q2 + 1))) ((x0q3.set j7 (idxI p0 x0q2)))) (k0  fuel))
  else
  none)
  else
  none)
  else
  some ([.one ((.ints .i64 x0q3), true), .one ((.bool true), false)], [])) := by kernel_rfl
end impl_OrderBack
theorem impl_OrderBack.ok_of (hX : ∀ E ∈ impl_OrderBack.X, CallSpec Try.prog E) (h : ∀ (order : List Int), (decide (order.length < 9223372036854775808)) = true → ∃ fuel, runF Try.prog impl_OrderBack.X impl_OrderBack.I 0 fuel 24 Try.f24 [.d (.ints .i64 order)] = some ([.one ((.ints .i64 (obS order)), true), .one ((.bool (obB order)), false)], [])) : CallSpec Try.prog impl_OrderBack.E :=
  callSpec_of (d := 0) hX (by kernel_rfl) impl_OrderBack.I_ok (by kernel_rfl) (by kernel_rfl) (by kernel_rfl) (fun _ _ _ _ h => by dsimp only [impl_OrderBack.E] at h; cases h) (fun xs hp => by
    dsimp only [impl_OrderBack.E] at hp ⊢
    split at hp
    · exact h _ hp
    · cases hp)
theorem impl_OrderBack.ok : CallSpec Try.prog impl_OrderBack.E := impl_OrderBack.ok_of (by simp [impl_OrderBack.X, slices_Index_int_int.ok]) fun xs h => by
  obtain ⟨F, hF⟩ : ∃ F : Nat, 60 < F := ⟨61, by omega⟩
  refine ⟨F, ?_⟩
  rw [impl_OrderBack.e]
  unfold obS
  by_cases h3 : xs.length ≤ 3
  · have hN : (obN xs).length = xs.length := by simp only [obN, tab_length]
    rw [decide_eq_false (by omega), cond_false, mkOk (by omega) (by omega), Int.toNat_natCast]
    simp only [cond_true]
    refine cnt_loop (N := xs.length) (fun n j out => impl_OrderBack.L0 F n (impl_OrderBack.t0 xs (j : Int) out) (impl_OrderBack.k0 F)) (fun j out => out = part (obN xs) j ∧ ∀ i, i < j → xs.contains (i : Int) = true) ?_ ?_ F 0 _ (by omega) (by omega) ⟨by rw [part_zero, hN], fun i hi => absurd hi (by omega)⟩
    · rintro n out ⟨hI, hc⟩
      have ho : obB xs = true := by rw [obB, isOB_iff.2 hc, decide_eq_true h3]; rfl
      have hall := part_all (obN xs)
      rw [hN] at hall
      rw [hall] at hI
      rw [impl_OrderBack.s0]
      simp only [Int.toNat_natCast, List.length_replicate]
      rw [dge (by omega), cond_false, hI, ho]
      rfl
    · rintro n j out hj ⟨hI, hc⟩
      have hol : out.length = xs.length := by rw [hI, part_length (by omega), hN]
      rw [impl_OrderBack.s0]
      simp only [Int.toNat_natCast, List.length_replicate]
      rw [dlt hj, cond_true, h, cond_true, idx_nat (by omega), w1 (by omega)]
      simp only [Option.bind_some]
      rw [decide_eq_true (by omega), cond_true, idx_nat (by rw [List.length_set]; omega)]
      simp only [Option.bind_some]
      rw [List.getElem?_set_self (by omega)]
      simp only [Option.bind_some]
      rw [idxI_neg]
      cases hx : xs.contains (j : Int) with
      | false =>
        refine .inl ?_
        have ho : obB xs = false := by
          rw [Bool.eq_false_iff]
          intro hb
          simp only [obB, Bool.and_eq_true] at hb
          have := isOB_iff.1 hb.2 j hj
          rw [hx] at this
          cases this
        rw [ho]; rfl
      | true =>
        refine .inr ⟨_, ⟨?_, fun i hi => ?_⟩, rfl⟩
        · rw [hI, part_set (by omega)]
          simp only [obN]
          rw [tab_getD hj, idxI, hx]
          rfl
        · by_cases h1 : i = j
          · subst h1; exact hx
          · exact hc i (by omega)
  · rw [decide_eq_true (by omega), cond_true]
    have ho : obB xs = false := by rw [obB, decide_eq_false h3]; rfl
    rw [ho]; rfl

namespace spec_isIn
noncomputable def E : Entry := ⟨57, true, false, fun | [.d (.ints .i64 xs), .d (.int .i64 n)] => decide (xs.length < 9223372036854775808) | _ => false, fun | [.d (.ints .i64 xs), .d (.int .i64 n)] => ([.one ((.bool (xs.contains n)), false)], []) | _ => ([], []), fun _ => [], false, fun _ => none⟩
end spec_isIn
namespace spec_isIn
noncomputable def X : List Entry := []
noncomputable def I : List Inl := [⟨57, Try.f57, ⟨[], [(1000002, [2, 3, 4, 6, 7, 8, 9, 10, 11, 12, 13, 14, 15, 16, 17])], [], [], [], []⟩⟩]
theorem I_ok : ∀ i ∈ I, Try.prog.funcs[i.f]? = some i.fn ∧ (i.fn.name == "runtime.NumGoroutine") = false := by
  intro i hi
  simp only [I, List.mem_cons, List.not_mem_nil, or_false] at hi
  subst hi
  exact ⟨by kernel_rfl, by kernel_rfl⟩
noncomputable abbrev L0 (fuel n : Nat) (s : St) (k : Kont) := lAt Try.prog X I fuel true 0 false 57 (bodyOf Try.f57) [1, 0, 1, 0] n s k
noncomputable abbrev k0  (fuel : Nat) : Kont := (kAt Try.prog X I fuel true 0 false 57 (bodyOf Try.f57) [1, 0, 1, 0] [] (endK Try.prog Try.f57))
noncomputable def t0 (p0 : List Int) (p1 : Int) (x0q2 : Int) : St := ⟨[(.imm (.ints .i64 p0)), (.imm (.int .i64 p1)), .dead, .dead, .dead, (.imm (.int .i64 x0q2)), .dead, .dead, .dead, .dead, .dead, .dead, .dead, .dead, .dead, .dead, .dead, .dead], hOf [], [], []⟩
theorem e (fuel : Nat) (p0 : List Int) (p1 : Int) : runF Try.prog X I 0 fuel 57 Try.f57 [.d (.ints .i64 p0), .d (.int .i64 p1)] =
  L0 fuel fuel (t0 p0 p1 0) (k0  fuel) := by kernel_rfl
theorem s0 (fuel n0 : Nat) (p0 : List Int) (p1 : Int) (x0q2 : Int) : L0 fuel (n0 + 1) (t0 p0 p1 x0q2) (k0  fuel) =
  (bif (decide ((x0q2 : Int) < ((p0.length : Nat) : Int))) then
  (idx x0q2 p0.length).bind fun j5 =>
  (p0[j5]?).bind fun v6 =>
  (bif ((v6 : Int) == p1) then
  some ([.one ((.bool true), false)], [])
  else
  L0 fuel n0 (t0 p0 p1 ((IntKind.wrap .i64 (x0q2 + 1)))) (k0  fuel))
  else
  some ([.one ((.bool false), false)], [])) := by kernel_rfl
end spec_isIn
theorem spec_isIn.ok_of (hX : ∀ E ∈ spec_isIn.X, CallSpec Try.prog E) (h : ∀ (xs : List Int) (n : Int), (decide (xs.length < 9223372036854775808)) = true → ∃ fuel, runF Try.prog spec_isIn.X spec_isIn.I 0 fuel 57 Try.f57 [.d (.ints .i64 xs), .d (.int .i64 n)] = some ([.one ((.bool (xs.contains n)), false)], [])) : CallSpec Try.prog spec_isIn.E :=
  callSpec_of (d := 0) hX (by kernel_rfl) spec_isIn.I_ok (by kernel_rfl) (by kernel_rfl) (by kernel_rfl) (fun _ _ _ _ h => by dsimp only [spec_isIn.E] at h; cases h) (fun xs hp => by
    dsimp only [spec_isIn.E] at hp ⊢
    split at hp
    · exact h _ _ hp
    · cases hp)
theorem spec_isIn.ok : CallSpec Try.prog spec_isIn.E := spec_isIn.ok_of (by simp [spec_isIn.X]) fun xs v h => ⟨xs.length + 1, by
  simp only [decide_eq_true_eq] at h
  rw [spec_isIn.e]
  refine cnt_loop (N := xs.length) (fun n j (_ : Unit) => spec_isIn.L0 (xs.length + 1) n (spec_isIn.t0 xs v (j : Int)) (spec_isIn.k0 (xs.length + 1))) (fun j _ => ∀ i, i < j → xs.getD i 0 ≠ v) ?_ ?_ (xs.length + 1) 0 () (by omega) (by omega) (fun i hi => absurd hi (by omega))
  · intro n _ hI
    rw [spec_isIn.s0, dge (by omega), cond_false, contains_no hI]
  · intro n j _ hj hI
    rw [spec_isIn.s0, dlt hj, cond_true, idx_nat hj, w1 (by omega)]
    simp only [Option.bind_some, getD_get hj]
    by_cases he : xs.getD j 0 = v
    · refine .inl ?_
      rw [show (xs.getD j 0 == v) = true from beq_iff_eq.2 he, cond_true, contains_at hj he]
    · refine .inr ⟨(), ?_, by rw [show (xs.getD j 0 == v) = false from beq_eq_false_iff_ne.2 he, cond_false]⟩
      intro i hi
      by_cases h1 : i = j
      · subst h1; exact he
      · exact hI i (by omega)⟩

namespace spec_isOrder
noncomputable def E : Entry := ⟨33, true, false, fun | [.d (.ints .i64 xs)] => decide (xs.length < 9223372036854775808) | _ => false, fun | [.d (.ints .i64 xs)] => ([.one ((.bool (isOB xs)), false)], []) | _ => ([], []), fun _ => [], false, fun _ => none⟩
end spec_isOrder
namespace spec_isOrder
noncomputable def X : List Entry := [spec_isIn.E]
noncomputable def I : List Inl := [⟨33, Try.f33, ⟨[], [(1000002, [1, 2, 4, 5, 6, 7, 8, 9, 10, 11, 12, 13])], [], [], [], []⟩⟩]
theorem I_ok : ∀ i ∈ I, Try.prog.funcs[i.f]? = some i.fn ∧ (i.fn.name == "runtime.NumGoroutine") = false := by
  intro i hi
  simp only [I, List.mem_cons, List.not_mem_nil, or_false] at hi
  subst hi
  exact ⟨by kernel_rfl, by kernel_rfl⟩
noncomputable abbrev L0 (fuel n : Nat) (s : St) (k : Kont) := lAt Try.prog X I fuel true 0 false 33 (bodyOf Try.f33) [1, 0, 1, 0] n s k
noncomputable abbrev k0  (fuel : Nat) : Kont := (kAt Try.prog X I fuel true 0 false 33 (bodyOf Try.f33) [1, 0, 1, 0] [] (endK Try.prog Try.f33))
noncomputable def t0 (p0 : List Int) (x0q1 : Int) : St := ⟨[(.imm (.ints .i64 p0)), .dead, .dead, (.imm (.int .i64 x0q1)), .dead, .dead, .dead, .dead, .dead, .dead, .dead, .dead, .dead, .dead], hOf [], [], []⟩
theorem e (fuel : Nat) (p0 : List Int) : runF Try.prog X I 0 fuel 33 Try.f33 [.d (.ints .i64 p0)] =
  L0 fuel fuel (t0 p0 0) (k0  fuel) := by kernel_rfl
theorem s0 (fuel n0 : Nat) (p0 : List Int) (x0q1 : Int) : L0 fuel (n0 + 1) (t0 p0 x0q1) (k0  fuel) =
  (bif (decide ((x0q1 : Int) < ((p0.length : Nat) : Int))) then
  (bif decide (p0.length < 9223372036854775808) then
  (bif (!(p0.contains x0q1)) then
  some ([.one ((.bool false), false)], [])
  else
  L0 fuel n0 (t0 p0 ((IntKind.wrap .i64 (x0q1 + 1)))) (k0  fuel))
  else
  none)
  else
  some ([.one ((.bool true), false)], [])) := by kernel_rfl
end spec_isOrder
theorem spec_isOrder.ok_of (hX : ∀ E ∈ spec_isOrder.X, CallSpec Try.prog E) (h : ∀ (xs : List Int), (decide (xs.length < 9223372036854775808)) = true → ∃ fuel, runF Try.prog spec_isOrder.X spec_isOrder.I 0 fuel 33 Try.f33 [.d (.ints .i64 xs)] = some ([.one ((.bool (isOB xs)), false)], [])) : CallSpec Try.prog spec_isOrder.E :=
  callSpec_of (d := 0) hX (by kernel_rfl) spec_isOrder.I_ok (by kernel_rfl) (by kernel_rfl) (by kernel_rfl) (fun _ _ _ _ h => by dsimp only [spec_isOrder.E] at h; cases h) (fun xs hp => by
    dsimp only [spec_isOrder.E] at hp ⊢
    split at hp
    · exact h _ hp
    · cases hp)
theorem spec_isOrder.ok : CallSpec Try.prog spec_isOrder.E := spec_isOrder.ok_of (by simp [spec_isOrder.X, spec_isIn.ok]) fun xs h => ⟨xs.length + 1, by
  have h' := of_decide_eq_true h
  rw [spec_isOrder.e]
  refine cnt_loop (N := xs.length) (fun n j (_ : Unit) => spec_isOrder.L0 (xs.length + 1) n (spec_isOrder.t0 xs (j : Int)) (spec_isOrder.k0 (xs.length + 1))) (fun j _ => ∀ i, i < j → xs.contains (i : Int) = true) ?_ ?_ (xs.length + 1) 0 () (by omega) (by omega) (fun i hi => absurd hi (by omega))
  · intro n _ hI
    rw [spec_isOrder.s0, dge (by omega), cond_false, isOB_iff.2 hI]
  · intro n j _ hj hI
    rw [spec_isOrder.s0, dlt hj, cond_true, h, cond_true, w1 (by omega)]
    cases hc : xs.contains (j : Int) with
    | false =>
      refine .inl ?_
      have : isOB xs = false := by
        rw [Bool.eq_false_iff]
        intro hb
        have := isOB_iff.1 hb j hj
        rw [hc] at this
        cases this
      rw [this]; rfl
    | true =>
      refine .inr ⟨(), fun i hi => ?_, rfl⟩
      by_cases h1 : i = j
      · subst h1; exact hc
      · exact hI i (by omega)⟩

namespace spec_OrderBack
noncomputable def E : Entry := ⟨23, false, false, fun | [.d (.ints .i64 order)] => decide (order.length < 9223372036854775808) | _ => false, fun | [.d (.ints .i64 order)] => ([.one ((.ints .i64 (obS order)), true), .one ((.bool (obB order)), false)], []) | _ => ([], []), fun _ => [], true, fun _ => none⟩
end spec_OrderBack
namespace spec_OrderBack
noncomputable def X : List Entry := [spec_isOrder.E]
noncomputable def I : List Inl := [⟨23, Try.f23, ⟨[], [(1000005, [1, 2, 3, 6, 7, 8, 9, 10, 11, 12, 13, 14, 15, 16, 17, 18, 19, 20, 21, 22, 23, 24, 25, 26, 27, 28, 29, 30])], [], [], [], []⟩⟩]
theorem I_ok : ∀ i ∈ I, Try.prog.funcs[i.f]? = some i.fn ∧ (i.fn.name == "runtime.NumGoroutine") = false := by
  intro i hi
  simp only [I, List.mem_cons, List.not_mem_nil, or_false] at hi
  subst hi
  exact ⟨by kernel_rfl, by kernel_rfl⟩
noncomputable abbrev L0 (fuel n : Nat) (s : St) (k : Kont) := lAt Try.prog X I fuel true 0 false 23 (bodyOf Try.f23) [1, 1, 1, 0, 1, 0] n s k
noncomputable abbrev k0  (fuel : Nat) : Kont := (kAt Try.prog X I fuel true 0 false 23 (bodyOf Try.f23) [1, 1, 1, 0, 1, 0] [] (endK Try.prog Try.f23))
noncomputable def t0 (p0 : List Int) (x0q1 : Int) (x0q2 : List Int) : St := ⟨[(.imm (.ints .i64 p0)), .dead, .dead, .dead, (.all 1000000000 1), (.imm (.int .i64 x0q1)), .dead, .dead, .dead, .dead, .dead, .dead, .dead, .dead, .dead, .dead, .dead, .dead, .dead, .dead, .dead, .dead, .dead, .dead, .dead, .dead, .dead, .dead, .dead, .dead, .dead], hOf [(1000000000, (.ints .i64 x0q2))], [], []⟩
theorem e (fuel : Nat) (p0 : List Int) : runF Try.prog X I 0 fuel 23 Try.f23 [.d (.ints .i64 p0)] =
  (bif (decide ((((p0.length : Nat) : Int) : Int) > 3)) then
  some ([.one ((.ints .i64 []), true), .one ((.bool false), false)], [])
  else
  (bif decide (p0.length < 9223372036854775808) then
  (bif (!(isOB p0)) then
  some ([.one ((.ints .i64 []), true), .one ((.bool false), false)], [])
  else
  (bif decide (0 ≤ (((p0.length : Nat) : Int) : Int)) && decide ((((p0.length : Nat) : Int) : Int) ≤ ((p0.length : Nat) : Int)) && decide ((((p0.length : Nat) : Int) : Int) ≤ 1152921504606846976) && decide (((8 : Nat) : Int) * ((p0.length : Nat) : Int) ≤ 281474976710656) then
  L0 fuel fuel (t0 p0 0 ((List.replicate (((p0.length : Nat) : Int)).toNat (0 : Int)))) (k0  fuel)
  else
  none))
  else
  none)) := by kernel_rfl
theorem s0 (fuel n0 : Nat) (p0 : List Int) (x0q1 : Int) (x0q2 : List Int) : L0 fuel (n0 + 1) (t0 p0 x0q1 x0q2) (k0  fuel) =
  (bif (decide ((x0q1 : Int) < ((p0.length : Nat) : Int))) then
  (idx x0q1 p0.length).bind fun j7 =>
  (p0[j7]?).bind fun v8 =>
  (idx v8 x0q2.length).bind fun j9 =>
  (bif decide (j9 < x0q2.length) then
  L0 fuel n0 (t0 p0 ((IntKind.wrap .i64 (x0q1 + 1))) ((x0q2.set j9 x0q1))) (k0  fuel)
  else
  none)
  else
  some ([.one ((.ints .i64 x0q2), true), .one ((.bool true), false)], [])) := by kernel_rfl
end spec_OrderBack
theorem spec_OrderBack.ok_of (hX : ∀ E ∈ spec_OrderBack.X, CallSpec Try.prog E) (h : ∀ (order : List Int), (decide (order.length < 9223372036854775808)) = true → ∃ fuel, runF Try.prog spec_OrderBack.X spec_OrderBack.I 0 fuel 23 Try.f23 [.d (.ints .i64 order)] = some ([.one ((.ints .i64 (obS order)), true), .one ((.bool (obB order)), false)], [])) : CallSpec Try.prog spec_OrderBack.E :=
  callSpec_of (d := 0) hX (by kernel_rfl) spec_OrderBack.I_ok (by kernel_rfl) (by kernel_rfl) (by kernel_rfl) (fun _ _ _ _ h => by dsimp only [spec_OrderBack.E] at h; cases h) (fun xs hp => by
    dsimp only [spec_OrderBack.E] at hp ⊢
    split at hp
    · exact h _ hp
    · cases hp)
theorem spec_OrderBack.ok : CallSpec Try.prog spec_OrderBack.E := spec_OrderBack.ok_of (by simp [spec_OrderBack.X, spec_isOrder.ok]) fun xs h => by
  obtain ⟨F, hF⟩ : ∃ F : Nat, 60 < F := ⟨61, by omega⟩
  refine ⟨F, ?_⟩
  rw [spec_OrderBack.e]
  unfold obS
  by_cases h3 : xs.length ≤ 3
  · rw [decide_eq_false (by omega), cond_false, h, cond_true]
    cases hb : isOB xs with
    | false =>
      simp only [obB, hb, Bool.and_false]; rfl
    | true =>
      have ho : obB xs = true := by rw [obB, hb, decide_eq_true h3]; rfl
      have hg := ob_get ho
      rw [ho, mkOk (by omega) (by omega), Int.toNat_natCast]
      simp only [Bool.not_true, cond_true, cond_false]
      refine run_loop (N := xs.length) (fun n j out => spec_OrderBack.L0 F n (spec_OrderBack.t0 xs (j : Int) out) (spec_OrderBack.k0 F)) (fun j out => Filled xs.length (fun p => xs.idxOf (p : Int)) (fun p => ((xs.idxOf (p : Int) : Nat) : Int)) j out) ?_ ?_ F 0 _ (by omega) (by omega) (Filled.zero (by simp))
      · intro n out hI
        rw [spec_OrderBack.s0, dge (by omega), cond_false, hI.all (ob_lt ho)]
        rfl
      · intro n j out hj hI
        have hol := hI.len
        obtain ⟨g1, g2, g3⟩ := hg j hj
        have gc : ((((xs.getD j 0).toNat : Nat) : Int)) = xs.getD j 0 := Int.toNat_of_nonneg g1
        rw [spec_OrderBack.s0, dlt hj, cond_true, idx_nat hj, w1 (by omega)]
        simp only [Option.bind_some, getD_get hj]
        have hi : idx (xs.getD j 0) out.length = some (xs.getD j 0).toNat := by
          rw [← gc]; rw [Int.toNat_natCast]; exact idx_nat (by omega)
        rw [hi]
        simp only [Option.bind_some]
        rw [decide_eq_true (by omega), cond_true]
        exact ⟨_, hI.set (fun p hp hr => ob_inj ho p hp _ g2 hr) (by rw [gc, g3]) (by rw [gc, g3]), rfl⟩
  · rw [decide_eq_true (by omega), cond_true]
    have ho : obB xs = false := by rw [obB, decide_eq_false h3]; rfl
    rw [ho]; rfl

namespace laws_equalInts
noncomputable def E : Entry := ⟨27, true, false, fun | [.d (.ints .i64 xs), .d (.ints .i64 ys)] => decide (xs.length < 9223372036854775808) && decide (ys.length < 9223372036854775808) | _ => false, fun | [.d (.ints .i64 xs), .d (.ints .i64 ys)] => ([.one ((.bool (decide (xs = ys))), false)], []) | _ => ([], []), fun _ => [], false, fun _ => none⟩
end laws_equalInts
namespace laws_equalInts
noncomputable def X : List Entry := []
noncomputable def I : List Inl := [⟨27, Try.f27, ⟨[], [(1000004, [2, 3, 4, 6, 7, 8, 9, 10, 11, 12, 13, 14, 15, 16, 17, 18, 19, 20, 21, 22, 23, 24, 25])], [], [(6, [0, 1, 4, 5, 2, 3, 6, 7, 8])], [], []⟩⟩]
theorem I_ok : ∀ i ∈ I, Try.prog.funcs[i.f]? = some i.fn ∧ (i.fn.name == "runtime.NumGoroutine") = false := by
  intro i hi
  simp only [I, List.mem_cons, List.not_mem_nil, or_false] at hi
  subst hi
  exact ⟨by kernel_rfl, by kernel_rfl⟩
noncomputable abbrev L0 (fuel n : Nat) (s : St) (k : Kont) := lAt Try.prog X I fuel true 0 false 27 (bodyOf Try.f27) [1, 1, 0, 1, 0] n s k
noncomputable abbrev k0  (fuel : Nat) : Kont := (kAt Try.prog X I fuel true 0 false 27 (bodyOf Try.f27) [1, 1, 0, 1, 0] [] (endK Try.prog Try.f27))
noncomputable def t0 (p0 : List Int) (p1 : List Int) (x0q2 : Int) : St := ⟨[(.imm (.ints .i64 p0)), (.imm (.ints .i64 p1)), .dead, .dead, .dead, (.imm (.int .i64 x0q2)), .dead, .dead, .dead, .dead, .dead, .dead, .dead, .dead, .dead, .dead, .dead, .dead, .dead, .dead, .dead, .dead, .dead, .dead, .dead, .dead], hOf [], [], []⟩
theorem e (fuel : Nat) (p0 : List Int) (p1 : List Int) : runF Try.prog X I 0 fuel 27 Try.f27 [.d (.ints .i64 p0), .d (.ints .i64 p1)] =
  (bif ((((p0.length : Nat) : Int) : Int) != ((p1.length : Nat) : Int)) then
  some ([.one ((.bool false), false)], [])
  else
  L0 fuel fuel (t0 p0 p1 0) (k0  fuel)) := by kernel_rfl
theorem s0 (fuel n0 : Nat) (p0 : List Int) (p1 : List Int) (x0q2 : Int) : L0 fuel (n0 + 1) (t0 p0 p1 x0q2) (k0  fuel) =
  (bif (decide ((x0q2 : Int) < ((p0.length : Nat) : Int))) then
  (idx x0q2 p0.length).bind fun j9 =>
  (p0[j9]?).bind fun v10 =>
  (idx x0q2 p1.length).bind fun j11 =>
  (p1[j11]?).bind fun v12 =>
  (bif ((v10 : Int) != v12) then
  some ([.one ((.bool false), false)], [])
  else
  L0 fuel n0 (t0 p0 p1 ((IntKind.wrap .i64 (x0q2 + 1)))) (k0  fuel))
  else
  some ([.one ((.bool true), false)], [])) := by kernel_rfl
end laws_equalInts
theorem laws_equalInts.ok_of (hX : ∀ E ∈ laws_equalInts.X, CallSpec Try.prog E) (h : ∀ (xs : List Int) (ys : List Int), (decide (xs.length < 9223372036854775808) && decide (ys.length < 9223372036854775808)) = true → ∃ fuel, runF Try.prog laws_equalInts.X laws_equalInts.I 0 fuel 27 Try.f27 [.d (.ints .i64 xs), .d (.ints .i64 ys)] = some ([.one ((.bool (decide (xs = ys))), false)], [])) : CallSpec Try.prog laws_equalInts.E :=
  callSpec_of (d := 0) hX (by kernel_rfl) laws_equalInts.I_ok (by kernel_rfl) (by kernel_rfl) (by kernel_rfl) (fun _ _ _ _ h => by dsimp only [laws_equalInts.E] at h; cases h) (fun xs hp => by
    dsimp only [laws_equalInts.E] at hp ⊢
    split at hp
    · exact h _ _ hp
    · cases hp)
theorem laws_equalInts.loop (fuel : Nat) (xs ys : List Int) (hl : xs.length = ys.length) (hx : xs.length < 9223372036854775808) : ∀ (m n j : Nat), xs.length - j = m → m < n → j ≤ xs.length →
    laws_equalInts.L0 fuel n (laws_equalInts.t0 xs ys (j : Int)) (laws_equalInts.k0 fuel) = some ([.one (.bool (decide (xs.drop j = ys.drop j)), false)], []) := by
  intro m
  induction m with
  | zero =>
    intro n j h1 h2 h3
    obtain ⟨n, rfl⟩ : ∃ n', n = n' + 1 := ⟨n - 1, by omega⟩
    have hj : ¬ j < xs.length := by omega
    rw [laws_equalInts.s0, dge hj, dropE hj, dropE (xs := ys) (by omega)]
    rfl
  | succ m ih =>
    intro n j h1 h2 h3
    obtain ⟨n, rfl⟩ : ∃ n', n = n' + 1 := ⟨n - 1, by omega⟩
    have hj : j < xs.length := by omega
    have hj2 : j < ys.length := by omega
    rw [laws_equalInts.s0, dlt hj, idx_nat hj, idx_nat hj2, w1 (by omega), dropS hj, dropS hj2]
    simp only [cond_true, Option.bind_some, getS hj, getS hj2]
    rw [ih n (j + 1) (by omega) (by omega) (by omega)]
    by_cases hv : xs[j] = ys[j]
    · rw [hv]
      simp only [bne_self_eq_false, cond_false, List.cons.injEq, true_and]
    · have : (xs[j] != ys[j]) = true := by simp [hv]
      rw [this]
      simp only [cond_true, List.cons.injEq, hv, false_and, decide_false]

theorem laws_equalInts.ok : CallSpec Try.prog laws_equalInts.E := laws_equalInts.ok_of (by simp [laws_equalInts.X]) fun xs ys h => by
  simp only [Bool.and_eq_true, decide_eq_true_eq] at h
  refine ⟨xs.length + 1, ?_⟩
  rw [laws_equalInts.e]
  by_cases hl : xs.length = ys.length
  · have := laws_equalInts.loop (xs.length + 1) xs ys hl h.1 xs.length (xs.length + 1) 0 (by omega) (by omega) (by omega)
    simp only [List.drop_zero] at this
    simp only [hl, bne_self_eq_false, cond_false]
    rw [← hl]
    exact this
  · have hne : xs ≠ ys := fun e => hl (e ▸ rfl)
    have : (((xs.length : Nat) : Int) != ((ys.length : Nat) : Int)) = true := by simp; omega
    rw [this]
    simp [hne]

namespace laws_FnOrderBack
noncomputable def E : Entry := ⟨7, true, false, fun | [.d (.ints .u8 bs)] => bytesB bs | _ => false, fun | [.d (.ints .u8 bs)] => ([.one ((.bool true), false)], []) | _ => ([], []), fun _ => [], false, fun _ => none⟩
end laws_FnOrderBack
namespace laws_FnOrderBack
noncomputable def X : List Entry := [spec_DrawOrderBack.E, impl_OrderBack.E, spec_OrderBack.E, laws_equalInts.E]
noncomputable def I : List Inl := [⟨7, Try.f7, ⟨[15, 18, 23, 49], [(1000010, [0, 1, 2, 5, 6, 7, 11, 12, 13, 14, 15, 16, 17, 18, 19, 20, 21, 22, 23, 24, 25, 26, 27, 28, 29, 30, 31, 32, 33, 34, 35, 36, 37, 38, 39, 40, 41, 42, 43, 44, 45, 46, 47, 48, 49, 50, 51, 52, 53, 54, 55, 56, 57, 58, 59, 60, 61, 62, 63, 64, 65, 66, 67, 68, 69, 70, 71, 72])], [], [], [], []⟩⟩]
theorem I_ok : ∀ i ∈ I, Try.prog.funcs[i.f]? = some i.fn ∧ (i.fn.name == "runtime.NumGoroutine") = false := by
  intro i hi
  simp only [I, List.mem_cons, List.not_mem_nil, or_false] at hi
  subst hi
  exact ⟨by kernel_rfl, by kernel_rfl⟩
noncomputable abbrev L0 (fuel n : Nat) (s : St) (k : Kont) := lAt Try.prog X I fuel true 0 false 7 (bodyOf Try.f7) [1, 1, 1, 1, 1, 1, 1, 0, 1, 0] n s k
noncomputable abbrev k0  (fuel : Nat) : Kont := (kAt Try.prog X I fuel true 0 false 7 (bodyOf Try.f7) [1, 1, 1, 1, 1, 1, 1, 0, 1, 0] [] (endK Try.prog Try.f7))
noncomputable def t0 (p0 : List Int) (x0q2 : Int) : St := ⟨[.dead, .dead, .dead, (.imm (.ints .i64 (dOB (cutC p0)))), (.all 1000000000 1), .dead, .dead, .dead, (.all 1000000001 1), (.imm (.bool (obB ((obS ((dOB (cutC p0)))))))), (.imm (.int .i64 x0q2)), .dead, .dead, .dead, .dead, .dead, .dead, .dead, .dead, .dead, .dead, .dead, .dead, .dead, .dead, .dead, .dead, .dead, .dead, .dead, .dead, .dead, .dead, .dead, .dead, .dead, .dead, .dead, .dead, .dead, .dead, .dead, .dead, .dead, .dead, .dead, .dead, .dead, .dead, .dead, .dead, .dead, .dead, .dead, .dead, .dead, .dead, .dead, .dead, .dead, .dead, .dead, .dead, .dead, .dead, .dead, .dead, .dead, .dead, .dead, .dead, .dead, .dead], hOf [(1000000000, (.ints .i64 (obS ((dOB (cutC p0)))))), (1000000001, (.ints .i64 (obS ((obS ((dOB (cutC p0))))))))], [], []⟩
theorem e (fuel : Nat) (p0 : List Int) : runF Try.prog X I 0 fuel 7 Try.f7 [.d (.ints .u8 p0)] =
  (bif (decide ((((p0.length : Nat) : Int) : Int) > 1048576)) then
  some ([.one ((.bool true), false)], [])
  else
  (bif bytesB p0 then
  (bif decide (((dOB (cutC p0))).length < 9223372036854775808) then
  (bif decide (((dOB (cutC p0))).length < 9223372036854775808) then
  (bif decide (((obS ((dOB (cutC p0))))).length < 9223372036854775808) && decide (((obS ((dOB (cutC p0))))).length < 9223372036854775808) then
  (bif (!(decide (((obS ((dOB (cutC p0))))) = ((obS ((dOB (cutC p0)))))))) then
  (bif decide (((obS ((dOB (cutC p0))))).length < 9223372036854775808) && decide (((obS ((dOB (cutC p0))))).length < 9223372036854775808) then
  (bif (decide (((obS ((dOB (cutC p0))))) = ((obS ((dOB (cutC p0))))))) then
  some ([.one ((.bool ((obB ((dOB (cutC p0)))) == (obB ((dOB (cutC p0)))))), false)], [])
  else
  some ([.one ((.bool false), false)], []))
  else
  none)
  else
  (bif (!((obB ((dOB (cutC p0)))) == (obB ((dOB (cutC p0)))))) then
  (bif decide (((obS ((dOB (cutC p0))))).length < 9223372036854775808) && decide (((obS ((dOB (cutC p0))))).length < 9223372036854775808) then
  (bif (decide (((obS ((dOB (cutC p0))))) = ((obS ((dOB (cutC p0))))))) then
  some ([.one ((.bool ((obB ((dOB (cutC p0)))) == (obB ((dOB (cutC p0)))))), false)], [])
  else
  some ([.one ((.bool false), false)], []))
  else
  none)
  else
  (bif (!(obB ((dOB (cutC p0))))) then
  (bif decide (((obS ((dOB (cutC p0))))).length < 9223372036854775808) && decide (((obS ((dOB (cutC p0))))).length < 9223372036854775808) then
  (bif (decide (((obS ((dOB (cutC p0))))) = ((obS ((dOB (cutC p0))))))) then
  some ([.one ((.bool ((obB ((dOB (cutC p0)))) == (obB ((dOB (cutC p0)))))), false)], [])
  else
  some ([.one ((.bool false), false)], []))
  else
  none)
  else
  (bif decide (((obS ((dOB (cutC p0))))).length < 9223372036854775808) then
  L0 fuel fuel (t0 p0 0) (k0  fuel)
  else
  none))))
  else
  none)
  else
  none)
  else
  none)
  else
  none)) := by kernel_rfl
theorem s0 (fuel n0 : Nat) (p0 : List Int) (x0q2 : Int) : L0 fuel (n0 + 1) (t0 p0 x0q2) (k0  fuel) =
  (bif (decide ((x0q2 : Int) < (((dOB (cutC p0)).length : Nat) : Int))) then
  (idx x0q2 (dOB (cutC p0)).length).bind fun j9 =>
  ((dOB (cutC p0))[j9]?).bind fun v10 =>
  (idx v10 (obS ((dOB (cutC p0)))).length).bind fun j11 =>
  ((obS ((dOB (cutC p0))))[j11]?).bind fun v12 =>
  (bif ((v12 : Int) != x0q2) then
  some ([.one ((.bool false), false)], [])
  else
  L0 fuel n0 (t0 p0 ((IntKind.wrap .i64 (x0q2 + 1)))) (k0  fuel))
  else
  (bif (obB ((obS ((dOB (cutC p0)))))) then
  (bif decide (((obS ((obS ((dOB (cutC p0))))))).length < 9223372036854775808) && decide (((dOB (cutC p0))).length < 9223372036854775808) then
  some ([.one ((.bool (decide (((obS ((obS ((dOB (cutC p0))))))) = ((dOB (cutC p0)))))), false)], [])
  else
  none)
  else
  some ([.one ((.bool false), false)], []))) := by kernel_rfl
end laws_FnOrderBack
theorem laws_FnOrderBack.ok_of (hX : ∀ E ∈ laws_FnOrderBack.X, CallSpec Try.prog E) (h : ∀ (bs : List Int), (bytesB bs) = true → ∃ fuel, runF Try.prog laws_FnOrderBack.X laws_FnOrderBack.I 0 fuel 7 Try.f7 [.d (.ints .u8 bs)] = some ([.one ((.bool true), false)], [])) : CallSpec Try.prog laws_FnOrderBack.E :=
  callSpec_of (d := 0) hX (by kernel_rfl) laws_FnOrderBack.I_ok (by kernel_rfl) (by kernel_rfl) (by kernel_rfl) (fun _ _ _ _ h => by dsimp only [laws_FnOrderBack.E] at h; cases h) (fun xs hp => by
    dsimp only [laws_FnOrderBack.E] at hp ⊢
    split at hp
    · exact h _ hp
    · cases hp)
theorem laws_FnOrderBack.ok : CallSpec Try.prog laws_FnOrderBack.E := laws_FnOrderBack.ok_of (by simp [laws_FnOrderBack.X, spec_DrawOrderBack.ok, impl_OrderBack.ok, spec_OrderBack.ok, laws_equalInts.ok]) fun bs h => by
  obtain ⟨F, hF⟩ : ∃ F : Nat, 4000 < F := ⟨4001, by omega⟩
  refine ⟨F, ?_⟩
  rw [laws_FnOrderBack.e]
  by_cases hl : ((bs.length : Nat) : Int) > 1048576
  · rw [decide_eq_true hl]; rfl
  rw [decide_eq_false hl, cond_false, h, cond_true]
  have r0 := cut_ok h (p := 0) (by omega) (by omega)
  have a1 := dOB_len r0
  obtain ⟨xs, hxs⟩ : ∃ x, dOB (cutC bs) = x := ⟨_, rfl⟩
  rw [hxs] at a1
  have g1 := lt_of (xs := xs) (by omega)
  simp only [hxs]
  cases hb : obB xs with
  | false =>
    simp only [obS, hb, g1, cond_true, cond_false]
    rfl
  | true =>
    have hg := ob_get hb
    obtain ⟨b1, b2⟩ := ob_back hb
    have hN : (obN xs).length = xs.length := by simp only [obN, tab_length]
    have g2 := lt_of (xs := obN xs) (by omega)
    simp only [Bool.and_self, Bool.and_true, Bool.true_and, cond_true, cond_false, Bool.not_true, Bool.not_false, bne_self_eq_false, beq_self_eq_true, decide_true, eq_self, obS, hb, g1, g2]
    refine run_loop (N := xs.length) (fun n j (_ : Unit) => laws_FnOrderBack.L0 F n (laws_FnOrderBack.t0 bs (j : Int)) (laws_FnOrderBack.k0 F)) (fun _ _ => True) ?_ ?_ F 0 () (by omega) (by omega) trivial
    · intro n _ _
      rw [laws_FnOrderBack.s0]
      simp only [hxs, obS, hb, cond_true]
      rw [dge (by omega), cond_false]
      simp only [Bool.and_self, Bool.and_true, Bool.true_and, cond_true, cond_false, Bool.not_true, Bool.not_false, bne_self_eq_false, beq_self_eq_true, decide_true, eq_self, b1, b2, g1]
    · intro n j _ hj _
      obtain ⟨q1, q2, q3⟩ := hg j hj
      have qi : idx (xs.getD j 0) (obN xs).length = some (xs.getD j 0).toNat := by
        simp only [idx]
        rw [if_pos (by omega)]
      have ql : (xs.getD j 0).toNat < (obN xs).length := by omega
      have qv : (obN xs).getD (xs.getD j 0).toNat 0 = (j : Int) := by
        simp only [obN]
        rw [tab_getD q2, Int.toNat_of_nonneg q1, q3]
      rw [laws_FnOrderBack.s0]
      simp only [hxs, obS, hb, cond_true]
      rw [dlt hj, cond_true, idx_nat hj, w1 (by omega)]
      simp only [Option.bind_some, getD_get hj, qi, getD_get ql, qv, bne_self_eq_false, cond_false]
      exact ⟨(), trivial, trivial⟩

end Go.Ab
