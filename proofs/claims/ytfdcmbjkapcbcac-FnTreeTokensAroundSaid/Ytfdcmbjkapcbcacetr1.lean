import Derived.Test.Ytfdcmbjkapcbcacetrt
import Derived.Test.YtfdcmbjkapcbcacProg
import Derived.Test.YtfdcmbjkapcbcacChecked
open Go Go.Ab Go.Proofs
set_option maxRecDepth 100000
set_option linter.unusedVariables false
set_option linter.unusedSimpArgs false
namespace Go.Ab
abbrev nodeIds : Ids := ⟨85, 87, 89, 91, 92⟩
end Go.Ab
namespace Go.Ab
namespace spec_newReader
noncomputable def E : Entry := ⟨22, false, false, fun | [.d (.ints .u8 bs)] => true | _ => false, fun | [.d (.ints .u8 bs)] => ([.box [((.ints .u8 (cutC bs)), false), ((.int .i64 0), false)]], []) | _ => ([], []), fun _ => [], true, fun _ => none, none⟩
end spec_newReader
namespace spec_newReader
noncomputable def X : List Entry := []
noncomputable def I : List Inl := [⟨22, Try.f22, ⟨[], [], [], [], [], []⟩⟩]
theorem I_ok : ∀ i ∈ I, Try.prog.funcs[i.f]? = some i.fn ∧ (i.fn.name == "runtime.NumGoroutine") = false := by
  intro i hi
  simp only [I, List.mem_cons, List.not_mem_nil, or_false] at hi
  subst hi
  exact ⟨by kernel_rfl, by kernel_rfl⟩
theorem e (fuel : Nat) (p0 : List Int) : runF Try.prog X I 0 fuel 22 Try.f22 [.d (.ints .u8 p0)] =
  (bif (decide ((((p0.length : Nat) : Int) : Int) > 2000)) then
  (cutEnds p0.length (none) (some (.imm (.int .i64 2000)))).bind fun cq1 =>
  some ([.box [((.ints .u8 ((p0.drop cq1.1).take (cq1.2 - cq1.1))), false), ((.int .i64 0), false)]], [])
  else
  some ([.box [((.ints .u8 p0), false), ((.int .i64 0), false)]], [])) := by kernel_rfl
end spec_newReader
theorem spec_newReader.ok_of (hX : ∀ E ∈ spec_newReader.X, CallSpec Try.prog E) (h : ∀ (bs : List Int), (true) = true → ∃ fuel, runF Try.prog spec_newReader.X spec_newReader.I 0 fuel 22 Try.f22 [.d (.ints .u8 bs)] = some ([.box [((.ints .u8 (cutC bs)), false), ((.int .i64 0), false)]], [])) : CallSpec Try.prog spec_newReader.E :=
  callSpec_of (d := 0) hX (by kernel_rfl) spec_newReader.I_ok (by kernel_rfl) (by kernel_rfl) (by kernel_rfl) (fun _ _ _ _ h => by dsimp only [spec_newReader.E] at h; cases h) (fun xs hp => by
    dsimp only [spec_newReader.E] at hp ⊢
    split at hp
    · exact h _ hp
    · cases hp)
theorem spec_newReader.ok : CallSpec Try.prog spec_newReader.E := spec_newReader.ok_of (by simp [spec_newReader.X]) fun bs _ => ⟨0, by
  rw [spec_newReader.e]
  unfold cutC
  by_cases h : ((bs.length : Nat) : Int) > 2000
  · rw [decide_eq_true h]
    have : cutEnds bs.length none (some (.imm (.int .i64 2000))) = some (0, 2000) := by
      unfold cutEnds
      simp only
      rw [if_pos ⟨by omega, by omega⟩]
      rfl
    rw [this]
    rfl
  · rw [decide_eq_false h]
    rfl⟩

namespace spec_reader_pick
noncomputable def E : Entry := ⟨35, false, false, fun | [.box [(.ints .u8 bs), (.int .i64 p)], .d (.int .i64 n)] => rdOk bs p && decide ((n : Int) ≤ 1048576) | _ => false, fun | [.box [(.ints .u8 bs), (.int .i64 p)], .d (.int .i64 n)] => ([.one ((.int .i64 (pickV bs p n)), false)], [[(.ints .u8 bs), (.int .i64 (p + 1))]]) | _ => ([], []), fun _ => [], false, fun _ => none, none⟩
end spec_reader_pick
namespace spec_reader_pick
noncomputable def X : List Entry := []
noncomputable def I : List Inl := [⟨35, Try.f35, ⟨[], [], [], [(7, [0, 1, 2, 4, 5, 6, 7, 15, 16, 17, 19, 20, 21, 22, 23, 24, 33, 34, 36, 37, 38, 39, 3, 8, 9, 10, 11, 12, 13, 14, 18, 25, 26, 27, 28, 29, 30, 31, 32, 35, 40, 41, 42, 43, 44, 45])], [], []⟩⟩]
theorem I_ok : ∀ i ∈ I, Try.prog.funcs[i.f]? = some i.fn ∧ (i.fn.name == "runtime.NumGoroutine") = false := by
  intro i hi
  simp only [I, List.mem_cons, List.not_mem_nil, or_false] at hi
  subst hi
  exact ⟨by kernel_rfl, by kernel_rfl⟩
theorem e (fuel : Nat) (p0q0 : List Int) (p0q1 : Int) (p1 : Int) : runF Try.prog X I 0 fuel 35 Try.f35 [.box [(.ints .u8 p0q0), (.int .i64 p0q1)], .d (.int .i64 p1)] =
  (bif (decide ((p1 : Int) < 1)) then
  some ([.one ((.int .i64 0), false)], [[(.ints .u8 p0q0), (.int .i64 (IntKind.wrap .i64 (p0q1 + 1)))]])
  else
  (bif ((((p0q0.length : Nat) : Int) : Int) == 0) then
  some ([.one ((.int .i64 0), false)], [[(.ints .u8 p0q0), (.int .i64 (IntKind.wrap .i64 (p0q1 + 1)))]])
  else
  (bif (decide (((IntKind.wrap .i64 ((IntKind.wrap .i64 (p0q1 + 1)) - 1)) : Int) < ((p0q0.length : Nat) : Int))) then
  (idx (IntKind.wrap .i64 ((IntKind.wrap .i64 (p0q1 + 1)) - 1)) p0q0.length).bind fun j1 =>
  (p0q0[j1]?).bind fun v2 =>
  (bif decide ((p1 : Int) = 0) then
  none
  else
  some ([.one ((.int .i64 (Int.tmod (IntKind.wrap .i64 v2) p1)), false)], [[(.ints .u8 p0q0), (.int .i64 (IntKind.wrap .i64 (p0q1 + 1)))]]))
  else
  (bif decide ((((p0q0.length : Nat) : Int) : Int) = 0) then
  none
  else
  (idx (Int.tmod (IntKind.wrap .i64 ((IntKind.wrap .i64 (p0q1 + 1)) - 1)) ((p0q0.length : Nat) : Int)) p0q0.length).bind fun j3 =>
  (p0q0[j3]?).bind fun v4 =>
  (bif decide ((((p0q0.length : Nat) : Int) : Int) = 0) then
  none
  else
  (idx (Int.tmod (IntKind.wrap .i64 ((IntKind.wrap .i64 ((IntKind.wrap .i64 ((IntKind.wrap .i64 (p0q1 + 1)) - 1)) * 7)) + 3)) ((p0q0.length : Nat) : Int)) p0q0.length).bind fun j5 =>
  (p0q0[j5]?).bind fun v6 =>
  (bif decide ((((p0q0.length : Nat) : Int) : Int) = 0) then
  none
  else
  (bif decide ((p1 : Int) = 0) then
  none
  else
  some ([.one ((.int .i64 (Int.tmod (IntKind.wrap .i64 ((BitVec.ofInt (IntKind.bits .i64) (IntKind.wrap .i64 ((IntKind.wrap .i64 ((IntKind.wrap .i64 ((IntKind.wrap .i64 ((IntKind.wrap .i64 v4) * 131)) + (IntKind.wrap .i64 ((IntKind.wrap .i64 v6) * 1117)))) + (IntKind.wrap .i64 ((IntKind.wrap .i64 ((IntKind.wrap .i64 (p0q1 + 1)) - 1)) * 29)))) + (IntKind.wrap .i64 ((IntKind.wrap .i64 (Int.tdiv (IntKind.wrap .i64 ((IntKind.wrap .i64 (p0q1 + 1)) - 1)) ((p0q0.length : Nat) : Int))) * 53)))) ^^^ BitVec.ofInt (IntKind.bits .i64) (IntKind.wrap .i64 (Int.tdiv (IntKind.wrap .i64 ((IntKind.wrap .i64 ((IntKind.wrap .i64 ((IntKind.wrap .i64 ((IntKind.wrap .i64 v4) * 131)) + (IntKind.wrap .i64 ((IntKind.wrap .i64 v6) * 1117)))) + (IntKind.wrap .i64 ((IntKind.wrap .i64 ((IntKind.wrap .i64 (p0q1 + 1)) - 1)) * 29)))) + (IntKind.wrap .i64 ((IntKind.wrap .i64 (Int.tdiv (IntKind.wrap .i64 ((IntKind.wrap .i64 (p0q1 + 1)) - 1)) ((p0q0.length : Nat) : Int))) * 53)))) 64))).toNat : Int)) p1)), false)], [[(.ints .u8 p0q0), (.int .i64 (IntKind.wrap .i64 (p0q1 + 1)))]])))))))) := by kernel_rfl
end spec_reader_pick
theorem spec_reader_pick.ok_of (hX : ∀ E ∈ spec_reader_pick.X, CallSpec Try.prog E) (h : ∀ (bs : List Int) (p : Int) (n : Int), (rdOk bs p && decide ((n : Int) ≤ 1048576)) = true → ∃ fuel, runF Try.prog spec_reader_pick.X spec_reader_pick.I 0 fuel 35 Try.f35 [.box [(.ints .u8 bs), (.int .i64 p)], .d (.int .i64 n)] = some ([.one ((.int .i64 (pickV bs p n)), false)], [[(.ints .u8 bs), (.int .i64 (p + 1))]])) : CallSpec Try.prog spec_reader_pick.E :=
  callSpec_of (d := 0) hX (by kernel_rfl) spec_reader_pick.I_ok (by kernel_rfl) (by kernel_rfl) (by kernel_rfl) (fun _ _ _ _ h => by dsimp only [spec_reader_pick.E] at h; cases h) (fun xs hp => by
    dsimp only [spec_reader_pick.E] at hp ⊢
    split at hp
    · exact h _ _ _ hp
    · cases hp)
theorem spec_reader_pick.ok : CallSpec Try.prog spec_reader_pick.E := spec_reader_pick.ok_of (by simp [spec_reader_pick.X]) fun bs p n h => ⟨0, by
  simp only [Bool.and_eq_true, decide_eq_true_eq] at h
  obtain ⟨h0, h1, h2, h3⟩ := rdOk_inv h.1
  have hP := @wS (p + 1) (by omega) (by omega)
  have hK := @wS (p + 1 - 1) (by omega) (by omega)
  rw [show p + 1 - 1 = p by omega] at hK
  rw [spec_reader_pick.e]
  simp only [hP, show p + 1 - 1 = p by omega, hK]
  unfold pickV
  by_cases hn : n < 1
  · rw [decide_eq_true hn]; rfl
  rw [decide_eq_false hn, cond_false, cond_false]
  by_cases hL : bs.length = 0
  · rw [show (((bs.length : Nat) : Int) == 0) = true by simp [hL]]; rfl
  rw [beq0 hL, cond_false, cond_false]
  by_cases hp : p < ((bs.length : Nat) : Int)
  · have hlt : p.toNat < bs.length := by omega
    have hi : idx p bs.length = some p.toNat := by unfold idx; rw [if_pos ⟨h0, hp⟩]
    rw [decide_eq_true hp, hi, decide_eq_false (p := n = 0) (by omega)]
    simp [hlt]
  · have t1 := tmod_bd (x := p) (n := ((bs.length : Nat) : Int)) h0 (by omega)
    have e7 := @wS (p * 7) (by omega) (by omega)
    have e8 := @wS (p * 7 + 3) (by omega) (by omega)
    have t2 := tmod_bd (x := p * 7 + 3) (n := ((bs.length : Nat) : Int)) (by omega) (by omega)
    have i1 : idx (Int.tmod p ((bs.length : Nat) : Int)) bs.length = some (Int.tmod p ((bs.length : Nat) : Int)).toNat := by unfold idx; rw [if_pos t1]
    have i2 : idx (Int.tmod (p * 7 + 3) ((bs.length : Nat) : Int)) bs.length = some (Int.tmod (p * 7 + 3) ((bs.length : Nat) : Int)).toNat := by unfold idx; rw [if_pos t2]
    have g1 : (Int.tmod p ((bs.length : Nat) : Int)).toNat < bs.length := by omega
    have g2 : (Int.tmod (p * 7 + 3) ((bs.length : Nat) : Int)).toNat < bs.length := by omega
    have q1 : bs[(Int.tmod p ((bs.length : Nat) : Int)).toNat]? = some (bs.getD (Int.tmod p ((bs.length : Nat) : Int)).toNat 0) := by simp [g1]
    have q2 : bs[(Int.tmod (p * 7 + 3) ((bs.length : Nat) : Int)).toNat]? = some (bs.getD (Int.tmod (p * 7 + 3) ((bs.length : Nat) : Int)).toNat 0) := by simp [g2]
    rw [decide_eq_false hp, decide_eq_false (p := (((bs.length : Nat) : Int) = 0)) (by omega), decide_eq_false (p := n = 0) (by omega), e7, e8, i1, i2]
    simp only [cond_false, Option.bind_some, q1, q2]
    rfl⟩

namespace spec_reader_one
noncomputable def E : Entry := ⟨36, false, false, fun | [.box [(.ints .u8 bs), (.int .i64 p)], .d (.ints .i64 xs)] => rdOk bs p && decide (0 < (xs : List Int).length) && decide ((xs : List Int).length ≤ 1048576) | _ => false, fun | [.box [(.ints .u8 bs), (.int .i64 p)], .d (.ints .i64 xs)] => ([.one ((.int .i64 (oneV bs p xs)), false)], [[(.ints .u8 bs), (.int .i64 (p + 1))]]) | _ => ([], []), fun _ => [], false, fun _ => none, none⟩
end spec_reader_one
namespace spec_reader_one
noncomputable def X : List Entry := [spec_reader_pick.E]
noncomputable def I : List Inl := [⟨36, Try.f36, ⟨[], [], [], [], [], []⟩⟩]
theorem I_ok : ∀ i ∈ I, Try.prog.funcs[i.f]? = some i.fn ∧ (i.fn.name == "runtime.NumGoroutine") = false := by
  intro i hi
  simp only [I, List.mem_cons, List.not_mem_nil, or_false] at hi
  subst hi
  exact ⟨by kernel_rfl, by kernel_rfl⟩
theorem e (fuel : Nat) (p0q0 : List Int) (p0q1 : Int) (p1 : List Int) : runF Try.prog X I 0 fuel 36 Try.f36 [.box [(.ints .u8 p0q0), (.int .i64 p0q1)], .d (.ints .i64 p1)] =
  (bif rdOk p0q0 p0q1 && decide (((((p1.length : Nat) : Int)) : Int) ≤ 1048576) then
  (idx (pickV p0q0 p0q1 (((p1.length : Nat) : Int))) p1.length).bind fun j1 =>
  (p1[j1]?).bind fun v2 =>
  some ([.one ((.int .i64 v2), false)], [[(.ints .u8 p0q0), (.int .i64 (p0q1 + 1))]])
  else
  none) := by kernel_rfl
end spec_reader_one
theorem spec_reader_one.ok_of (hX : ∀ E ∈ spec_reader_one.X, CallSpec Try.prog E) (h : ∀ (bs : List Int) (p : Int) (xs : List Int), (rdOk bs p && decide (0 < (xs : List Int).length) && decide ((xs : List Int).length ≤ 1048576)) = true → ∃ fuel, runF Try.prog spec_reader_one.X spec_reader_one.I 0 fuel 36 Try.f36 [.box [(.ints .u8 bs), (.int .i64 p)], .d (.ints .i64 xs)] = some ([.one ((.int .i64 (oneV bs p xs)), false)], [[(.ints .u8 bs), (.int .i64 (p + 1))]])) : CallSpec Try.prog spec_reader_one.E :=
  callSpec_of (d := 0) hX (by kernel_rfl) spec_reader_one.I_ok (by kernel_rfl) (by kernel_rfl) (by kernel_rfl) (fun _ _ _ _ h => by dsimp only [spec_reader_one.E] at h; cases h) (fun xs hp => by
    dsimp only [spec_reader_one.E] at hp ⊢
    split at hp
    · exact h _ _ _ hp
    · cases hp)
theorem spec_reader_one.ok : CallSpec Try.prog spec_reader_one.E := spec_reader_one.ok_of (by simp [spec_reader_one.X, spec_reader_pick.ok]) fun bs p xs h => ⟨0, by
  simp only [Bool.and_eq_true, decide_eq_true_eq] at h
  have hb := pick_bd (n := ((xs.length : Nat) : Int)) h.1.1 (by omega)
  have hi : idx (pickV bs p ((xs.length : Nat) : Int)) xs.length = some (pickV bs p ((xs.length : Nat) : Int)).toNat := by unfold idx; rw [if_pos hb]
  have g : (pickV bs p ((xs.length : Nat) : Int)).toNat < xs.length := by omega
  rw [spec_reader_one.e, h.1.1, decide_eq_true (p := (((xs.length : Nat) : Int) ≤ 1048576)) (by omega), hi]
  unfold oneV
  simp [g]⟩

namespace spec_smallNum
noncomputable def E : Entry := ⟨57, false, false, fun | [.box [(.ints .u8 bs), (.int .i64 p)]] => rdOk bs p | _ => false, fun | [.box [(.ints .u8 bs), (.int .i64 p)]] => ([.one ((.int .i64 (oneV bs p smalL)), false)], [[(.ints .u8 bs), (.int .i64 (p + 1))]]) | _ => ([], []), fun _ => [], false, fun _ => none, none⟩
end spec_smallNum
namespace spec_smallNum
noncomputable def X : List Entry := [spec_reader_one.E]
noncomputable def I : List Inl := [⟨57, Try.f57, ⟨[], [], [], [], [4], []⟩⟩]
theorem I_ok : ∀ i ∈ I, Try.prog.funcs[i.f]? = some i.fn ∧ (i.fn.name == "runtime.NumGoroutine") = false := by
  intro i hi
  simp only [I, List.mem_cons, List.not_mem_nil, or_false] at hi
  subst hi
  exact ⟨by kernel_rfl, by kernel_rfl⟩
theorem e (fuel : Nat) (p0q0 : List Int) (p0q1 : Int) : runF Try.prog X I 0 fuel 57 Try.f57 [.box [(.ints .u8 p0q0), (.int .i64 p0q1)]] =
  (bif rdOk p0q0 p0q1 && decide (0 < ((([0, 1, 2, 3, (-1), 5, (-2), 4] : List Int)) : List Int).length) && decide (((([0, 1, 2, 3, (-1), 5, (-2), 4] : List Int)) : List Int).length ≤ 1048576) then
  some ([.one ((.int .i64 (oneV p0q0 p0q1 (([0, 1, 2, 3, (-1), 5, (-2), 4] : List Int)))), false)], [[(.ints .u8 p0q0), (.int .i64 (p0q1 + 1))]])
  else
  none) := by kernel_rfl
end spec_smallNum
theorem spec_smallNum.ok_of (hX : ∀ E ∈ spec_smallNum.X, CallSpec Try.prog E) (h : ∀ (bs : List Int) (p : Int), (rdOk bs p) = true → ∃ fuel, runF Try.prog spec_smallNum.X spec_smallNum.I 0 fuel 57 Try.f57 [.box [(.ints .u8 bs), (.int .i64 p)]] = some ([.one ((.int .i64 (oneV bs p smalL)), false)], [[(.ints .u8 bs), (.int .i64 (p + 1))]])) : CallSpec Try.prog spec_smallNum.E :=
  callSpec_of (d := 0) hX (by kernel_rfl) spec_smallNum.I_ok (by kernel_rfl) (by kernel_rfl) (by kernel_rfl) (fun _ _ _ _ h => by dsimp only [spec_smallNum.E] at h; cases h) (fun xs hp => by
    dsimp only [spec_smallNum.E] at hp ⊢
    split at hp
    · exact h _ _ hp
    · cases hp)
theorem spec_smallNum.ok : CallSpec Try.prog spec_smallNum.E := spec_smallNum.ok_of (by simp [spec_smallNum.X, spec_reader_one.ok]) fun bs p h => ⟨0, by rw [spec_smallNum.e, h]; rfl⟩

namespace spec_someTree
noncomputable def E : Entry := ⟨34, false, false, fun | [.box [(.ints .u8 bs), (.int .i64 p)], .d (.int .i64 dep)] => rdOk bs p && decide ((p : Int) + cB dep.toNat ≤ 3000000) && decide (1 ≤ dep) && decide (dep ≤ 4) | _ => false, fun | [.box [(.ints .u8 bs), (.int .i64 p)], .d (.int .i64 dep)] => ([.agg [((.int .i64 (Tr.k (someT bs dep.toNat p).1)), false), ((.int .i64 (Tr.s (someT bs dep.toNat p).1)), false), ((.int .i64 (Tr.n (someT bs dep.toNat p).1)), false), ((.ints .i64 (Tr.xs (someT bs dep.toNat p).1)), false), ((.seq 5 (treeDs (Tr.ks (someT bs dep.toNat p).1))), false)]], [[(.ints .u8 bs), (.int .i64 (someT bs dep.toNat p).2)]]) | _ => ([], []), fun _ => [], false, fun _ => none, none⟩
noncomputable def Ed (d : Nat) : Entry := ⟨34, false, false, fun | [.box [(.ints .u8 bs), (.int .i64 p)], .d (.int .i64 dep)] => (rdOk bs p && decide ((p : Int) + cB dep.toNat ≤ 3000000) && decide (1 ≤ dep) && decide (dep ≤ 4) && decide (dep.toNat < d)) | _ => false, fun | [.box [(.ints .u8 bs), (.int .i64 p)], .d (.int .i64 dep)] => ([.agg [((.int .i64 (Tr.k (someT bs dep.toNat p).1)), false), ((.int .i64 (Tr.s (someT bs dep.toNat p).1)), false), ((.int .i64 (Tr.n (someT bs dep.toNat p).1)), false), ((.ints .i64 (Tr.xs (someT bs dep.toNat p).1)), false), ((.seq 5 (treeDs (Tr.ks (someT bs dep.toNat p).1))), false)]], [[(.ints .u8 bs), (.int .i64 (someT bs dep.toNat p).2)]]) | _ => ([], []), fun _ => [], false, fun _ => none, none⟩
theorem Ed_zero : CallSpec Try.prog (Ed 0) := CallSpec.void ⟨Try.f34, by kernel_rfl, by kernel_rfl, by kernel_rfl⟩ (fun xs => by dsimp only [Ed]; split <;> simp) (fun _ => rfl)
theorem E_of (h : ∀ d, CallSpec Try.prog (Ed d)) : CallSpec Try.prog E := CallSpec.union Ed h (fun _ => rfl) (fun _ => rfl) (fun _ => rfl) fun xs hp => by
  dsimp only [E] at hp
  split at hp
  · rename_i bs p dep
    refine ⟨dep.toNat + 1, ?_, rfl⟩
    show (_ && decide (_ < _)) = true
    rw [hp]
    exact decide_eq_true (Nat.lt_succ_self _)
  · cases hp
end spec_someTree
namespace spec_someTree
noncomputable def X (d : Nat) : List Entry := [spec_reader_pick.E, spec_reader_one.E, spec_smallNum.E, spec_someTree.Ed d]
noncomputable def I : List Inl := [⟨34, Try.f34, ⟨[], [(1000006, [1, 2, 3, 7, 8, 9, 10, 11, 12, 13, 14, 15, 16, 17, 18, 19, 20, 21, 22, 23, 24, 25, 26, 27, 28, 29, 30, 31, 32, 33, 34, 35, 36, 37, 38, 39, 40, 41, 42, 43, 44, 45, 46, 47, 48, 49, 50, 51, 52, 53, 54, 55, 56, 57, 58, 59, 60, 61, 62, 63, 64, 65, 66, 67, 68, 69, 70, 71, 72, 73, 74, 75, 76, 77, 78, 79, 80, 81, 82, 83, 84, 85, 86, 87, 88, 89, 90, 91, 92, 93, 94, 95, 96, 97, 98, 99, 100, 101, 102, 103, 104])], [(9, [5]), (16, [7]), (24, [7])], [(16, [0, 3, 1, 2, 4, 5, 6]), (24, [0, 2, 3, 4, 6, 5, 1, 7, 8, 9])], [24, 25, 29, 41, 52, 55, 57, 63, 64, 65, 69, 72, 73, 75, 85, 86, 88, 91, 94, 97, 102, 103], []⟩⟩]
theorem I_ok : ∀ i ∈ I, Try.prog.funcs[i.f]? = some i.fn ∧ (i.fn.name == "runtime.NumGoroutine") = false := by
  intro i hi
  simp only [I, List.mem_cons, List.not_mem_nil, or_false] at hi
  subst hi
  exact ⟨by kernel_rfl, by kernel_rfl⟩
noncomputable abbrev L0 (d : Nat) (fuel n : Nat) (s : St) (k : Kont) := lAt Try.prog (X d) I fuel false 0 false 34 (bodyOf Try.f34) [1, 0, 1, 0, 1, 1, 0, 1, 0] n s k
noncomputable abbrev k0 (d : Nat)  (fuel : Nat) : Kont := (kAt Try.prog (X d) I fuel false 0 false 34 (bodyOf Try.f34) [1, 0, 1, 0, 1, 1, 0, 1, 0] [] (endK Try.prog Try.f34))
noncomputable def t0 (p0q0 : List Int) (x0q0 : Int) (x0q2 : Int) (x0q6 : List Int) : St := ⟨[(.ptr 1000000000 0 0), .dead, .dead, .dead, (.ptr 1000000001 0 0), (.all 1000000002 1), (.imm (.int .i64 x0q0)), .dead, .dead, .dead, .dead, .dead, .dead, .dead, .dead, .dead, .dead, .dead, .dead, .dead, .dead, .dead, .dead, .dead, .dead, .dead, .dead, .dead, .dead, .dead, .dead, .dead, .dead, .dead, .dead, .dead, .dead, .dead, .dead, .dead, .dead, .dead, .dead, .dead, .dead, .dead, .dead, .dead, .dead, .dead, .dead, .dead, .dead, .dead, .dead, .dead, .dead, .dead, .dead, .dead, .dead, .dead, .dead, .dead, .dead, .dead, .dead, .dead, .dead, .dead, .dead, .dead, .dead, .dead, .dead, .dead, .dead, .dead, .dead, .dead, .dead, .dead, .dead, .dead, .dead, .dead, .dead, .dead, .dead, .dead, .dead, .dead, .dead, .dead, .dead, .dead, .dead, .dead, .dead, .dead, .dead, .dead, .dead, .dead, .dead], hOf [(1000000000, (.box [(.imm (.ints .u8 p0q0)), (.imm (.int .i64 x0q2))])), (1000000001, (.box [(.imm (.int .i64 0)), (.imm (.int .i64 0)), (.imm (.int .i64 0)), (.imm .nils), (.imm .nils)])), (1000000002, (.ints .i64 x0q6))], [(.ptr 1000000000 0 0)], []⟩
theorem e (d : Nat) (fuel : Nat) (p0q0 : List Int) (p0q1 : Int) (p1 : Int) : runF Try.prog (X d) I 0 fuel 34 Try.f34 [.box [(.ints .u8 p0q0), (.int .i64 p0q1)], .d (.int .i64 p1)] =
  (bif (decide ((p1 : Int) ≤ 1)) then
  (bif rdOk p0q0 p0q1 && decide ((2 : Int) ≤ 1048576) then
  (bif (((pickV p0q0 p0q1 2) : Int) == 0) then
  (bif rdOk p0q0 ((p0q1 + 1)) && decide ((4 : Int) ≤ 1048576) then
  some ([.agg [((.int .i64 1), false), ((.int .i64 0), false), ((.int .i64 (pickV p0q0 ((p0q1 + 1)) 4)), false), ((.ints .i64 ([] : List Int)), false), ((.seq 5 []), false)]], [[(.ints .u8 p0q0), (.int .i64 (((p0q1 + 1)) + 1))]])
  else
  none)
  else
  (bif rdOk p0q0 ((p0q1 + 1)) && decide (0 < ((([1, 1, 2, 3] : List Int)) : List Int).length) && decide (((([1, 1, 2, 3] : List Int)) : List Int).length ≤ 1048576) then
  L0 d fuel fuel (t0 p0q0 ((oneV p0q0 ((p0q1 + 1)) (([1, 1, 2, 3] : List Int)))) ((((p0q1 + 1)) + 1)) ([])) (k0 d  fuel)
  else
  none))
  else
  none)
  else
  (bif rdOk p0q0 p0q1 && decide ((5 : Int) ≤ 1048576) then
  (bif (((pickV p0q0 p0q1 5) : Int) == 0) then
  (bif rdOk p0q0 ((p0q1 + 1)) && decide ((2 : Int) ≤ 1048576) then
  (bif (((pickV p0q0 ((p0q1 + 1)) 2) : Int) == 0) then
  (bif rdOk p0q0 ((((p0q1 + 1)) + 1)) && decide ((4 : Int) ≤ 1048576) then
  some ([.agg [((.int .i64 1), false), ((.int .i64 0), false), ((.int .i64 (pickV p0q0 ((((p0q1 + 1)) + 1)) 4)), false), ((.ints .i64 ([] : List Int)), false), ((.seq 5 []), false)]], [[(.ints .u8 p0q0), (.int .i64 (((((p0q1 + 1)) + 1)) + 1))]])
  else
  none)
  else
  (bif rdOk p0q0 ((((p0q1 + 1)) + 1)) && decide (0 < ((([1, 1, 2, 3] : List Int)) : List Int).length) && decide (((([1, 1, 2, 3] : List Int)) : List Int).length ≤ 1048576) then
  L0 d fuel fuel (t0 p0q0 ((oneV p0q0 ((((p0q1 + 1)) + 1)) (([1, 1, 2, 3] : List Int)))) ((((((p0q1 + 1)) + 1)) + 1)) ([])) (k0 d  fuel)
  else
  none))
  else
  none)
  else
  (bif (rdOk p0q0 ((p0q1 + 1)) && decide ((((p0q1 + 1)) : Int) + cB ((IntKind.wrap .i64 (p1 - 1))).toNat ≤ 3000000) && decide (1 ≤ ((IntKind.wrap .i64 (p1 - 1)))) && decide (((IntKind.wrap .i64 (p1 - 1))) ≤ 4) && decide (((IntKind.wrap .i64 (p1 - 1))).toNat < d)) then
  (bif rdOk p0q0 ((someT p0q0 ((IntKind.wrap .i64 (p1 - 1))).toNat ((p0q1 + 1))).2) && decide ((5 : Int) ≤ 1048576) then
  (bif (((pickV p0q0 ((someT p0q0 ((IntKind.wrap .i64 (p1 - 1))).toNat ((p0q1 + 1))).2) 5) : Int) == 0) then
  (bif rdOk p0q0 ((((someT p0q0 ((IntKind.wrap .i64 (p1 - 1))).toNat ((p0q1 + 1))).2) + 1)) && decide (0 < ((([1, 8, 10, 1] : List Int)) : List Int).length) && decide (((([1, 8, 10, 1] : List Int)) : List Int).length ≤ 1048576) then
  some ([.agg [((.int .i64 2), false), ((.int .i64 (oneV p0q0 ((((someT p0q0 ((IntKind.wrap .i64 (p1 - 1))).toNat ((p0q1 + 1))).2) + 1)) (([1, 8, 10, 1] : List Int)))), false), ((.int .i64 0), false), ((.ints .i64 ([] : List Int)), false), ((.seq 5 [(.agg [(.int .i64 (Tr.k (someT p0q0 ((IntKind.wrap .i64 (p1 - 1))).toNat ((p0q1 + 1))).1)), (.int .i64 (Tr.s (someT p0q0 ((IntKind.wrap .i64 (p1 - 1))).toNat ((p0q1 + 1))).1)), (.int .i64 (Tr.n (someT p0q0 ((IntKind.wrap .i64 (p1 - 1))).toNat ((p0q1 + 1))).1)), (.ints .i64 (Tr.xs (someT p0q0 ((IntKind.wrap .i64 (p1 - 1))).toNat ((p0q1 + 1))).1)), (.seq 5 (treeDs (Tr.ks (someT p0q0 ((IntKind.wrap .i64 (p1 - 1))).toNat ((p0q1 + 1))).1)))])]), false)]], [[(.ints .u8 p0q0), (.int .i64 (((((someT p0q0 ((IntKind.wrap .i64 (p1 - 1))).toNat ((p0q1 + 1))).2) + 1)) + 1))]])
  else
  none)
  else
  (bif (((pickV p0q0 ((someT p0q0 ((IntKind.wrap .i64 (p1 - 1))).toNat ((p0q1 + 1))).2) 5) : Int) == 1) then
  (bif rdOk p0q0 ((((someT p0q0 ((IntKind.wrap .i64 (p1 - 1))).toNat ((p0q1 + 1))).2) + 1)) && decide ((8 : Int) ≤ 1048576) then
  some ([.agg [((.int .i64 4), false), ((.int .i64 (pickV p0q0 ((((someT p0q0 ((IntKind.wrap .i64 (p1 - 1))).toNat ((p0q1 + 1))).2) + 1)) 8)), false), ((.int .i64 0), false), ((.ints .i64 ([] : List Int)), false), ((.seq 5 [(.agg [(.int .i64 (Tr.k (someT p0q0 ((IntKind.wrap .i64 (p1 - 1))).toNat ((p0q1 + 1))).1)), (.int .i64 (Tr.s (someT p0q0 ((IntKind.wrap .i64 (p1 - 1))).toNat ((p0q1 + 1))).1)), (.int .i64 (Tr.n (someT p0q0 ((IntKind.wrap .i64 (p1 - 1))).toNat ((p0q1 + 1))).1)), (.ints .i64 (Tr.xs (someT p0q0 ((IntKind.wrap .i64 (p1 - 1))).toNat ((p0q1 + 1))).1)), (.seq 5 (treeDs (Tr.ks (someT p0q0 ((IntKind.wrap .i64 (p1 - 1))).toNat ((p0q1 + 1))).1)))])]), false)]], [[(.ints .u8 p0q0), (.int .i64 (((((someT p0q0 ((IntKind.wrap .i64 (p1 - 1))).toNat ((p0q1 + 1))).2) + 1)) + 1))]])
  else
  none)
  else
  (bif (((pickV p0q0 ((someT p0q0 ((IntKind.wrap .i64 (p1 - 1))).toNat ((p0q1 + 1))).2) 5) : Int) == 2) then
  (bif rdOk p0q0 ((((someT p0q0 ((IntKind.wrap .i64 (p1 - 1))).toNat ((p0q1 + 1))).2) + 1)) && decide ((7 : Int) ≤ 1048576) then
  (bif rdOk p0q0 ((((((someT p0q0 ((IntKind.wrap .i64 (p1 - 1))).toNat ((p0q1 + 1))).2) + 1)) + 1)) && decide ((2 : Int) ≤ 1048576) then
  (bif (((pickV p0q0 ((((((someT p0q0 ((IntKind.wrap .i64 (p1 - 1))).toNat ((p0q1 + 1))).2) + 1)) + 1)) 2) : Int) == 0) then
  some ([.agg [((.int .i64 2), false), ((.int .i64 9), false), ((.int .i64 0), false), ((.ints .i64 ([] : List Int)), false), ((.seq 5 [(.agg [(.int .i64 0), (.int .i64 0), (.int .i64 0), (.ints .i64 ([(pickV p0q0 ((((someT p0q0 ((IntKind.wrap .i64 (p1 - 1))).toNat ((p0q1 + 1))).2) + 1)) 7)] : List Int)), (.seq 5 [])])]), false)]], [[(.ints .u8 p0q0), (.int .i64 (((((((someT p0q0 ((IntKind.wrap .i64 (p1 - 1))).toNat ((p0q1 + 1))).2) + 1)) + 1)) + 1))]])
  else
  (bif rdOk p0q0 ((((((((someT p0q0 ((IntKind.wrap .i64 (p1 - 1))).toNat ((p0q1 + 1))).2) + 1)) + 1)) + 1)) && decide ((4 : Int) ≤ 1048576) then
  (bif rdOk p0q0 ((((((((((someT p0q0 ((IntKind.wrap .i64 (p1 - 1))).toNat ((p0q1 + 1))).2) + 1)) + 1)) + 1)) + 1)) && decide ((4 : Int) ≤ 1048576) then
  some ([.agg [((.int .i64 3), false), ((.int .i64 8), false), ((.int .i64 0), false), ((.ints .i64 ([] : List Int)), false), ((.seq 5 [(.agg [(.int .i64 0), (.int .i64 0), (.int .i64 0), (.ints .i64 ([(pickV p0q0 ((((((((someT p0q0 ((IntKind.wrap .i64 (p1 - 1))).toNat ((p0q1 + 1))).2) + 1)) + 1)) + 1)) 4), (pickV p0q0 ((((((((((someT p0q0 ((IntKind.wrap .i64 (p1 - 1))).toNat ((p0q1 + 1))).2) + 1)) + 1)) + 1)) + 1)) 4)] : List Int)), (.seq 5 [])]), (.agg [(.int .i64 (Tr.k (someT p0q0 ((IntKind.wrap .i64 (p1 - 1))).toNat ((p0q1 + 1))).1)), (.int .i64 (Tr.s (someT p0q0 ((IntKind.wrap .i64 (p1 - 1))).toNat ((p0q1 + 1))).1)), (.int .i64 (Tr.n (someT p0q0 ((IntKind.wrap .i64 (p1 - 1))).toNat ((p0q1 + 1))).1)), (.ints .i64 (Tr.xs (someT p0q0 ((IntKind.wrap .i64 (p1 - 1))).toNat ((p0q1 + 1))).1)), (.seq 5 (treeDs (Tr.ks (someT p0q0 ((IntKind.wrap .i64 (p1 - 1))).toNat ((p0q1 + 1))).1)))])]), false)]], [[(.ints .u8 p0q0), (.int .i64 (((((((((((someT p0q0 ((IntKind.wrap .i64 (p1 - 1))).toNat ((p0q1 + 1))).2) + 1)) + 1)) + 1)) + 1)) + 1))]])
  else
  none)
  else
  none))
  else
  none)
  else
  none)
  else
  (bif rdOk p0q0 ((((someT p0q0 ((IntKind.wrap .i64 (p1 - 1))).toNat ((p0q1 + 1))).2) + 1)) && decide (0 < ((([0, 1, 2, 3, 4, 5, 6, 7, 10, 11, 0, 2] : List Int)) : List Int).length) && decide (((([0, 1, 2, 3, 4, 5, 6, 7, 10, 11, 0, 2] : List Int)) : List Int).length ≤ 1048576) then
  (bif (rdOk p0q0 ((((((someT p0q0 ((IntKind.wrap .i64 (p1 - 1))).toNat ((p0q1 + 1))).2) + 1)) + 1)) && decide ((((((((someT p0q0 ((IntKind.wrap .i64 (p1 - 1))).toNat ((p0q1 + 1))).2) + 1)) + 1)) : Int) + cB ((IntKind.wrap .i64 (p1 - 1))).toNat ≤ 3000000) && decide (1 ≤ ((IntKind.wrap .i64 (p1 - 1)))) && decide (((IntKind.wrap .i64 (p1 - 1))) ≤ 4) && decide (((IntKind.wrap .i64 (p1 - 1))).toNat < d)) then
  some ([.agg [((.int .i64 3), false), ((.int .i64 (oneV p0q0 ((((someT p0q0 ((IntKind.wrap .i64 (p1 - 1))).toNat ((p0q1 + 1))).2) + 1)) (([0, 1, 2, 3, 4, 5, 6, 7, 10, 11, 0, 2] : List Int)))), false), ((.int .i64 0), false), ((.ints .i64 ([] : List Int)), false), ((.seq 5 [(.agg [(.int .i64 (Tr.k (someT p0q0 ((IntKind.wrap .i64 (p1 - 1))).toNat ((((((someT p0q0 ((IntKind.wrap .i64 (p1 - 1))).toNat ((p0q1 + 1))).2) + 1)) + 1))).1)), (.int .i64 (Tr.s (someT p0q0 ((IntKind.wrap .i64 (p1 - 1))).toNat ((((((someT p0q0 ((IntKind.wrap .i64 (p1 - 1))).toNat ((p0q1 + 1))).2) + 1)) + 1))).1)), (.int .i64 (Tr.n (someT p0q0 ((IntKind.wrap .i64 (p1 - 1))).toNat ((((((someT p0q0 ((IntKind.wrap .i64 (p1 - 1))).toNat ((p0q1 + 1))).2) + 1)) + 1))).1)), (.ints .i64 (Tr.xs (someT p0q0 ((IntKind.wrap .i64 (p1 - 1))).toNat ((((((someT p0q0 ((IntKind.wrap .i64 (p1 - 1))).toNat ((p0q1 + 1))).2) + 1)) + 1))).1)), (.seq 5 (treeDs (Tr.ks (someT p0q0 ((IntKind.wrap .i64 (p1 - 1))).toNat ((((((someT p0q0 ((IntKind.wrap .i64 (p1 - 1))).toNat ((p0q1 + 1))).2) + 1)) + 1))).1)))]), (.agg [(.int .i64 (Tr.k (someT p0q0 ((IntKind.wrap .i64 (p1 - 1))).toNat ((p0q1 + 1))).1)), (.int .i64 (Tr.s (someT p0q0 ((IntKind.wrap .i64 (p1 - 1))).toNat ((p0q1 + 1))).1)), (.int .i64 (Tr.n (someT p0q0 ((IntKind.wrap .i64 (p1 - 1))).toNat ((p0q1 + 1))).1)), (.ints .i64 (Tr.xs (someT p0q0 ((IntKind.wrap .i64 (p1 - 1))).toNat ((p0q1 + 1))).1)), (.seq 5 (treeDs (Tr.ks (someT p0q0 ((IntKind.wrap .i64 (p1 - 1))).toNat ((p0q1 + 1))).1)))])]), false)]], [[(.ints .u8 p0q0), (.int .i64 (someT p0q0 ((IntKind.wrap .i64 (p1 - 1))).toNat ((((((someT p0q0 ((IntKind.wrap .i64 (p1 - 1))).toNat ((p0q1 + 1))).2) + 1)) + 1))).2)]])
  else
  none)
  else
  none))))
  else
  none)
  else
  none))
  else
  none)) := by kernel_rfl
theorem s0 (d : Nat) (fuel n0 : Nat) (p0q0 : List Int) (x0q0 : Int) (x0q2 : Int) (x0q6 : List Int) : L0 d fuel (n0 + 1) (t0 p0q0 x0q0 x0q2 x0q6) (k0 d  fuel) =
  (bif (decide ((x0q0 : Int) > 0)) then
  (bif rdOk p0q0 x0q2 then
  (bif fits (x0q6.length + ([(oneV p0q0 x0q2 smalL)] : List Int).length) 8 then
  L0 d fuel n0 (t0 p0q0 ((IntKind.wrap .i64 (x0q0 - 1))) ((x0q2 + 1)) ((x0q6 ++ [(oneV p0q0 x0q2 smalL)]))) (k0 d  fuel)
  else
  none)
  else
  none)
  else
  some ([.agg [((.int .i64 0), false), ((.int .i64 0), false), ((.int .i64 0), false), ((.ints .i64 x0q6), false), ((.seq 5 []), false)]], [[(.ints .u8 p0q0), (.int .i64 x0q2)]])) := by kernel_rfl
end spec_someTree
theorem spec_someTree.ok_of (d : Nat) (hX : ∀ E ∈ spec_someTree.X d, CallSpec Try.prog E) (h : ∀ (bs : List Int) (p : Int) (dep : Int), ((rdOk bs p && decide ((p : Int) + cB dep.toNat ≤ 3000000) && decide (1 ≤ dep) && decide (dep ≤ 4)) && decide (dep.toNat < d + 1)) = true → ∃ fuel, runF Try.prog (spec_someTree.X d) spec_someTree.I 0 fuel 34 Try.f34 [.box [(.ints .u8 bs), (.int .i64 p)], .d (.int .i64 dep)] = some ([.agg [((.int .i64 (Tr.k (someT bs dep.toNat p).1)), false), ((.int .i64 (Tr.s (someT bs dep.toNat p).1)), false), ((.int .i64 (Tr.n (someT bs dep.toNat p).1)), false), ((.ints .i64 (Tr.xs (someT bs dep.toNat p).1)), false), ((.seq 5 (treeDs (Tr.ks (someT bs dep.toNat p).1))), false)]], [[(.ints .u8 bs), (.int .i64 (someT bs dep.toNat p).2)]])) : CallSpec Try.prog (spec_someTree.Ed (d + 1)) :=
  callSpec_of (d := 0) hX (by kernel_rfl) spec_someTree.I_ok (by kernel_rfl) (by kernel_rfl) (by kernel_rfl) (fun _ _ _ _ h => by dsimp only [spec_someTree.Ed] at h; cases h) (fun xs hp => by
    dsimp only [spec_someTree.Ed] at hp ⊢
    split at hp
    · exact h _ _ _ hp
    · cases hp)
theorem spec_someTree.loop (d F : Nat) (bs : List Int) (p : Int) (N : Nat) (hN : N ≤ 3) (hF : N < F) (h : rdOk bs p = true) (hp : p + 10 ≤ 1000000000) :
    spec_someTree.L0 d F F (spec_someTree.t0 bs (N : Int) p []) (spec_someTree.k0 d F) = some ([.agg [(.int .i64 0, false), (.int .i64 0, false), (.int .i64 0, false), (.ints .i64 (numsFrom bs N p), false), (.seq 5 [], false)]], [[.ints .u8 bs, .int .i64 (p + N)]]) := by
  refine run_loop (N := N) (fun q j (st : Int × Int × List Int) => spec_someTree.L0 d F q (spec_someTree.t0 bs st.1 st.2.1 st.2.2) (spec_someTree.k0 d F)) (fun j st => st.1 = ((N - j : Nat) : Int) ∧ st.2.1 = p + ((j : Nat) : Int) ∧ numsFrom bs N p = st.2.2 ++ numsFrom bs (N - j) st.2.1 ∧ st.2.2.length = j) ?_ ?_ F 0 (_, p, []) (by omega) (by omega) ⟨rfl, by simp, rfl, rfl⟩
  · rintro q ⟨c, r, out⟩ ⟨e0, e1, e2, e3⟩
    simp only at e0 e1 e2 e3
    rw [Nat.sub_self, numsFrom, List.append_nil] at e2
    subst e0
    subst e1
    dsimp only
    rw [spec_someTree.s0, decide_eq_false (by omega), cond_false, e2]
  · rintro q j ⟨c, r, out⟩ hj ⟨e0, e1, e2, e3⟩
    simp only at e0 e1 e2 e3
    subst e0
    subst e1
    have r2 := rd_le (q := p + ((j : Nat) : Int)) h (by omega) (by omega)
    dsimp only
    rw [spec_someTree.s0, decide_eq_true (by omega), cond_true, r2, cond_true, fitsOk (by simp only [List.length_cons, List.length_nil]; omega), cond_true]
    have hw : IntKind.wrap .i64 (((N - j : Nat) : Int) - 1) = ((N - (j + 1) : Nat) : Int) := by rw [wS (by omega) (by omega)]; omega
    rw [hw]
    refine ⟨(((N - (j + 1) : Nat) : Int), p + ((j + 1 : Nat) : Int), out ++ [oneV bs (p + ((j : Nat) : Int)) smalL]), ⟨rfl, rfl, ?_, by simp [e3]⟩, ?_⟩
    · simp only
      rw [e2]
      obtain ⟨m, hm⟩ : ∃ m, N - j = m + 1 := ⟨N - j - 1, by omega⟩
      rw [hm, numsFrom, show N - (j + 1) = m by omega, List.append_assoc]
      have : p + ((j : Nat) : Int) + 1 = p + ((j + 1 : Nat) : Int) := by omega
      rw [this]
      rfl
    · have : p + ((j : Nat) : Int) + 1 = p + ((j + 1 : Nat) : Int) := by omega
      rw [this]

theorem spec_someTree.okd : ∀ d, CallSpec Try.prog (spec_someTree.Ed d)
  | 0 => spec_someTree.Ed_zero
  | d + 1 => spec_someTree.ok_of d (by simp [spec_someTree.X, spec_someTree.okd d, spec_reader_pick.ok, spec_reader_one.ok, spec_smallNum.ok]) fun bs p dep h => by
    simp only [Bool.and_eq_true, decide_eq_true_eq] at h
    obtain ⟨⟨⟨⟨hr, hp⟩, h1⟩, h4⟩, hd⟩ := h
    obtain ⟨m, rfl⟩ : ∃ m : Nat, dep = ((m + 1 : Nat) : Int) := ⟨dep.toNat - 1, by omega⟩
    rw [Int.toNat_natCast] at hd ⊢
    refine ⟨10, ?_⟩
    have rd : ∀ q : Int, p ≤ q → q ≤ 1000000000 → rdOk bs q = true := fun q a b => rd_le hr a (by omega)
    have leaf : ∀ q : Int, p ≤ q → q ≤ 999999000 → ∀ r : Tr × Int, leafT bs q = r →
        (bif rdOk bs q && decide ((2 : Int) ≤ 1048576) then
          (bif (pickV bs q 2 == 0) then
            (bif rdOk bs (q + 1) && decide ((4 : Int) ≤ 1048576) then some ([.agg [(.int .i64 1, false), (.int .i64 0, false), (.int .i64 (pickV bs (q + 1) 4), false), (.ints .i64 ([] : List Int), false), (.seq 5 [], false)]], [[.ints .u8 bs, .int .i64 (q + 1 + 1)]]) else none)
          else
            (bif rdOk bs (q + 1) && decide (0 < ([1, 1, 2, 3] : List Int).length) && decide (([1, 1, 2, 3] : List Int).length ≤ 1048576) then spec_someTree.L0 d 10 10 (spec_someTree.t0 bs (oneV bs (q + 1) [1, 1, 2, 3]) (q + 1 + 1) []) (spec_someTree.k0 d 10) else none))
        else none) = (some ([.agg [(.int .i64 (Tr.k r.1), false), (.int .i64 (Tr.s r.1), false), (.int .i64 (Tr.n r.1), false), (.ints .i64 (Tr.xs r.1), false), (.seq 5 (treeDs (Tr.ks r.1)), false)]], [[.ints .u8 bs, .int .i64 r.2]]) : Option Ret) := by
      rintro q a b r rfl
      have l1 := lenL_bd (rd (q + 1) (by omega) (by omega))
      rw [rd q a (by omega), rd (q + 1) (by omega) (by omega)]
      unfold leafT
      cases pickV bs q 2 == 0
      · rw [l1.1]
        rw [spec_someTree.loop d 10 bs (q + 1 + 1) (lenL bs (q + 1)) l1.2 (by omega) (rd _ (by omega) (by omega)) (by omega)]
        rfl
      · rfl
    have hc1 := cB_pos (m + 1)
    rw [Int.toNat_natCast] at hp
    cases m with
    | zero =>
      rw [spec_someTree.e, decide_eq_true (p := (((0 + 1 : Nat) : Int)) ≤ 1) (by omega), cond_true]
      exact leaf p (by omega) (by omega) _ rfl
    | succ m =>
    have hcB : cB (m + 1) ≤ 38 := by
      obtain rfl | rfl | rfl : m = 0 ∨ m = 1 ∨ m = 2 := by omega
      all_goals decide
    have hcS : cB (m + 1 + 1) = 2 * cB (m + 1) + 6 := by rw [cB]
    have hcP := cB_pos (m + 1)
    have hp0 := (rdOk_inv hr).1
    have hw : IntKind.wrap .i64 (((m + 1 + 1 : Nat) : Int) - 1) = ((m + 1 : Nat) : Int) := by rw [wS (by omega) (by omega)]; omega
    rw [spec_someTree.e, decide_eq_false (p := (((m + 1 + 1 : Nat) : Int)) ≤ 1) (by omega), cond_false, hw, Int.toNat_natCast, rd p (by omega) (by omega)]
    rw [show (true && decide ((5 : Int) ≤ 1048576)) = true from rfl, cond_true]
    rw [show m + 1 + 1 = m + 2 from rfl, someT_two]
    cases hp5 : pickV bs p 5 == 0 with
    | true =>
      rw [cond_true, cond_true]
      exact leaf (p + 1) (by omega) (by omega) _ rfl
    | false =>
    rw [cond_false, cond_false]
    obtain ⟨a1, a2, a3⟩ := someT_bd (m + 1) (rd (p + 1) (by omega) (by omega)) (by omega)
    generalize ha : someT bs (m + 1) (p + 1) = a at a1 a2 a3
    have hb := someT_bd (m + 1) (rd (a.2 + 1 + 1) (by omega) (by omega)) (by omega)
    generalize hbb : someT bs (m + 1) (a.2 + 1 + 1) = b at hb
    rw [rd (p + 1) (by omega) (by omega), decide_eq_true (p := p + 1 + cB (m + 1) ≤ 3000000) (by omega), decide_eq_true (p := 1 ≤ ((m + 1 : Nat) : Int)) (by omega), decide_eq_true (p := ((m + 1 : Nat) : Int) ≤ 4) (by omega), decide_eq_true (p := m + 1 < d) (by omega)]
    rw [Bool.and_self, Bool.and_self, Bool.and_self, Bool.and_self, cond_true, rd a.2 (by omega) (by omega), rd (a.2 + 1) (by omega) (by omega), rd (a.2 + 1 + 1) (by omega) (by omega), rd (a.2 + 1 + 1 + 1) (by omega) (by omega), rd (a.2 + 1 + 1 + 1 + 1) (by omega) (by omega)]
    rw [decide_eq_true (p := a.2 + 1 + 1 + cB (m + 1) ≤ 3000000) (by omega), treeD_eta, treeD_eta]
    unfold nodeTT
    cases pickV bs a.2 5 == 0 with
    | true => rfl
    | false =>
    cases pickV bs a.2 5 == 1 with
    | true => rfl
    | false =>
    cases pickV bs a.2 5 == 2 with
    | true => cases pickV bs (a.2 + 1 + 1) 2 == 0 <;> rfl
    | false => rfl
theorem spec_someTree.ok : CallSpec Try.prog spec_someTree.E := spec_someTree.E_of spec_someTree.okd

namespace spec_copyInts
noncomputable def E : Entry := ⟨38, false, false, fun | [.d (.ints .i64 xs)] => szB xs | _ => false, fun | [.d (.ints .i64 xs)] => ([.one ((.ints .i64 xs), true)], []) | _ => ([], []), fun _ => [], true, fun _ => none, none⟩
end spec_copyInts
namespace spec_copyInts
noncomputable def X : List Entry := []
noncomputable def I : List Inl := [⟨38, Try.f38, ⟨[], [], [], [], [], []⟩⟩]
theorem I_ok : ∀ i ∈ I, Try.prog.funcs[i.f]? = some i.fn ∧ (i.fn.name == "runtime.NumGoroutine") = false := by
  intro i hi
  simp only [I, List.mem_cons, List.not_mem_nil, or_false] at hi
  subst hi
  exact ⟨by kernel_rfl, by kernel_rfl⟩
theorem e (fuel : Nat) (p0 : List Int) : runF Try.prog X I 0 fuel 38 Try.f38 [.d (.ints .i64 p0)] =
  (bif fits (([] : List Int).length + p0.length) 8 then
  some ([.one ((.ints .i64 (([] : List Int) ++ p0)), true)], [])
  else
  none) := by kernel_rfl
end spec_copyInts
theorem spec_copyInts.ok_of (hX : ∀ E ∈ spec_copyInts.X, CallSpec Try.prog E) (h : ∀ (xs : List Int), (szB xs) = true → ∃ fuel, runF Try.prog spec_copyInts.X spec_copyInts.I 0 fuel 38 Try.f38 [.d (.ints .i64 xs)] = some ([.one ((.ints .i64 xs), true)], [])) : CallSpec Try.prog spec_copyInts.E :=
  callSpec_of (d := 0) hX (by kernel_rfl) spec_copyInts.I_ok (by kernel_rfl) (by kernel_rfl) (by kernel_rfl) (fun _ _ _ _ h => by dsimp only [spec_copyInts.E] at h; cases h) (fun xs hp => by
    dsimp only [spec_copyInts.E] at hp ⊢
    split at hp
    · exact h _ hp
    · cases hp)
theorem spec_copyInts.ok : CallSpec Try.prog spec_copyInts.E := spec_copyInts.ok_of (by simp [spec_copyInts.X]) fun xs h => ⟨0, by
  have hx := szB_le h
  rw [spec_copyInts.e, fitsOk (by simp; omega)]
  rfl⟩

namespace spec_reader_spoil
noncomputable def E : Entry := ⟨37, false, false, fun | [.box [(.ints .u8 bs), (.int .i64 p)], .d (.ints .i64 xs), .d (.int .i64 n)] => rdOk bs p && decide ((p : Int) ≤ 2000000) && decide ((xs : List Int).length ≤ 1000000) | _ => false, fun | [.box [(.ints .u8 bs), (.int .i64 p)], .d (.ints .i64 xs), .d (.int .i64 n)] => ([.one ((.ints .i64 (spV bs p xs n)), false)], [[(.ints .u8 bs), (.int .i64 (spP bs p xs))]]) | _ => ([], []), fun _ => [], false, fun _ => none, none⟩
end spec_reader_spoil
namespace spec_reader_spoil
noncomputable def X : List Entry := [spec_copyInts.E, spec_reader_pick.E, spec_reader_one.E]
noncomputable def I : List Inl := [⟨37, Try.f37, ⟨[9], [], [(7, [7]), (11, [7])], [], [37], []⟩⟩]
theorem I_ok : ∀ i ∈ I, Try.prog.funcs[i.f]? = some i.fn ∧ (i.fn.name == "runtime.NumGoroutine") = false := by
  intro i hi
  simp only [I, List.mem_cons, List.not_mem_nil, or_false] at hi
  subst hi
  exact ⟨by kernel_rfl, by kernel_rfl⟩
theorem e (fuel : Nat) (p0q0 : List Int) (p0q1 : Int) (p1 : List Int) (p2 : Int) : runF Try.prog X I 0 fuel 37 Try.f37 [.box [(.ints .u8 p0q0), (.int .i64 p0q1)], .d (.ints .i64 p1), .d (.int .i64 p2)] =
  (bif szB p1 then
  (bif rdOk p0q0 p0q1 && decide ((20 : Int) ≤ 1048576) then
  (bif (((pickV p0q0 p0q1 20) : Int) == 0) then
  (bif fits (p1.length + ([p2] : List Int).length) 8 then
  some ([.one ((.ints .i64 (p1 ++ [p2])), false)], [[(.ints .u8 p0q0), (.int .i64 (p0q1 + 1))]])
  else
  none)
  else
  (bif (((pickV p0q0 p0q1 20) : Int) == 1) then
  (bif (decide ((((p1.length : Nat) : Int) : Int) > 0)) then
  (cutEnds p1.length (some (.imm (.int .i64 1))) (none)).bind fun cq1 =>
  some ([.one ((.ints .i64 ((p1.drop cq1.1).take (cq1.2 - cq1.1))), false)], [[(.ints .u8 p0q0), (.int .i64 (p0q1 + 1))]])
  else
  some ([.one ((.ints .i64 p1), false)], [[(.ints .u8 p0q0), (.int .i64 (p0q1 + 1))]]))
  else
  (bif (((pickV p0q0 p0q1 20) : Int) == 2) then
  (bif (decide ((((p1.length : Nat) : Int) : Int) > 0)) then
  (bif rdOk p0q0 ((p0q1 + 1)) && decide (((((p1.length : Nat) : Int)) : Int) ≤ 1048576) then
  (bif rdOk p0q0 ((((p0q1 + 1)) + 1)) && decide (0 < ((([(-1), p2, 0, 1] : List Int)) : List Int).length) && decide (((([(-1), p2, 0, 1] : List Int)) : List Int).length ≤ 1048576) then
  (idx (pickV p0q0 ((p0q1 + 1)) (((p1.length : Nat) : Int))) p1.length).bind fun j2 =>
  (bif decide (j2 < p1.length) then
  some ([.one ((.ints .i64 (p1.set j2 (oneV p0q0 ((((p0q1 + 1)) + 1)) (([(-1), p2, 0, 1] : List Int))))), false)], [[(.ints .u8 p0q0), (.int .i64 (((((p0q1 + 1)) + 1)) + 1))]])
  else
  none)
  else
  none)
  else
  none)
  else
  some ([.one ((.ints .i64 p1), false)], [[(.ints .u8 p0q0), (.int .i64 (p0q1 + 1))]]))
  else
  some ([.one ((.ints .i64 p1), false)], [[(.ints .u8 p0q0), (.int .i64 (p0q1 + 1))]]))))
  else
  none)
  else
  none) := by kernel_rfl
end spec_reader_spoil
theorem spec_reader_spoil.ok_of (hX : ∀ E ∈ spec_reader_spoil.X, CallSpec Try.prog E) (h : ∀ (bs : List Int) (p : Int) (xs : List Int) (n : Int), (rdOk bs p && decide ((p : Int) ≤ 2000000) && decide ((xs : List Int).length ≤ 1000000)) = true → ∃ fuel, runF Try.prog spec_reader_spoil.X spec_reader_spoil.I 0 fuel 37 Try.f37 [.box [(.ints .u8 bs), (.int .i64 p)], .d (.ints .i64 xs), .d (.int .i64 n)] = some ([.one ((.ints .i64 (spV bs p xs n)), false)], [[(.ints .u8 bs), (.int .i64 (spP bs p xs))]])) : CallSpec Try.prog spec_reader_spoil.E :=
  callSpec_of (d := 0) hX (by kernel_rfl) spec_reader_spoil.I_ok (by kernel_rfl) (by kernel_rfl) (by kernel_rfl) (fun _ _ _ _ h => by dsimp only [spec_reader_spoil.E] at h; cases h) (fun xs hp => by
    dsimp only [spec_reader_spoil.E] at hp ⊢
    split at hp
    · exact h _ _ _ _ hp
    · cases hp)
theorem spec_reader_spoil.ok : CallSpec Try.prog spec_reader_spoil.E := spec_reader_spoil.ok_of (by simp [spec_reader_spoil.X, spec_copyInts.ok, spec_reader_pick.ok, spec_reader_one.ok]) fun bs p xs n h => ⟨0, by
  simp only [Bool.and_eq_true, decide_eq_true_eq] at h
  obtain ⟨⟨h1, h2⟩, h3⟩ := h
  have r1 := rd_le (q := p + 1) h1 (by omega) (by omega)
  have r2 := rd_le (q := p + 1 + 1) h1 (by omega) (by omega)
  rw [spec_reader_spoil.e, szB_of (by omega), h1]
  unfold spV spP
  simp only [Bool.true_and, cond_true]
  rw [decide_eq_true (p := (20 : Int) ≤ 1048576) (by omega), cond_true]
  cases pickV bs p 20 == 0 with
  | true => rw [fitsOk (by simp only [List.length_cons, List.length_nil]; omega)]; rfl
  | false =>
    cases pickV bs p 20 == 1 with
    | true =>
      simp only [cond_true, cond_false]
      by_cases h0 : xs.length = 0
      · have e := List.length_eq_zero_iff.mp h0
        subst e
        rfl
      · rw [decide_eq_true (p := ((xs.length : Nat) : Int) > 0) (by omega), cond_true, cut_one (by omega)]
        simp only [Option.bind_some]
        rw [drop_take]
    | false =>
      cases pickV bs p 20 == 2 with
      | false => rfl
      | true =>
        simp only [cond_true, cond_false]
        by_cases h0 : xs.length = 0
        · have e := List.length_eq_zero_iff.mp h0
          subst e
          rfl
        · have pb := pick_bd (n := ((xs.length : Nat) : Int)) r1 (by omega)
          have hi : idx (pickV bs (p + 1) ((xs.length : Nat) : Int)) xs.length = some (pickV bs (p + 1) ((xs.length : Nat) : Int)).toNat := by
            simp only [idx]
            rw [if_pos (by omega)]
          rw [decide_eq_true (p := ((xs.length : Nat) : Int) > 0) (by omega), cond_true, r1, r2, decide_eq_true (p := ((xs.length : Nat) : Int) ≤ 1048576) (by omega), hi, decide_eq_true (p := 0 < xs.length) (by omega)]
          simp only [Bool.true_and, cond_true, Option.bind_some]
          rw [decide_eq_true (p := (pickV bs (p + 1) ((xs.length : Nat) : Int)).toNat < xs.length) (by omega)]
          rfl⟩

namespace spec_anyTree_0
noncomputable def E : Entry := ⟨21, false, false, fun | [.box [(.ints .u8 bs), (.int .i64 p)]] => rdOk bs p && decide ((p : Int) ≤ 1000000) | _ => false, fun | [.box [(.ints .u8 bs), (.int .i64 p)]] => ([.agg [((.int .i64 (Tr.k (anyT bs p))), false), ((.int .i64 (Tr.s (anyT bs p))), false), ((.int .i64 (Tr.n (anyT bs p))), false), ((.ints .i64 (Tr.xs (anyT bs p))), false), ((.seq 5 (treeDs (Tr.ks (anyT bs p)))), false)]], [[(.ints .u8 bs), (.int .i64 (anyTP bs p))]]) | _ => ([], []), fun | [.box [(.ints .u8 bs), (.int .i64 p)]] => [(pickV bs (someT bs 4 p).2 24 == 4, ([.agg [((.int .i64 2), false), ((.int .i64 1), false), ((.int .i64 0), false), ((.ints .i64 nilI), true), ((.seq 5 (treeDs (Tr.ks (anyT bs p)))), false)]], [[(.ints .u8 bs), (.int .i64 (anyTP bs p))]]))] | _ => [], false, fun _ => none, none⟩
end spec_anyTree_0
namespace spec_anyTree_0
noncomputable def X : List Entry := [spec_someTree.E, spec_reader_pick.E, spec_reader_one.E, spec_copyInts.E, spec_reader_spoil.E]
noncomputable def I : List Inl := [⟨21, Try.f21, ⟨[26], [(1000013, [0, 1, 5, 6, 7, 8, 9, 10, 11, 12, 13, 14, 15, 16, 17, 18, 19, 20, 21, 22, 23, 24, 25, 26, 27, 28, 29, 30, 31, 32, 33, 34, 35, 36, 37, 38, 39, 40, 41, 42, 43, 44, 45, 46])], [(3000029, [28])], [], [12, 18, 34, 44], [29]⟩⟩]
theorem I_ok : ∀ i ∈ I, Try.prog.funcs[i.f]? = some i.fn ∧ (i.fn.name == "runtime.NumGoroutine") = false := by
  intro i hi
  simp only [I, List.mem_cons, List.not_mem_nil, or_false] at hi
  subst hi
  exact ⟨by kernel_rfl, by kernel_rfl⟩
theorem e (p0q0 : List Int) (p0q1 : Int) : runF Try.prog X I 0 8 21 Try.f21 [.box [(.ints .u8 p0q0), (.int .i64 p0q1)]] =
  (bif rdOk p0q0 p0q1 && decide ((p0q1 : Int) + cB (4 : Int).toNat ≤ 3000000) && decide (1 ≤ 4) && decide (4 ≤ 4) then
  (bif rdOk p0q0 ((someT p0q0 (4 : Int).toNat p0q1).2) && decide ((24 : Int) ≤ 1048576) then
  (bif (((pickV p0q0 ((someT p0q0 (4 : Int).toNat p0q1).2) 24) : Int) == 0) then
  (bif rdOk p0q0 ((((someT p0q0 (4 : Int).toNat p0q1).2) + 1)) && decide (0 < ((([12, (-1), 9] : List Int)) : List Int).length) && decide (((([12, (-1), 9] : List Int)) : List Int).length ≤ 1048576) then
  some ([.agg [((.int .i64 (Tr.k (someT p0q0 (4 : Int).toNat p0q1).1)), false), ((.int .i64 (oneV p0q0 ((((someT p0q0 (4 : Int).toNat p0q1).2) + 1)) (([12, (-1), 9] : List Int)))), false), ((.int .i64 (Tr.n (someT p0q0 (4 : Int).toNat p0q1).1)), false), ((.ints .i64 (Tr.xs (someT p0q0 (4 : Int).toNat p0q1).1)), false), ((.seq 5 (treeDs (Tr.ks (someT p0q0 (4 : Int).toNat p0q1).1))), false)]], [[(.ints .u8 p0q0), (.int .i64 (((((someT p0q0 (4 : Int).toNat p0q1).2) + 1)) + 1))]])
  else
  none)
  else
  (bif (((pickV p0q0 ((someT p0q0 (4 : Int).toNat p0q1).2) 24) : Int) == 1) then
  (bif rdOk p0q0 ((((someT p0q0 (4 : Int).toNat p0q1).2) + 1)) && decide (0 < ((([4, 1, (-1)] : List Int)) : List Int).length) && decide (((([4, 1, (-1)] : List Int)) : List Int).length ≤ 1048576) then
  some ([.agg [((.int .i64 (Tr.k (someT p0q0 (4 : Int).toNat p0q1).1)), false), ((.int .i64 (Tr.s (someT p0q0 (4 : Int).toNat p0q1).1)), false), ((.int .i64 (oneV p0q0 ((((someT p0q0 (4 : Int).toNat p0q1).2) + 1)) (([4, 1, (-1)] : List Int)))), false), ((.ints .i64 (Tr.xs (someT p0q0 (4 : Int).toNat p0q1).1)), false), ((.seq 5 (treeDs (Tr.ks (someT p0q0 (4 : Int).toNat p0q1).1))), false)]], [[(.ints .u8 p0q0), (.int .i64 (((((someT p0q0 (4 : Int).toNat p0q1).2) + 1)) + 1))]])
  else
  none)
  else
  (bif (((pickV p0q0 ((someT p0q0 (4 : Int).toNat p0q1).2) 24) : Int) == 2) then
  (bif szB ((Tr.xs (someT p0q0 (4 : Int).toNat p0q1).1)) then
  (bif fits (((Tr.xs (someT p0q0 (4 : Int).toNat p0q1).1)).length + ([1] : List Int).length) 8 then
  (bif rdOk p0q0 ((((someT p0q0 (4 : Int).toNat p0q1).2) + 1)) && decide ((((((someT p0q0 (4 : Int).toNat p0q1).2) + 1)) : Int) ≤ 2000000) && decide ((((((Tr.xs (someT p0q0 (4 : Int).toNat p0q1).1)) ++ [1])) : List Int).length ≤ 1000000) then
  some ([.agg [((.int .i64 (Tr.k (someT p0q0 (4 : Int).toNat p0q1).1)), false), ((.int .i64 (Tr.s (someT p0q0 (4 : Int).toNat p0q1).1)), false), ((.int .i64 (Tr.n (someT p0q0 (4 : Int).toNat p0q1).1)), false), ((.ints .i64 (spV p0q0 ((((someT p0q0 (4 : Int).toNat p0q1).2) + 1)) ((((Tr.xs (someT p0q0 (4 : Int).toNat p0q1).1)) ++ [1])) 1000001)), false), ((.seq 5 (treeDs (Tr.ks (someT p0q0 (4 : Int).toNat p0q1).1))), false)]], [[(.ints .u8 p0q0), (.int .i64 (spP p0q0 ((((someT p0q0 (4 : Int).toNat p0q1).2) + 1)) ((((Tr.xs (someT p0q0 (4 : Int).toNat p0q1).1)) ++ [1]))))]])
  else
  none)
  else
  none)
  else
  none)
  else
  (bif (((pickV p0q0 ((someT p0q0 (4 : Int).toNat p0q1).2) 24) : Int) == 3) then
  (bif rdOk p0q0 ((((someT p0q0 (4 : Int).toNat p0q1).2) + 1)) && decide (0 < ((([(-1), 5, 2] : List Int)) : List Int).length) && decide (((([(-1), 5, 2] : List Int)) : List Int).length ≤ 1048576) then
  some ([.agg [((.int .i64 (oneV p0q0 ((((someT p0q0 (4 : Int).toNat p0q1).2) + 1)) (([(-1), 5, 2] : List Int)))), false), ((.int .i64 (Tr.s (someT p0q0 (4 : Int).toNat p0q1).1)), false), ((.int .i64 (Tr.n (someT p0q0 (4 : Int).toNat p0q1).1)), false), ((.ints .i64 (Tr.xs (someT p0q0 (4 : Int).toNat p0q1).1)), false), ((.seq 5 (treeDs (Tr.ks (someT p0q0 (4 : Int).toNat p0q1).1))), false)]], [[(.ints .u8 p0q0), (.int .i64 (((((someT p0q0 (4 : Int).toNat p0q1).2) + 1)) + 1))]])
  else
  none)
  else
  (bif (((pickV p0q0 ((someT p0q0 (4 : Int).toNat p0q1).2) 24) : Int) == 4) then
  some ([.agg [((.int .i64 2), false), ((.int .i64 1), false), ((.int .i64 0), false), ((.ints .i64 []), true), ((.seq 5 [(.agg [(.int .i64 2), (.int .i64 1), (.int .i64 0), (.ints .i64 ([] : List Int)), (.seq 5 [(.agg [(.int .i64 2), (.int .i64 1), (.int .i64 0), (.ints .i64 ([] : List Int)), (.seq 5 [(.agg [(.int .i64 2), (.int .i64 1), (.int .i64 0), (.ints .i64 ([] : List Int)), (.seq 5 [(.agg [(.int .i64 2), (.int .i64 1), (.int .i64 0), (.ints .i64 ([] : List Int)), (.seq 5 [(.agg [(.int .i64 2), (.int .i64 1), (.int .i64 0), (.ints .i64 ([] : List Int)), (.seq 5 [(.agg [(.int .i64 (Tr.k (someT p0q0 (4 : Int).toNat p0q1).1)), (.int .i64 (Tr.s (someT p0q0 (4 : Int).toNat p0q1).1)), (.int .i64 (Tr.n (someT p0q0 (4 : Int).toNat p0q1).1)), (.ints .i64 (Tr.xs (someT p0q0 (4 : Int).toNat p0q1).1)), (.seq 5 (treeDs (Tr.ks (someT p0q0 (4 : Int).toNat p0q1).1)))])])])])])])])])])])])]), false)]], [[(.ints .u8 p0q0), (.int .i64 (((someT p0q0 (4 : Int).toNat p0q1).2) + 1))]])
  else
  some ([.agg [((.int .i64 (Tr.k (someT p0q0 (4 : Int).toNat p0q1).1)), false), ((.int .i64 (Tr.s (someT p0q0 (4 : Int).toNat p0q1).1)), false), ((.int .i64 (Tr.n (someT p0q0 (4 : Int).toNat p0q1).1)), false), ((.ints .i64 (Tr.xs (someT p0q0 (4 : Int).toNat p0q1).1)), false), ((.seq 5 (treeDs (Tr.ks (someT p0q0 (4 : Int).toNat p0q1).1))), false)]], [[(.ints .u8 p0q0), (.int .i64 (((someT p0q0 (4 : Int).toNat p0q1).2) + 1))]]))))))
  else
  none)
  else
  none) := by kernel_rfl
end spec_anyTree_0
theorem spec_anyTree_0.ok_of (hX : ∀ E ∈ spec_anyTree_0.X, CallSpec Try.prog E) (h : ∀ (bs : List Int) (p : Int), (rdOk bs p && decide ((p : Int) ≤ 1000000)) = true → ∃ fuel, runF Try.prog spec_anyTree_0.X spec_anyTree_0.I 0 fuel 21 Try.f21 [.box [(.ints .u8 bs), (.int .i64 p)]] = some (bif pickV bs (someT bs 4 p).2 24 == 4 then ([.agg [((.int .i64 2), false), ((.int .i64 1), false), ((.int .i64 0), false), ((.ints .i64 nilI), true), ((.seq 5 (treeDs (Tr.ks (anyT bs p)))), false)]], [[(.ints .u8 bs), (.int .i64 (anyTP bs p))]]) else ([.agg [((.int .i64 (Tr.k (anyT bs p))), false), ((.int .i64 (Tr.s (anyT bs p))), false), ((.int .i64 (Tr.n (anyT bs p))), false), ((.ints .i64 (Tr.xs (anyT bs p))), false), ((.seq 5 (treeDs (Tr.ks (anyT bs p)))), false)]], [[(.ints .u8 bs), (.int .i64 (anyTP bs p))]]))) : CallSpec Try.prog spec_anyTree_0.E :=
  callSpec_of (d := 0) hX (by kernel_rfl) spec_anyTree_0.I_ok (by kernel_rfl) (by kernel_rfl) (by kernel_rfl) (fun _ _ _ _ h => by dsimp only [spec_anyTree_0.E] at h; cases h) (fun xs hp => by
    dsimp only [spec_anyTree_0.E] at hp ⊢
    split at hp
    · exact h _ _ hp
    · cases hp)
theorem spec_anyTree_0.ok : CallSpec Try.prog spec_anyTree_0.E := spec_anyTree_0.ok_of (by simp [spec_anyTree_0.X, spec_someTree.ok, spec_reader_pick.ok, spec_reader_one.ok, spec_copyInts.ok, spec_reader_spoil.ok]) fun bs p h => ⟨8, by
  simp only [Bool.and_eq_true, decide_eq_true_eq] at h
  obtain ⟨hr, hp⟩ := h
  have rd : ∀ q : Int, p ≤ q → q ≤ 1000000000 → rdOk bs q = true := fun q a b => rd_le hr a (by omega)
  have hc4 : cB 4 = 82 := rfl
  obtain ⟨a1, a2, a3⟩ := someT_bd 4 hr (by omega)
  rw [spec_anyTree_0.e]
  unfold anyT anyTP
  dsimp only
  rw [show (4 : Int).toNat = 4 from rfl]
  generalize ha : someT bs 4 p = a at a1 a2 a3
  have hL : (a.1.xs ++ [1]).length ≤ 1000000 := by simp; omega
  have hF : fits (a.1.xs.length + ([1] : List Int).length) 8 = true := fitsOk (by simp only [List.length_cons, List.length_nil]; omega)
  rw [rd p (by omega) (by omega), rd a.2 (by omega) (by omega), rd (a.2 + 1) (by omega) (by omega), hc4, decide_eq_true (p := p + 82 ≤ 3000000) (by omega)]
  rw [szB_of (xs := a.1.xs) (by omega), hF, decide_eq_true (p := a.2 + 1 ≤ 2000000) (by omega), decide_eq_true hL, treeD_eta]
  generalize pickV bs a.2 24 = c
  by_cases h0 : c = 0
  · subst h0; rfl
  by_cases h1 : c = 1
  · subst h1; rfl
  by_cases h2 : c = 2
  · subst h2; rfl
  by_cases h3 : c = 3
  · subst h3; rfl
  by_cases h4 : c = 4
  · subst h4; rfl
  rw [beq_eq_false_iff_ne.2 h0, beq_eq_false_iff_ne.2 h1, beq_eq_false_iff_ne.2 h2, beq_eq_false_iff_ne.2 h3, beq_eq_false_iff_ne.2 h4]
  rfl⟩

namespace spec_anyTree
noncomputable def E : Entry := ⟨21, false, false, fun | [.box [(.ints .u8 bs), (.int .i64 p)]] => rdOk bs p && decide ((p : Int) ≤ 1000000) | _ => false, fun | [.box [(.ints .u8 bs), (.int .i64 p)]] => ([.agg [((.int .i64 (Tr.k (anyT bs p))), false), ((.int .i64 (Tr.s (anyT bs p))), false), ((.int .i64 (Tr.n (anyT bs p))), false), ((.ints .i64 (Tr.xs (anyT bs p))), false), ((.seq 5 (treeDs (Tr.ks (anyT bs p)))), false)]], [[(.ints .u8 bs), (.int .i64 (anyTP bs p))]]) | _ => ([], []), fun _ => [], false, fun _ => none, none⟩
end spec_anyTree
theorem spec_anyTree.ok : CallSpec Try.prog spec_anyTree.E := CallSpec.le spec_anyTree_0.ok rfl (fun _ _ _ _ h => by dsimp only [spec_anyTree.E] at h; cases h) fun xs h => by
  dsimp only [spec_anyTree.E] at h
  split at h
  case h_2 => cases h
  rename_i bs p
  refine ⟨h, ?_⟩
  simp only [Entry.r, spec_anyTree.E, spec_anyTree_0.E, pickR]
  cases hv : pickV bs (someT bs 4 p).2 24 == 4 with
  | false => exact ⟨.same .nil, rfl⟩
  | true =>
    have h4 : pickV bs (someT bs 4 p).2 24 = 4 := by simpa using hv
    have e : anyT bs p = wrap1 (wrap1 (wrap1 (wrap1 (wrap1 (wrap1 (someT bs 4 p).1))))) := by unfold anyT; dsimp only; rw [h4]; rfl
    rw [e]
    refine ⟨.agg rfl (fun i h1 h2 => ?_) .nil, rfl⟩
    match i, h1 with
    | 0, _ | 1, _ | 2, _ | 4, _ => exact .inl rfl
    | 3, _ => exact .inr (.inr (.inr (.inl ⟨.i64, rfl, rfl⟩)))

namespace spec_DrawTreeTokens
noncomputable def E : Entry := ⟨17, false, false, fun | [.d (.ints .u8 bs)] => bytesB bs | _ => false, fun | [.d (.ints .u8 bs)] => ([.agg [((.int .i64 (Tr.k (anyT (cutC bs) 0))), false), ((.int .i64 (Tr.s (anyT (cutC bs) 0))), false), ((.int .i64 (Tr.n (anyT (cutC bs) 0))), false), ((.ints .i64 (Tr.xs (anyT (cutC bs) 0))), false), ((.seq 5 (treeDs (Tr.ks (anyT (cutC bs) 0)))), false)]], []) | _ => ([], []), fun _ => [], true, fun _ => none, none⟩
end spec_DrawTreeTokens
namespace spec_DrawTreeTokens
noncomputable def X : List Entry := [spec_newReader.E, spec_anyTree.E]
noncomputable def I : List Inl := [⟨17, Try.f17, ⟨[5], [], [], [], [], []⟩⟩]
theorem I_ok : ∀ i ∈ I, Try.prog.funcs[i.f]? = some i.fn ∧ (i.fn.name == "runtime.NumGoroutine") = false := by
  intro i hi
  simp only [I, List.mem_cons, List.not_mem_nil, or_false] at hi
  subst hi
  exact ⟨by kernel_rfl, by kernel_rfl⟩
theorem e (fuel : Nat) (p0 : List Int) : runF Try.prog X I 0 fuel 17 Try.f17 [.d (.ints .u8 p0)] =
  (bif rdOk ((cutC p0)) 0 && decide ((0 : Int) ≤ 1000000) then
  some ([.agg [((.int .i64 (Tr.k (anyT ((cutC p0)) 0))), false), ((.int .i64 (Tr.s (anyT ((cutC p0)) 0))), false), ((.int .i64 (Tr.n (anyT ((cutC p0)) 0))), false), ((.ints .i64 (Tr.xs (anyT ((cutC p0)) 0))), false), ((.seq 5 (treeDs (Tr.ks (anyT ((cutC p0)) 0)))), false)]], [])
  else
  none) := by kernel_rfl
end spec_DrawTreeTokens
theorem spec_DrawTreeTokens.ok_of (hX : ∀ E ∈ spec_DrawTreeTokens.X, CallSpec Try.prog E) (h : ∀ (bs : List Int), (bytesB bs) = true → ∃ fuel, runF Try.prog spec_DrawTreeTokens.X spec_DrawTreeTokens.I 0 fuel 17 Try.f17 [.d (.ints .u8 bs)] = some ([.agg [((.int .i64 (Tr.k (anyT (cutC bs) 0))), false), ((.int .i64 (Tr.s (anyT (cutC bs) 0))), false), ((.int .i64 (Tr.n (anyT (cutC bs) 0))), false), ((.ints .i64 (Tr.xs (anyT (cutC bs) 0))), false), ((.seq 5 (treeDs (Tr.ks (anyT (cutC bs) 0)))), false)]], [])) : CallSpec Try.prog spec_DrawTreeTokens.E :=
  callSpec_of (d := 0) hX (by kernel_rfl) spec_DrawTreeTokens.I_ok (by kernel_rfl) (by kernel_rfl) (by kernel_rfl) (fun _ _ _ _ h => by dsimp only [spec_DrawTreeTokens.E] at h; cases h) (fun xs hp => by
    dsimp only [spec_DrawTreeTokens.E] at hp ⊢
    split at hp
    · exact h _ hp
    · cases hp)
theorem spec_DrawTreeTokens.ok : CallSpec Try.prog spec_DrawTreeTokens.E := spec_DrawTreeTokens.ok_of (by simp [spec_DrawTreeTokens.X, spec_newReader.ok, spec_anyTree.ok]) fun bs h => ⟨0, by
  have r0 : rdOk (cutC bs) 0 = true := cut_ok h (by decide) (by decide)
  rw [spec_DrawTreeTokens.e, r0]
  rfl⟩

namespace impl_kidsOf
noncomputable def E : Entry := ⟨39, true, false, fun | [.d (.int .i64 k)] => true | _ => false, fun | [.d (.int .i64 k)] => ([.one ((.int .i64 ((kidN k : Nat) : Int)), false)], []) | _ => ([], []), fun _ => [], false, fun _ => none, none⟩
end impl_kidsOf
namespace impl_kidsOf
noncomputable def X : List Entry := []
noncomputable def I : List Inl := [⟨39, Try.f39, ⟨[], [], [], [], [], []⟩⟩]
theorem I_ok : ∀ i ∈ I, Try.prog.funcs[i.f]? = some i.fn ∧ (i.fn.name == "runtime.NumGoroutine") = false := by
  intro i hi
  simp only [I, List.mem_cons, List.not_mem_nil, or_false] at hi
  subst hi
  exact ⟨by kernel_rfl, by kernel_rfl⟩
theorem e (fuel : Nat) (p0 : Int) : runF Try.prog X I 0 fuel 39 Try.f39 [.d (.int .i64 p0)] =
  (bif ((p0 : Int) == 2) then
  some ([.one ((.int .i64 1), false)], [])
  else
  (bif ((p0 : Int) == 4) then
  some ([.one ((.int .i64 1), false)], [])
  else
  (bif ((p0 : Int) == 3) then
  some ([.one ((.int .i64 2), false)], [])
  else
  some ([.one ((.int .i64 0), false)], [])))) := by kernel_rfl
end impl_kidsOf
theorem impl_kidsOf.ok_of (hX : ∀ E ∈ impl_kidsOf.X, CallSpec Try.prog E) (h : ∀ (k : Int), (true) = true → ∃ fuel, runF Try.prog impl_kidsOf.X impl_kidsOf.I 0 fuel 39 Try.f39 [.d (.int .i64 k)] = some ([.one ((.int .i64 ((kidN k : Nat) : Int)), false)], [])) : CallSpec Try.prog impl_kidsOf.E :=
  callSpec_of (d := 0) hX (by kernel_rfl) impl_kidsOf.I_ok (by kernel_rfl) (by kernel_rfl) (by kernel_rfl) (fun _ _ _ _ h => by dsimp only [impl_kidsOf.E] at h; cases h) (fun xs hp => by
    dsimp only [impl_kidsOf.E] at hp ⊢
    split at hp
    · exact h _ hp
    · cases hp)
theorem impl_kidsOf.ok : CallSpec Try.prog impl_kidsOf.E := impl_kidsOf.ok_of (by simp [impl_kidsOf.X]) fun k _ => ⟨0, by
  rw [impl_kidsOf.e]
  unfold kidN
  by_cases h1 : k = 2
  · subst h1; rfl
  by_cases h2 : k = 4
  · subst h2; rfl
  by_cases h3 : k = 3
  · subst h3; rfl
  rw [beq_eq_false_iff_ne.2 h1, beq_eq_false_iff_ne.2 h2, beq_eq_false_iff_ne.2 h3, if_neg (by omega), if_neg h3]
  rfl⟩

namespace impl_isBare
noncomputable def E : Entry := ⟨40, true, false, fun | [.d (.agg [(.int .i64 k), (.int .i64 s), (.int .i64 n), (.ints .i64 xs), (.seq 5 ks)])] => treesB ks | _ => false, fun | [.d (.agg [(.int .i64 k), (.int .i64 s), (.int .i64 n), (.ints .i64 xs), (.seq 5 ks)])] => ([.one ((.bool (bareT k s n xs)), false)], []) | _ => ([], []), fun _ => [], false, fun _ => none, none⟩
end impl_isBare
namespace impl_isBare
noncomputable def X : List Entry := []
noncomputable def I : List Inl := [⟨40, Try.f40, ⟨[], [], [], [], [], []⟩⟩]
theorem I_ok : ∀ i ∈ I, Try.prog.funcs[i.f]? = some i.fn ∧ (i.fn.name == "runtime.NumGoroutine") = false := by
  intro i hi
  simp only [I, List.mem_cons, List.not_mem_nil, or_false] at hi
  subst hi
  exact ⟨by kernel_rfl, by kernel_rfl⟩
theorem e (fuel : Nat) (p0q0 : Int) (p0q1 : Int) (p0q2 : Int) (p0q3 : List Int) (p0q4 : List D) : runF Try.prog X I 0 fuel 40 Try.f40 [.d (.agg [(.int .i64 p0q0), (.int .i64 p0q1), (.int .i64 p0q2), (.ints .i64 p0q3), (.seq 5 p0q4)])] =
  (bif ((p0q0 : Int) == 0) then
  (bif ((p0q1 : Int) == 0) then
  some ([.one ((.bool ((p0q2 : Int) == 0)), false)], [])
  else
  some ([.one ((.bool false), false)], []))
  else
  (bif ((p0q0 : Int) == 1) then
  (bif ((p0q1 : Int) == 0) then
  some ([.one ((.bool ((((p0q3.length : Nat) : Int) : Int) == 0)), false)], [])
  else
  some ([.one ((.bool false), false)], []))
  else
  (bif ((p0q2 : Int) == 0) then
  some ([.one ((.bool ((((p0q3.length : Nat) : Int) : Int) == 0)), false)], [])
  else
  some ([.one ((.bool false), false)], [])))) := by kernel_rfl
end impl_isBare
theorem impl_isBare.ok_of (hX : ∀ E ∈ impl_isBare.X, CallSpec Try.prog E) (h : ∀ (k : Int) (s : Int) (n : Int) (xs : List Int) (ks : List D), (treesB ks) = true → ∃ fuel, runF Try.prog impl_isBare.X impl_isBare.I 0 fuel 40 Try.f40 [.d (.agg [(.int .i64 k), (.int .i64 s), (.int .i64 n), (.ints .i64 xs), (.seq 5 ks)])] = some ([.one ((.bool (bareT k s n xs)), false)], [])) : CallSpec Try.prog impl_isBare.E :=
  callSpec_of (d := 0) hX (by kernel_rfl) impl_isBare.I_ok (by kernel_rfl) (by kernel_rfl) (by kernel_rfl) (fun _ _ _ _ h => by dsimp only [impl_isBare.E] at h; cases h) (fun xs hp => by
    dsimp only [impl_isBare.E] at hp ⊢
    split at hp
    · exact h _ _ _ _ _ hp
    · cases hp)
theorem impl_isBare.ok : CallSpec Try.prog impl_isBare.E := impl_isBare.ok_of (by simp [impl_isBare.X]) fun k s n xs ks _ => ⟨0, by
  rw [impl_isBare.e]
  unfold bareT
  have e : (((xs.length : Nat) : Int) == 0) = decide (xs.length = 0) := by
    by_cases h : xs.length = 0 <;> simp [h]
  rw [e]
  cases k == 0 <;> cases k == 1 <;> cases s == 0 <;> cases n == 0 <;> rfl⟩

namespace impl_isNumber
noncomputable def E : Entry := ⟨55, true, false, fun | [.d (.int .i64 v)] => true | _ => false, fun | [.d (.int .i64 v)] => ([.one ((.bool (numB v)), false)], []) | _ => ([], []), fun _ => [], false, fun _ => none, none⟩
end impl_isNumber
namespace impl_isNumber
noncomputable def X : List Entry := []
noncomputable def I : List Inl := [⟨55, Try.f55, ⟨[], [], [], [], [], []⟩⟩]
theorem I_ok : ∀ i ∈ I, Try.prog.funcs[i.f]? = some i.fn ∧ (i.fn.name == "runtime.NumGoroutine") = false := by
  intro i hi
  simp only [I, List.mem_cons, List.not_mem_nil, or_false] at hi
  subst hi
  exact ⟨by kernel_rfl, by kernel_rfl⟩
theorem e (fuel : Nat) (p0 : Int) : runF Try.prog X I 0 fuel 55 Try.f55 [.d (.int .i64 p0)] =
  (bif (decide (((-1000000) : Int) ≤ p0)) then
  some ([.one ((.bool (decide ((p0 : Int) ≤ 1000000))), false)], [])
  else
  some ([.one ((.bool false), false)], [])) := by kernel_rfl
end impl_isNumber
theorem impl_isNumber.ok_of (hX : ∀ E ∈ impl_isNumber.X, CallSpec Try.prog E) (h : ∀ (v : Int), (true) = true → ∃ fuel, runF Try.prog impl_isNumber.X impl_isNumber.I 0 fuel 55 Try.f55 [.d (.int .i64 v)] = some ([.one ((.bool (numB v)), false)], [])) : CallSpec Try.prog impl_isNumber.E :=
  callSpec_of (d := 0) hX (by kernel_rfl) impl_isNumber.I_ok (by kernel_rfl) (by kernel_rfl) (by kernel_rfl) (fun _ _ _ _ h => by dsimp only [impl_isNumber.E] at h; cases h) (fun xs hp => by
    dsimp only [impl_isNumber.E] at hp ⊢
    split at hp
    · exact h _ hp
    · cases hp)
theorem impl_isNumber.ok : CallSpec Try.prog impl_isNumber.E := impl_isNumber.ok_of (by simp [impl_isNumber.X]) fun v _ => ⟨0, by
  rw [impl_isNumber.e]
  unfold numB
  cases decide (-1000000 ≤ v) <;> rfl⟩

namespace impl_numsNode_fits_1
noncomputable def E : Entry := ⟨87, true, false, fun | [.d (.int .i64 n)] => true | _ => false, fun | [.d (.int .i64 n)] => ([.one ((.bool (!(numB n))), false)], []) | _ => ([], []), fun _ => [], false, fun _ => none, none⟩
end impl_numsNode_fits_1
namespace impl_numsNode_fits_1
noncomputable def X : List Entry := [impl_isNumber.E]
noncomputable def I : List Inl := [⟨87, Try.f87, ⟨[], [], [], [], [], []⟩⟩]
theorem I_ok : ∀ i ∈ I, Try.prog.funcs[i.f]? = some i.fn ∧ (i.fn.name == "runtime.NumGoroutine") = false := by
  intro i hi
  simp only [I, List.mem_cons, List.not_mem_nil, or_false] at hi
  subst hi
  exact ⟨by kernel_rfl, by kernel_rfl⟩
theorem e (fuel : Nat) (p0 : Int) : runF Try.prog X I 0 fuel 87 Try.f87 [.d (.int .i64 p0)] =
  some ([.one ((.bool (!(numB p0))), false)], []) := by kernel_rfl
end impl_numsNode_fits_1
theorem impl_numsNode_fits_1.ok_of (hX : ∀ E ∈ impl_numsNode_fits_1.X, CallSpec Try.prog E) (h : ∀ (n : Int), (true) = true → ∃ fuel, runF Try.prog impl_numsNode_fits_1.X impl_numsNode_fits_1.I 0 fuel 87 Try.f87 [.d (.int .i64 n)] = some ([.one ((.bool (!(numB n))), false)], [])) : CallSpec Try.prog impl_numsNode_fits_1.E :=
  callSpec_of (d := 0) hX (by kernel_rfl) impl_numsNode_fits_1.I_ok (by kernel_rfl) (by kernel_rfl) (by kernel_rfl) (fun _ _ _ _ h => by dsimp only [impl_numsNode_fits_1.E] at h; cases h) (fun xs hp => by
    dsimp only [impl_numsNode_fits_1.E] at hp ⊢
    split at hp
    · exact h _ hp
    · cases hp)
theorem impl_numsNode_fits_1.ok : CallSpec Try.prog impl_numsNode_fits_1.E := impl_numsNode_fits_1.ok_of (by simp [impl_numsNode_fits_1.X, impl_isNumber.ok]) fun n _ => ⟨0, by rw [impl_numsNode_fits_1.e]⟩

namespace slices_IndexFunc_int_int
noncomputable def E : Entry := ⟨89, true, false, fun | [.d (.ints .i64 xs), .d (.clo 87 [])] => decide (xs.length < 9223372036854775808) | _ => false, fun | [.d (.ints .i64 xs), .d (.clo 87 [])] => ([.one ((.int .i64 (badI xs)), false)], []) | _ => ([], []), fun _ => [], false, fun _ => none, none⟩
end slices_IndexFunc_int_int
namespace slices_IndexFunc_int_int
noncomputable def X : List Entry := [impl_numsNode_fits_1.E]
noncomputable def I : List Inl := [⟨89, Try.f89, ⟨[], [(1000002, [2, 3, 4, 5, 6, 9, 10, 11, 12, 13, 14, 15, 16, 17, 18])], [], [], [], []⟩⟩]
theorem I_ok : ∀ i ∈ I, Try.prog.funcs[i.f]? = some i.fn ∧ (i.fn.name == "runtime.NumGoroutine") = false := by
  intro i hi
  simp only [I, List.mem_cons, List.not_mem_nil, or_false] at hi
  subst hi
  exact ⟨by kernel_rfl, by kernel_rfl⟩
noncomputable abbrev L0 (fuel n : Nat) (s : St) (k : Kont) := lAt Try.prog X I fuel true 0 false 89 (bodyOf Try.f89) [1, 0, 1, 0] n s k
noncomputable abbrev k0  (fuel : Nat) : Kont := (kAt Try.prog X I fuel true 0 false 89 (bodyOf Try.f89) [1, 0, 1, 0] [] (endK Try.prog Try.f89))
noncomputable def t0 (p0 : List Int) (x0q2 : Int) : St := ⟨[(.imm (.ints .i64 p0)), (.imm (.clo 87 [])), .dead, .dead, .dead, .dead, .dead, (.imm (.int .i64 ((p0.length : Nat) : Int))), (.imm (.int .i64 x0q2)), .dead, .dead, .dead, .dead, .dead, .dead, .dead, .dead, .dead, .dead], hOf [], [], []⟩
theorem e (fuel : Nat) (p0 : List Int) : runF Try.prog X I 0 fuel 89 Try.f89 [.d (.ints .i64 p0), .d (.clo 87 [])] =
  L0 fuel fuel (t0 p0 0) (k0  fuel) := by kernel_rfl
theorem s0 (fuel n0 : Nat) (p0 : List Int) (x0q2 : Int) : L0 fuel (n0 + 1) (t0 p0 x0q2) (k0  fuel) =
  (bif (decide ((x0q2 : Int) < ((p0.length : Nat) : Int))) then
  (idx x0q2 p0.length).bind fun j5 =>
  (p0[j5]?).bind fun v6 =>
  (bif (!(numB v6)) then
  some ([.one ((.int .i64 x0q2), false)], [])
  else
  L0 fuel n0 (t0 p0 ((IntKind.wrap .i64 (x0q2 + 1)))) (k0  fuel))
  else
  some ([.one ((.int .i64 (-1)), false)], [])) := by kernel_rfl
end slices_IndexFunc_int_int
theorem slices_IndexFunc_int_int.ok_of (hX : ∀ E ∈ slices_IndexFunc_int_int.X, CallSpec Try.prog E) (h : ∀ (xs : List Int), (decide (xs.length < 9223372036854775808)) = true → ∃ fuel, runF Try.prog slices_IndexFunc_int_int.X slices_IndexFunc_int_int.I 0 fuel 89 Try.f89 [.d (.ints .i64 xs), .d (.clo 87 [])] = some ([.one ((.int .i64 (badI xs)), false)], [])) : CallSpec Try.prog slices_IndexFunc_int_int.E :=
  callSpec_of (d := 0) hX (by kernel_rfl) slices_IndexFunc_int_int.I_ok (by kernel_rfl) (by kernel_rfl) (by kernel_rfl) (fun _ _ _ _ h => by dsimp only [slices_IndexFunc_int_int.E] at h; cases h) (fun xs hp => by
    dsimp only [slices_IndexFunc_int_int.E] at hp ⊢
    split at hp
    · exact h _ hp
    · cases hp)
theorem slices_IndexFunc_int_int.ok : CallSpec Try.prog slices_IndexFunc_int_int.E := slices_IndexFunc_int_int.ok_of (by simp [slices_IndexFunc_int_int.X, impl_numsNode_fits_1.ok]) fun xs h => by
  simp only [decide_eq_true_eq] at h
  refine ⟨xs.length + 1, ?_⟩
  rw [slices_IndexFunc_int_int.e]
  refine cnt_loop (σ := Unit) (N := xs.length) (fun n j _ => slices_IndexFunc_int_int.L0 (xs.length + 1) n (slices_IndexFunc_int_int.t0 xs (j : Int)) (slices_IndexFunc_int_int.k0 (xs.length + 1)))
    (fun j _ => badFrom (xs.drop j) j = badI xs) ?_ ?_ (xs.length + 1) 0 () (by omega) (by omega) (by rfl)
  · intro n _ hI
    rw [slices_IndexFunc_int_int.s0, dge (by omega), cond_false]
    rw [List.drop_length] at hI
    rw [← hI]
    rfl
  · intro n j _ hj hI
    rw [slices_IndexFunc_int_int.s0, dlt hj, idx_nat hj, w1 (by omega)]
    simp only [cond_true, Option.bind_some, getS hj]
    rw [dropS hj, badFrom] at hI
    cases hb : numB xs[j] with
    | true =>
      rw [hb, cond_true] at hI
      exact .inr ⟨(), hI, rfl⟩
    | false =>
      rw [hb, cond_false] at hI
      exact .inl (by rw [← hI]; rfl)

namespace slices_ContainsFunc_int_int
noncomputable def E : Entry := ⟨88, true, false, fun | [.d (.ints .i64 xs), .d (.clo 87 [])] => decide (xs.length < 9223372036854775808) | _ => false, fun | [.d (.ints .i64 xs), .d (.clo 87 [])] => ([.one ((.bool (!(xs.all numB))), false)], []) | _ => ([], []), fun _ => [], false, fun _ => none, none⟩
end slices_ContainsFunc_int_int
namespace slices_ContainsFunc_int_int
noncomputable def X : List Entry := [slices_IndexFunc_int_int.E]
noncomputable def I : List Inl := [⟨88, Try.f88, ⟨[], [], [], [], [], []⟩⟩]
theorem I_ok : ∀ i ∈ I, Try.prog.funcs[i.f]? = some i.fn ∧ (i.fn.name == "runtime.NumGoroutine") = false := by
  intro i hi
  simp only [I, List.mem_cons, List.not_mem_nil, or_false] at hi
  subst hi
  exact ⟨by kernel_rfl, by kernel_rfl⟩
theorem e (fuel : Nat) (p0 : List Int) : runF Try.prog X I 0 fuel 88 Try.f88 [.d (.ints .i64 p0), .d (.clo 87 [])] =
  (bif decide (p0.length < 9223372036854775808) then
  some ([.one ((.bool (decide (((badI p0) : Int) ≥ 0))), false)], [])
  else
  none) := by kernel_rfl
end slices_ContainsFunc_int_int
theorem slices_ContainsFunc_int_int.ok_of (hX : ∀ E ∈ slices_ContainsFunc_int_int.X, CallSpec Try.prog E) (h : ∀ (xs : List Int), (decide (xs.length < 9223372036854775808)) = true → ∃ fuel, runF Try.prog slices_ContainsFunc_int_int.X slices_ContainsFunc_int_int.I 0 fuel 88 Try.f88 [.d (.ints .i64 xs), .d (.clo 87 [])] = some ([.one ((.bool (!(xs.all numB))), false)], [])) : CallSpec Try.prog slices_ContainsFunc_int_int.E :=
  callSpec_of (d := 0) hX (by kernel_rfl) slices_ContainsFunc_int_int.I_ok (by kernel_rfl) (by kernel_rfl) (by kernel_rfl) (fun _ _ _ _ h => by dsimp only [slices_ContainsFunc_int_int.E] at h; cases h) (fun xs hp => by
    dsimp only [slices_ContainsFunc_int_int.E] at hp ⊢
    split at hp
    · exact h _ hp
    · cases hp)
theorem slices_ContainsFunc_int_int.ok : CallSpec Try.prog slices_ContainsFunc_int_int.E := slices_ContainsFunc_int_int.ok_of (by simp [slices_ContainsFunc_int_int.X, slices_IndexFunc_int_int.ok]) fun xs h => ⟨0, by
  rw [slices_ContainsFunc_int_int.e, h, cond_true]
  rw [show decide (badI xs ≥ 0) = !(xs.all numB) from badFrom_neg xs 0]⟩

namespace impl_numsNode_fits
noncomputable def E : Entry := ⟨85, true, false, fun | [.d (.agg [(.ints .i64 xs)])] => true | _ => false, fun | [.d (.agg [(.ints .i64 xs)])] => ([.one ((.bool (decide (1 ≤ xs.length) && decide (xs.length ≤ 40) && xs.all numB)), false)], []) | _ => ([], []), fun _ => [], false, fun _ => none, none⟩
end impl_numsNode_fits
namespace impl_numsNode_fits
noncomputable def X : List Entry := [slices_ContainsFunc_int_int.E]
noncomputable def I : List Inl := [⟨85, Try.f85, ⟨[], [], [], [], [], []⟩⟩]
theorem I_ok : ∀ i ∈ I, Try.prog.funcs[i.f]? = some i.fn ∧ (i.fn.name == "runtime.NumGoroutine") = false := by
  intro i hi
  simp only [I, List.mem_cons, List.not_mem_nil, or_false] at hi
  subst hi
  exact ⟨by kernel_rfl, by kernel_rfl⟩
theorem e (fuel : Nat) (p0q0 : List Int) : runF Try.prog X I 0 fuel 85 Try.f85 [.d (.agg [(.ints .i64 p0q0)])] =
  (bif (decide ((1 : Int) ≤ ((p0q0.length : Nat) : Int))) then
  (bif (decide ((((p0q0.length : Nat) : Int) : Int) ≤ 40)) then
  (bif decide (p0q0.length < 9223372036854775808) then
  some ([.one ((.bool (!(!(p0q0.all numB)))), false)], [])
  else
  none)
  else
  some ([.one ((.bool false), false)], []))
  else
  some ([.one ((.bool false), false)], [])) := by kernel_rfl
end impl_numsNode_fits
theorem impl_numsNode_fits.ok_of (hX : ∀ E ∈ impl_numsNode_fits.X, CallSpec Try.prog E) (h : ∀ (xs : List Int), (true) = true → ∃ fuel, runF Try.prog impl_numsNode_fits.X impl_numsNode_fits.I 0 fuel 85 Try.f85 [.d (.agg [(.ints .i64 xs)])] = some ([.one ((.bool (decide (1 ≤ xs.length) && decide (xs.length ≤ 40) && xs.all numB)), false)], [])) : CallSpec Try.prog impl_numsNode_fits.E :=
  callSpec_of (d := 0) hX (by kernel_rfl) impl_numsNode_fits.I_ok (by kernel_rfl) (by kernel_rfl) (by kernel_rfl) (fun _ _ _ _ h => by dsimp only [impl_numsNode_fits.E] at h; cases h) (fun xs hp => by
    dsimp only [impl_numsNode_fits.E] at hp ⊢
    split at hp
    · exact h _ hp
    · cases hp)
theorem impl_numsNode_fits.ok : CallSpec Try.prog impl_numsNode_fits.E := impl_numsNode_fits.ok_of (by simp [impl_numsNode_fits.X, slices_ContainsFunc_int_int.ok]) fun xs _ => ⟨0, by
  rw [impl_numsNode_fits.e]
  by_cases h1 : 1 ≤ xs.length
  · rw [decide_eq_true (p := (1:Int) ≤ _) (by omega), decide_eq_true h1]
    by_cases h2 : xs.length ≤ 40
    · rw [decide_eq_true (p := ((xs.length : Nat) : Int) ≤ 40) (by omega), decide_eq_true h2, lt_of (by omega), Bool.not_not]
      simp only [cond_true, Bool.true_and]
    · rw [decide_eq_false (p := ((xs.length : Nat) : Int) ≤ 40) (by omega), decide_eq_false h2]
      rfl
  · rw [decide_eq_false (p := (1:Int) ≤ _) (by omega), decide_eq_false h1]
    rfl⟩

namespace impl_nameNode_fits
noncomputable def E : Entry := ⟨90, true, false, fun | [.d (.agg [(.int .i64 n)])] => true | _ => false, fun | [.d (.agg [(.int .i64 n)])] => ([.one ((.bool (decide (0 ≤ n) && decide (n < 4))), false)], []) | _ => ([], []), fun _ => [], false, fun _ => none, none⟩
end impl_nameNode_fits
namespace impl_nameNode_fits
noncomputable def X : List Entry := []
noncomputable def I : List Inl := [⟨90, Try.f90, ⟨[], [], [], [], [], []⟩⟩]
theorem I_ok : ∀ i ∈ I, Try.prog.funcs[i.f]? = some i.fn ∧ (i.fn.name == "runtime.NumGoroutine") = false := by
  intro i hi
  simp only [I, List.mem_cons, List.not_mem_nil, or_false] at hi
  subst hi
  exact ⟨by kernel_rfl, by kernel_rfl⟩
theorem e (fuel : Nat) (p0q0 : Int) : runF Try.prog X I 0 fuel 90 Try.f90 [.d (.agg [(.int .i64 p0q0)])] =
  (bif (decide ((0 : Int) ≤ p0q0)) then
  some ([.one ((.bool (decide ((p0q0 : Int) < 4))), false)], [])
  else
  some ([.one ((.bool false), false)], [])) := by kernel_rfl
end impl_nameNode_fits
theorem impl_nameNode_fits.ok_of (hX : ∀ E ∈ impl_nameNode_fits.X, CallSpec Try.prog E) (h : ∀ (n : Int), (true) = true → ∃ fuel, runF Try.prog impl_nameNode_fits.X impl_nameNode_fits.I 0 fuel 90 Try.f90 [.d (.agg [(.int .i64 n)])] = some ([.one ((.bool (decide (0 ≤ n) && decide (n < 4))), false)], [])) : CallSpec Try.prog impl_nameNode_fits.E :=
  callSpec_of (d := 0) hX (by kernel_rfl) impl_nameNode_fits.I_ok (by kernel_rfl) (by kernel_rfl) (by kernel_rfl) (fun _ _ _ _ h => by dsimp only [impl_nameNode_fits.E] at h; cases h) (fun xs hp => by
    dsimp only [impl_nameNode_fits.E] at hp ⊢
    split at hp
    · exact h _ hp
    · cases hp)
theorem impl_nameNode_fits.ok : CallSpec Try.prog impl_nameNode_fits.E := impl_nameNode_fits.ok_of (by simp [impl_nameNode_fits.X]) fun n _ => ⟨0, by
  rw [impl_nameNode_fits.e]
  cases decide (0 ≤ n) <;> rfl⟩

namespace impl_oneNode_fits
noncomputable def E : Entry := ⟨92, true, false, fun | [.d (.agg [(.int .i64 s), (.iface ty d)])] => true | _ => false, fun | [.d (.agg [(.int .i64 s), (.iface ty d)])] => ([.one ((.bool (oneOk s)), false)], []) | _ => ([], []), fun _ => [], false, fun _ => none, none⟩
end impl_oneNode_fits
namespace impl_oneNode_fits
noncomputable def X : List Entry := []
noncomputable def I : List Inl := [⟨92, Try.f92, ⟨[], [], [], [], [], []⟩⟩]
theorem I_ok : ∀ i ∈ I, Try.prog.funcs[i.f]? = some i.fn ∧ (i.fn.name == "runtime.NumGoroutine") = false := by
  intro i hi
  simp only [I, List.mem_cons, List.not_mem_nil, or_false] at hi
  subst hi
  exact ⟨by kernel_rfl, by kernel_rfl⟩
theorem e (fuel : Nat) (p0q0 : Int) (p0q1t : Nat) (p0q1d : D) : runF Try.prog X I 0 fuel 92 Try.f92 [.d (.agg [(.int .i64 p0q0), (.iface p0q1t p0q1d)])] =
  (bif ((p0q0 : Int) == 1) then
  some ([.one ((.bool true), false)], [])
  else
  (bif ((p0q0 : Int) == 8) then
  some ([.one ((.bool true), false)], [])
  else
  (bif ((p0q0 : Int) == 9) then
  some ([.one ((.bool true), false)], [])
  else
  (bif ((p0q0 : Int) == 10) then
  some ([.one ((.bool true), false)], [])
  else
  some ([.one ((.bool false), false)], []))))) := by kernel_rfl
end impl_oneNode_fits
theorem impl_oneNode_fits.ok_of (hX : ∀ E ∈ impl_oneNode_fits.X, CallSpec Try.prog E) (h : ∀ (s : Int) (ty : Nat) (d : D), (true) = true → ∃ fuel, runF Try.prog impl_oneNode_fits.X impl_oneNode_fits.I 0 fuel 92 Try.f92 [.d (.agg [(.int .i64 s), (.iface ty d)])] = some ([.one ((.bool (oneOk s)), false)], [])) : CallSpec Try.prog impl_oneNode_fits.E :=
  callSpec_of (d := 0) hX (by kernel_rfl) impl_oneNode_fits.I_ok (by kernel_rfl) (by kernel_rfl) (by kernel_rfl) (fun _ _ _ _ h => by dsimp only [impl_oneNode_fits.E] at h; cases h) (fun xs hp => by
    dsimp only [impl_oneNode_fits.E] at hp ⊢
    split at hp
    · exact h _ _ _ hp
    · cases hp)
theorem impl_oneNode_fits.ok : CallSpec Try.prog impl_oneNode_fits.E := impl_oneNode_fits.ok_of (by simp [impl_oneNode_fits.X]) fun s ty d _ => ⟨0, by
  rw [impl_oneNode_fits.e]
  unfold oneOk
  cases s == 1 <;> cases s == 8 <;> cases s == 9 <;> cases s == 10 <;> rfl⟩

namespace impl_isFunctionSign
noncomputable def E : Entry := ⟨99, true, false, fun | [.d (.int .i64 s)] => true | _ => false, fun | [.d (.int .i64 s)] => ([.one ((.bool (sgOk s)), false)], []) | _ => ([], []), fun _ => [], false, fun _ => none, none⟩
end impl_isFunctionSign
namespace impl_isFunctionSign
noncomputable def X : List Entry := []
noncomputable def I : List Inl := [⟨99, Try.f99, ⟨[], [], [], [], [], []⟩⟩]
theorem I_ok : ∀ i ∈ I, Try.prog.funcs[i.f]? = some i.fn ∧ (i.fn.name == "runtime.NumGoroutine") = false := by
  intro i hi
  simp only [I, List.mem_cons, List.not_mem_nil, or_false] at hi
  subst hi
  exact ⟨by kernel_rfl, by kernel_rfl⟩
theorem e (fuel : Nat) (p0 : Int) : runF Try.prog X I 0 fuel 99 Try.f99 [.d (.int .i64 p0)] =
  (bif (decide ((0 : Int) ≤ p0)) then
  some ([.one ((.bool (decide ((p0 : Int) ≤ 7))), false)], [])
  else
  some ([.one ((.bool false), false)], [])) := by kernel_rfl
end impl_isFunctionSign
theorem impl_isFunctionSign.ok_of (hX : ∀ E ∈ impl_isFunctionSign.X, CallSpec Try.prog E) (h : ∀ (s : Int), (true) = true → ∃ fuel, runF Try.prog impl_isFunctionSign.X impl_isFunctionSign.I 0 fuel 99 Try.f99 [.d (.int .i64 s)] = some ([.one ((.bool (sgOk s)), false)], [])) : CallSpec Try.prog impl_isFunctionSign.E :=
  callSpec_of (d := 0) hX (by kernel_rfl) impl_isFunctionSign.I_ok (by kernel_rfl) (by kernel_rfl) (by kernel_rfl) (fun _ _ _ _ h => by dsimp only [impl_isFunctionSign.E] at h; cases h) (fun xs hp => by
    dsimp only [impl_isFunctionSign.E] at hp ⊢
    split at hp
    · exact h _ hp
    · cases hp)
theorem impl_isFunctionSign.ok : CallSpec Try.prog impl_isFunctionSign.E := impl_isFunctionSign.ok_of (by simp [impl_isFunctionSign.X]) fun s _ => ⟨0, by
  rw [impl_isFunctionSign.e]
  unfold sgOk
  cases decide (0 ≤ s) <;> rfl⟩

namespace impl_twoNode_fits
noncomputable def E : Entry := ⟨97, true, false, fun | [.d (.agg [(.int .i64 s), (.iface ty d), (.iface ty2 d2)])] => true | _ => false, fun | [.d (.agg [(.int .i64 s), (.iface ty d), (.iface ty2 d2)])] => ([.one ((.bool (twoOk s)), false)], []) | _ => ([], []), fun _ => [], false, fun _ => none, none⟩
end impl_twoNode_fits
namespace impl_twoNode_fits
noncomputable def X : List Entry := [impl_isFunctionSign.E]
noncomputable def I : List Inl := [⟨97, Try.f97, ⟨[], [], [], [], [], []⟩⟩]
theorem I_ok : ∀ i ∈ I, Try.prog.funcs[i.f]? = some i.fn ∧ (i.fn.name == "runtime.NumGoroutine") = false := by
  intro i hi
  simp only [I, List.mem_cons, List.not_mem_nil, or_false] at hi
  subst hi
  exact ⟨by kernel_rfl, by kernel_rfl⟩
theorem e (fuel : Nat) (p0q0 : Int) (p0q1t : Nat) (p0q1d : D) (p0q2t : Nat) (p0q2d : D) : runF Try.prog X I 0 fuel 97 Try.f97 [.d (.agg [(.int .i64 p0q0), (.iface p0q1t p0q1d), (.iface p0q2t p0q2d)])] =
  (bif ((p0q0 : Int) == 8) then
  some ([.one ((.bool true), false)], [])
  else
  (bif ((p0q0 : Int) == 10) then
  some ([.one ((.bool true), false)], [])
  else
  (bif ((p0q0 : Int) == 11) then
  some ([.one ((.bool true), false)], [])
  else
  some ([.one ((.bool (sgOk p0q0)), false)], [])))) := by kernel_rfl
end impl_twoNode_fits
theorem impl_twoNode_fits.ok_of (hX : ∀ E ∈ impl_twoNode_fits.X, CallSpec Try.prog E) (h : ∀ (s : Int) (ty : Nat) (d : D) (ty2 : Nat) (d2 : D), (true) = true → ∃ fuel, runF Try.prog impl_twoNode_fits.X impl_twoNode_fits.I 0 fuel 97 Try.f97 [.d (.agg [(.int .i64 s), (.iface ty d), (.iface ty2 d2)])] = some ([.one ((.bool (twoOk s)), false)], [])) : CallSpec Try.prog impl_twoNode_fits.E :=
  callSpec_of (d := 0) hX (by kernel_rfl) impl_twoNode_fits.I_ok (by kernel_rfl) (by kernel_rfl) (by kernel_rfl) (fun _ _ _ _ h => by dsimp only [impl_twoNode_fits.E] at h; cases h) (fun xs hp => by
    dsimp only [impl_twoNode_fits.E] at hp ⊢
    split at hp
    · exact h _ _ _ _ _ hp
    · cases hp)
theorem impl_twoNode_fits.ok : CallSpec Try.prog impl_twoNode_fits.E := impl_twoNode_fits.ok_of (by simp [impl_twoNode_fits.X, impl_isFunctionSign.ok]) fun s ty d ty2 d2 _ => ⟨0, by
  rw [impl_twoNode_fits.e]
  unfold twoOk
  cases s == 8 <;> cases s == 10 <;> cases s == 11 <;> rfl⟩

namespace impl_reduceNode_fits
noncomputable def E : Entry := ⟨101, true, false, fun | [.d (.agg [(.int .i64 s), (.iface ty d)])] => true | _ => false, fun | [.d (.agg [(.int .i64 s), (.iface ty d)])] => ([.one ((.bool (sgOk s)), false)], []) | _ => ([], []), fun _ => [], false, fun _ => none, none⟩
end impl_reduceNode_fits
namespace impl_reduceNode_fits
noncomputable def X : List Entry := [impl_isFunctionSign.E]
noncomputable def I : List Inl := [⟨101, Try.f101, ⟨[], [], [], [], [], []⟩⟩]
theorem I_ok : ∀ i ∈ I, Try.prog.funcs[i.f]? = some i.fn ∧ (i.fn.name == "runtime.NumGoroutine") = false := by
  intro i hi
  simp only [I, List.mem_cons, List.not_mem_nil, or_false] at hi
  subst hi
  exact ⟨by kernel_rfl, by kernel_rfl⟩
theorem e (fuel : Nat) (p0q0 : Int) (p0q1t : Nat) (p0q1d : D) : runF Try.prog X I 0 fuel 101 Try.f101 [.d (.agg [(.int .i64 p0q0), (.iface p0q1t p0q1d)])] =
  some ([.one ((.bool (sgOk p0q0)), false)], []) := by kernel_rfl
end impl_reduceNode_fits
theorem impl_reduceNode_fits.ok_of (hX : ∀ E ∈ impl_reduceNode_fits.X, CallSpec Try.prog E) (h : ∀ (s : Int) (ty : Nat) (d : D), (true) = true → ∃ fuel, runF Try.prog impl_reduceNode_fits.X impl_reduceNode_fits.I 0 fuel 101 Try.f101 [.d (.agg [(.int .i64 s), (.iface ty d)])] = some ([.one ((.bool (sgOk s)), false)], [])) : CallSpec Try.prog impl_reduceNode_fits.E :=
  callSpec_of (d := 0) hX (by kernel_rfl) impl_reduceNode_fits.I_ok (by kernel_rfl) (by kernel_rfl) (by kernel_rfl) (fun _ _ _ _ h => by dsimp only [impl_reduceNode_fits.E] at h; cases h) (fun xs hp => by
    dsimp only [impl_reduceNode_fits.E] at hp ⊢
    split at hp
    · exact h _ _ _ hp
    · cases hp)
theorem impl_reduceNode_fits.ok : CallSpec Try.prog impl_reduceNode_fits.E := impl_reduceNode_fits.ok_of (by simp [impl_reduceNode_fits.X, impl_isFunctionSign.ok]) fun s ty d _ => ⟨0, by rw [impl_reduceNode_fits.e]⟩

namespace node_fits
noncomputable def E : Entry := ⟨0, true, false, fun | [.d (.iface ty d)] => nodeP nodeIds ty d | _ => false, fun | [.d (.iface ty d)] => ([.one ((.bool (fitsN nodeIds ty d)), false)], []) | _ => ([], []), fun _ => [], false, fun _ => none, (some "loop.example/arraylanguage/impl.fits")⟩
end node_fits
theorem node_fits.ok : CallSpec Try.prog node_fits.E := CallSpec.meth rfl (fun _ => rfl) fun xs h => by
  dsimp only [node_fits.E] at h ⊢
  split at h
  case h_2 => cases h
  rename_i ty d
  simp only [nodeP, Bool.or_eq_true, Bool.and_eq_true, decide_eq_true_eq] at h
  rcases h with (((⟨rfl, h⟩ | ⟨rfl, h⟩) | ⟨rfl, h⟩) | ⟨rfl, h⟩) | ⟨rfl, h⟩
  · unfold isNumsD at h
    split at h
    case h_2 => cases h
    exact ⟨_, _, [], _, rfl, impl_numsNode_fits.ok, rfl, by kernel_rfl, rfl, rfl⟩
  · unfold isNameD at h
    split at h
    case h_2 => cases h
    exact ⟨_, _, [], _, rfl, impl_nameNode_fits.ok, rfl, by kernel_rfl, rfl, rfl⟩
  · unfold isOneD at h
    split at h
    case h_2 => cases h
    exact ⟨_, _, [], _, rfl, impl_oneNode_fits.ok, rfl, by kernel_rfl, rfl, rfl⟩
  · unfold isTwoD at h
    split at h
    case h_2 => cases h
    exact ⟨_, _, [], _, rfl, impl_twoNode_fits.ok, rfl, by kernel_rfl, rfl, rfl⟩
  · unfold isOneD at h
    split at h
    case h_2 => cases h
    exact ⟨_, _, [], _, rfl, impl_reduceNode_fits.ok, rfl, by kernel_rfl, rfl, rfl⟩

namespace impl_nodeOf
noncomputable def E : Entry := ⟨23, true, false, fun | [.d (.agg [(.int .i64 k), (.int .i64 s), (.int .i64 n), (.ints .i64 xs), (.seq 5 ks)]), .d (.int .i64 lv)] => treesB ks && decide (0 ≤ lv) && decide (lv ≤ 8) | _ => false, fun | [.d (.agg [(.int .i64 k), (.int .i64 s), (.int .i64 n), (.ints .i64 xs), (.seq 5 ks)]), .d (.int .i64 lv)] => ([.one (.nili, false), .one ((.bool false), false)], []) | _ => ([], []), fun | [.d (.agg [(.int .i64 k), (.int .i64 s), (.int .i64 n), (.ints .i64 xs), (.seq 5 ks)]), .d (.int .i64 lv)] => [(validT lv.toNat (mkT k s n xs ks), ([.one ((.iface (tyN nodeIds k) (payT nodeIds (mkT k s n xs ks))), false), .one ((.bool true), false)], []))] | _ => [], false, fun _ => none, none⟩
noncomputable def Ed (d : Nat) : Entry := ⟨23, true, false, fun | [.d (.agg [(.int .i64 k), (.int .i64 s), (.int .i64 n), (.ints .i64 xs), (.seq 5 ks)]), .d (.int .i64 lv)] => (treesB ks && decide (0 ≤ lv) && decide (lv ≤ 8) && decide (lv.toNat < d)) | _ => false, fun | [.d (.agg [(.int .i64 k), (.int .i64 s), (.int .i64 n), (.ints .i64 xs), (.seq 5 ks)]), .d (.int .i64 lv)] => ([.one (.nili, false), .one ((.bool false), false)], []) | _ => ([], []), fun | [.d (.agg [(.int .i64 k), (.int .i64 s), (.int .i64 n), (.ints .i64 xs), (.seq 5 ks)]), .d (.int .i64 lv)] => [(validT lv.toNat (mkT k s n xs ks), ([.one ((.iface (tyN nodeIds k) (payT nodeIds (mkT k s n xs ks))), false), .one ((.bool true), false)], []))] | _ => [], false, fun _ => none, none⟩
theorem Ed_zero : CallSpec Try.prog (Ed 0) := CallSpec.void ⟨Try.f23, by kernel_rfl, by kernel_rfl, by kernel_rfl⟩ (fun xs => by dsimp only [Ed]; split <;> simp) (fun _ => rfl)
theorem E_of (h : ∀ d, CallSpec Try.prog (Ed d)) : CallSpec Try.prog E := CallSpec.union Ed h (fun _ => rfl) (fun _ => rfl) (fun _ => rfl) fun xs hp => by
  dsimp only [E] at hp
  split at hp
  · rename_i k s n xs ks lv
    refine ⟨lv.toNat + 1, ?_, rfl⟩
    show (_ && decide (_ < _)) = true
    rw [hp]
    exact decide_eq_true (Nat.lt_succ_self _)
  · cases hp
end impl_nodeOf
namespace impl_nodeOf
noncomputable def X (d : Nat) : List Entry := [impl_kidsOf.E, impl_isBare.E, impl_nodeOf.Ed d, node_fits.E]
noncomputable def I : List Inl := [⟨23, Try.f23, ⟨[], [(12, [0, 1, 3, 4, 5, 7, 8, 9, 10, 11, 12, 13, 14, 15, 16, 17, 18, 19, 20, 21, 22, 23, 24, 25, 26, 27, 28, 29, 30, 31, 32, 33, 34, 35, 36, 37, 38, 39, 40, 41, 42, 43, 44, 45, 46, 47, 48, 49, 50, 51, 52, 53, 54, 55, 56, 57, 58, 59, 60, 61, 62, 63, 64]), (1000005, [0, 3, 4, 5, 7, 8, 9, 10, 11, 12, 13, 14, 15, 16, 17, 18, 19, 20, 21, 22, 23, 24, 25, 26, 27, 28, 29, 30, 31, 32, 36, 37, 38, 39, 40, 41, 42, 43, 44, 45, 46, 47, 48, 49, 50, 51, 52, 53, 54, 55, 56, 57, 58, 59, 60, 61, 62, 63, 64])], [], [(1, [0, 1, 2, 3, 6, 4, 5, 7, 8, 9, 10, 11, 12, 13, 14, 15])], [], []⟩⟩, ⟨41, Try.f41, ⟨[], [], [], [(8, [0, 2, 1, 3, 4, 5, 6, 7]), (10, [0, 2, 5, 1, 3, 4, 6, 7, 8, 9, 10]), (12, [0, 2, 1, 3, 4, 5, 6, 7])], [], []⟩⟩]
theorem I_ok : ∀ i ∈ I, Try.prog.funcs[i.f]? = some i.fn ∧ (i.fn.name == "runtime.NumGoroutine") = false := by
  intro i hi
  simp only [I, List.mem_cons, List.not_mem_nil, or_false] at hi
  rcases hi with rfl | rfl
  all_goals exact ⟨by kernel_rfl, by kernel_rfl⟩
noncomputable abbrev L0 (d : Nat) (fuel n : Nat) (s : St) (k : Kont) := lAt Try.prog (X d) I fuel true 4 false 23 (bodyOf Try.f23) [1, 1, 1, 0, 1, 0] n s k
noncomputable abbrev k0 (d : Nat)  (fuel : Nat) : Kont := (kAt Try.prog (X d) I fuel true 4 false 23 (bodyOf Try.f23) [1, 1, 1, 0, 1, 0] [] (endK Try.prog Try.f23))
noncomputable def t0 (p1 : Int) (p0q4 : List D) (p0q0 : Int) (p0q1 : Int) (p0q2 : Int) (p0q3 : List Int) (x0q3 : Int) (x0q9 : List D) : St := ⟨[.dead, (.imm (.int .i64 p1)), (.ptr 1000000000 0 0), .dead, .dead, .dead, (.all 1000000001 1), .dead, .dead, .dead, .dead, .dead, .dead, .dead, .dead, .dead, .dead, .dead, .dead, .dead, .dead, .dead, .dead, .dead, .dead, .dead, .dead, .dead, .dead, .dead, .dead, .dead, .dead, (.imm (.seq 5 p0q4)), (.imm (.int .i64 ((p0q4.length : Nat) : Int))), (.imm (.int .i64 x0q3)), .dead, .dead, .dead, .dead, .dead, .dead, .dead, .dead, .dead, .dead, .dead, .dead, .dead, .dead, .dead, .dead, .dead, .dead, .dead, .dead, .dead, .dead, .dead, .dead, .dead, .dead, .dead, .dead, .dead], hOf [(1000000000, (.box [(.imm (.int .i64 p0q0)), (.imm (.int .i64 p0q1)), (.imm (.int .i64 p0q2)), (.imm (.ints .i64 p0q3)), (.imm (.seq 5 p0q4))])), (1000000001, (.ds 1 x0q9))], [], []⟩
theorem e (d : Nat) (fuel : Nat) (p0q0 : Int) (p0q1 : Int) (p0q2 : Int) (p0q3 : List Int) (p0q4 : List D) (p1 : Int) : runF Try.prog (X d) I 4 fuel 23 Try.f23 [.d (.agg [(.int .i64 p0q0), (.int .i64 p0q1), (.int .i64 p0q2), (.ints .i64 p0q3), (.seq 5 p0q4)]), .d (.int .i64 p1)] =
  (bif ((p1 : Int) == 0) then
  some ([.one (.nili, false), .one ((.bool false), false)], [])
  else
  (bif ((((p0q4.length : Nat) : Int) : Int) != ((kidN p0q0 : Nat) : Int)) then
  some ([.one (.nili, false), .one ((.bool false), false)], [])
  else
  (bif treesB p0q4 then
  (bif (!(bareT p0q0 p0q1 p0q2 p0q3)) then
  some ([.one (.nili, false), .one ((.bool false), false)], [])
  else
  (bif decide (0 ≤ (((p0q4.length : Nat) : Int) : Int)) && decide ((((p0q4.length : Nat) : Int) : Int) ≤ ((p0q4.length : Nat) : Int)) && decide ((((p0q4.length : Nat) : Int) : Int) ≤ 1152921504606846976) && decide (((16 : Nat) : Int) * ((p0q4.length : Nat) : Int) ≤ 281474976710656) then
  L0 d fuel fuel (t0 p1 p0q4 p0q0 p0q1 p0q2 p0q3 0 ((List.replicate (((p0q4.length : Nat) : Int)).toNat (.nili : D)))) (k0 d  fuel)
  else
  none))
  else
  none))) := by kernel_rfl
theorem s0 (d : Nat) (fuel n0 : Nat) (p1 : Int) (p0q4 : List D) (p0q0 : Int) (p0q1 : Int) (p0q2 : Int) (p0q3 : List Int) (x0q3 : Int) (x0q9 : List D) : L0 d fuel (n0 + 1) (t0 p1 p0q4 p0q0 p0q1 p0q2 p0q3 x0q3 x0q9) (k0 d  fuel) =
  (bif (decide ((x0q3 : Int) < ((p0q4.length : Nat) : Int))) then
  (idx x0q3 p0q4.length).bind fun j13 =>
  (bif okS [.int .i64, .int .i64, .int .i64, .ints .i64, .seq 5] p0q4 j13 then
  (bif (treesB ((cellQ p0q4 j13 4)) && decide (0 ≤ ((IntKind.wrap .i64 (p1 - 1)))) && decide (((IntKind.wrap .i64 (p1 - 1))) ≤ 8) && decide (((IntKind.wrap .i64 (p1 - 1))).toNat < d)) then
  (bif validT ((IntKind.wrap .i64 (p1 - 1))).toNat (mkT ((cellI p0q4 j13 0)) ((cellI p0q4 j13 1)) ((cellI p0q4 j13 2)) ((cellL p0q4 j13 3)) ((cellQ p0q4 j13 4))) then
  (idx x0q3 x0q9.length).bind fun j14 =>
  (bif decide (j14 < x0q9.length) then
  L0 d fuel n0 (t0 p1 p0q4 p0q0 p0q1 p0q2 p0q3 ((IntKind.wrap .i64 (x0q3 + 1))) ((x0q9.set j14 (.iface (tyN nodeIds ((cellI p0q4 j13 0))) (payT nodeIds (mkT ((cellI p0q4 j13 0)) ((cellI p0q4 j13 1)) ((cellI p0q4 j13 2)) ((cellL p0q4 j13 3)) ((cellQ p0q4 j13 4)))))))) (k0 d  fuel)
  else
  none)
  else
  some ([.one (.nili, false), .one ((.bool false), false)], []))
  else
  none)
  else
  none)
  else
  (bif ((p0q0 : Int) == 0) then
  (bif nodeP nodeIds 85 ((.agg [(.ints .i64 p0q3)])) then
  (bif (!(fitsN nodeIds 85 ((.agg [(.ints .i64 p0q3)])))) then
  some ([.one (.nili, false), .one ((.bool false), false)], [])
  else
  some ([.one ((.iface 85 (.agg [(.ints .i64 p0q3)])), false), .one ((.bool true), false)], []))
  else
  none)
  else
  (bif ((p0q0 : Int) == 1) then
  (bif nodeP nodeIds 87 ((.agg [(.int .i64 p0q2)])) then
  (bif (!(fitsN nodeIds 87 ((.agg [(.int .i64 p0q2)])))) then
  some ([.one (.nili, false), .one ((.bool false), false)], [])
  else
  some ([.one ((.iface 87 (.agg [(.int .i64 p0q2)])), false), .one ((.bool true), false)], []))
  else
  none)
  else
  (bif ((p0q0 : Int) == 2) then
  (idx 0 x0q9.length).bind fun j15 =>
  (bif okC (.ifc) x0q9 j15 0 then
  (bif nodeP nodeIds 89 ((.agg [(.int .i64 p0q1), (.iface (cellT x0q9 j15 0) (cellP x0q9 j15 0))])) then
  (bif (!(fitsN nodeIds 89 ((.agg [(.int .i64 p0q1), (.iface (cellT x0q9 j15 0) (cellP x0q9 j15 0))])))) then
  some ([.one (.nili, false), .one ((.bool false), false)], [])
  else
  some ([.one ((.iface 89 (.agg [(.int .i64 p0q1), (.iface (cellT x0q9 j15 0) (cellP x0q9 j15 0))])), false), .one ((.bool true), false)], []))
  else
  none)
  else
  none)
  else
  (bif ((p0q0 : Int) == 3) then
  (idx 0 x0q9.length).bind fun j16 =>
  (bif okC (.ifc) x0q9 j16 0 then
  (idx 1 x0q9.length).bind fun j17 =>
  (bif okC (.ifc) x0q9 j17 0 then
  (bif nodeP nodeIds 91 ((.agg [(.int .i64 p0q1), (.iface (cellT x0q9 j16 0) (cellP x0q9 j16 0)), (.iface (cellT x0q9 j17 0) (cellP x0q9 j17 0))])) then
  (bif (!(fitsN nodeIds 91 ((.agg [(.int .i64 p0q1), (.iface (cellT x0q9 j16 0) (cellP x0q9 j16 0)), (.iface (cellT x0q9 j17 0) (cellP x0q9 j17 0))])))) then
  some ([.one (.nili, false), .one ((.bool false), false)], [])
  else
  some ([.one ((.iface 91 (.agg [(.int .i64 p0q1), (.iface (cellT x0q9 j16 0) (cellP x0q9 j16 0)), (.iface (cellT x0q9 j17 0) (cellP x0q9 j17 0))])), false), .one ((.bool true), false)], []))
  else
  none)
  else
  none)
  else
  none)
  else
  (bif ((p0q0 : Int) == 4) then
  (idx 0 x0q9.length).bind fun j18 =>
  (bif okC (.ifc) x0q9 j18 0 then
  (bif nodeP nodeIds 92 ((.agg [(.int .i64 p0q1), (.iface (cellT x0q9 j18 0) (cellP x0q9 j18 0))])) then
  (bif (!(fitsN nodeIds 92 ((.agg [(.int .i64 p0q1), (.iface (cellT x0q9 j18 0) (cellP x0q9 j18 0))])))) then
  some ([.one (.nili, false), .one ((.bool false), false)], [])
  else
  some ([.one ((.iface 92 (.agg [(.int .i64 p0q1), (.iface (cellT x0q9 j18 0) (cellP x0q9 j18 0))])), false), .one ((.bool true), false)], []))
  else
  none)
  else
  none)
  else
  some ([.one (.nili, false), .one ((.bool false), false)], []))))))) := by kernel_rfl
end impl_nodeOf
theorem impl_nodeOf.ok_of (d : Nat) (hX : ∀ E ∈ impl_nodeOf.X d, CallSpec Try.prog E) (h : ∀ (k : Int) (s : Int) (n : Int) (xs : List Int) (ks : List D) (lv : Int), ((treesB ks && decide (0 ≤ lv) && decide (lv ≤ 8)) && decide (lv.toNat < d + 1)) = true → ∃ fuel, runF Try.prog (impl_nodeOf.X d) impl_nodeOf.I 4 fuel 23 Try.f23 [.d (.agg [(.int .i64 k), (.int .i64 s), (.int .i64 n), (.ints .i64 xs), (.seq 5 ks)]), .d (.int .i64 lv)] = some (bif validT lv.toNat (mkT k s n xs ks) then ([.one ((.iface (tyN nodeIds k) (payT nodeIds (mkT k s n xs ks))), false), .one ((.bool true), false)], []) else ([.one (.nili, false), .one ((.bool false), false)], []))) : CallSpec Try.prog (impl_nodeOf.Ed (d + 1)) :=
  callSpec_of (d := 4) hX (by kernel_rfl) impl_nodeOf.I_ok (by kernel_rfl) (by kernel_rfl) (by kernel_rfl) (fun _ _ _ _ h => by dsimp only [impl_nodeOf.Ed] at h; cases h) (fun xs hp => by
    dsimp only [impl_nodeOf.Ed] at hp ⊢
    split at hp
    · exact h _ _ _ _ _ _ hp
    · cases hp)
theorem impl_nodeOf.fin (k s n : Int) (xs : List Int) (ts : List Tr) (m : Nat) (hb : bareT k s n xs = true) (hl : ts.length = kidN k) (ha : ts.all (validT m) = true) (ty : Nat) (pay : D) (c : Bool) (hc : partOk k s n xs = c) (ht : tyN nodeIds k = ty) (hp : payT nodeIds (.mk k s n xs ts) = pay) :
    (bif validT (m + 1) (.mk k s n xs ts) then ([.one (.iface (tyN nodeIds k) (payT nodeIds (.mk k s n xs ts)), false), .one (.bool true, false)], []) else ([.one (.nili, false), .one (.bool false, false)], []) : Ret) =
      (bif !c then ([.one (.nili, false), .one (.bool false, false)], []) else ([.one (.iface ty pay, false), .one (.bool true, false)], [])) := by
  rw [validT, hb, decide_eq_true hl, hc, ha, ht, hp]
  cases c <;> rfl

theorem impl_nodeOf.loop (d F m : Nat) (k s n : Int) (xs : List Int) (ts : List Tr) (hF : ts.length < F) (hm : m < 9) (hmd : m < d) (hb : bareT k s n xs = true) (hl : ts.length = kidN k) :
    impl_nodeOf.L0 d F F (impl_nodeOf.t0 ((m + 1 : Nat) : Int) (treeDs ts) k s n xs 0 (List.replicate ts.length .nili)) (impl_nodeOf.k0 d F) =
      some (bif validT (m + 1) (.mk k s n xs ts) then ([.one (.iface (tyN nodeIds k) (payT nodeIds (.mk k s n xs ts)), false), .one (.bool true, false)], []) else ([.one (.nili, false), .one (.bool false, false)], [])) := by
  have hl2 := kidN_le k
  have hpl : (payTs nodeIds ts).length = ts.length := by rw [payTs_map]; simp
  refine cnt_loop (σ := List D) (N := ts.length) (fun q j out => impl_nodeOf.L0 d F q (impl_nodeOf.t0 ((m + 1 : Nat) : Int) (treeDs ts) k s n xs (j : Int) out) (impl_nodeOf.k0 d F))
    (fun j out => out = partG (payTs nodeIds ts) .nili j ∧ ts.all (validT m) = (ts.drop j).all (validT m)) ?_ ?_ F 0 _ (by omega) (by omega) ⟨by rw [partG_zero, hpl], rfl⟩
  · rintro q out ⟨hI, hA⟩
    rw [impl_nodeOf.s0, treeDs_length, dge (by omega), cond_false]
    rw [List.drop_length, List.all_nil] at hA
    rw [← hpl, partG_all] at hI
    subst hI
    by_cases h0 : k = 0
    · subst h0
      have hp : payT nodeIds (.mk 0 s n xs ts) = .agg [.ints .i64 xs] := by rw [payT, if_pos rfl]
      rw [impl_nodeOf.fin 0 s n xs ts m hb hl hA _ _ (numsOk xs) rfl rfl hp]
      have h2 : fitsN nodeIds nodeIds.n0 (.agg [.ints .i64 xs]) = numsOk xs := rfl
      show (bif !(fitsN nodeIds nodeIds.n0 (.agg [.ints .i64 xs])) then _ else _) = _
      rw [h2]
      cases numsOk xs <;> rfl
    by_cases h1 : k = 1
    · subst h1
      have hp : payT nodeIds (.mk 1 s n xs ts) = .agg [.int .i64 n] := by rw [payT, if_neg (by decide), if_pos rfl]
      rw [impl_nodeOf.fin 1 s n xs ts m hb hl hA _ _ (nameOk n) rfl rfl hp]
      have h2 : fitsN nodeIds nodeIds.n1 (.agg [.int .i64 n]) = nameOk n := rfl
      show (bif !(fitsN nodeIds nodeIds.n1 (.agg [.int .i64 n])) then _ else _) = _
      rw [h2]
      cases nameOk n <;> rfl
    by_cases h2 : k = 2
    · subst h2
      obtain ⟨a, rfl⟩ : ∃ a, ts = [a] := List.length_eq_one_iff.1 hl
      have hp : payT nodeIds (.mk 2 s n xs [a]) = .agg [.int .i64 s, .iface (tyN nodeIds a.k) (payT nodeIds a)] := by rw [payT, if_neg (by decide), if_neg (by decide), payTs, payTs]
      rw [impl_nodeOf.fin 2 s n xs [a] m hb hl hA _ _ (oneOk s) rfl rfl hp, payTs, payTs]
      generalize tyN nodeIds a.k = ty
      generalize payT nodeIds a = pa
      have h2 : fitsN nodeIds nodeIds.n2 (.agg [.int .i64 s, .iface ty pa]) = oneOk s := rfl
      show (bif !(fitsN nodeIds nodeIds.n2 (.agg [.int .i64 s, .iface ty pa])) then _ else _) = _
      rw [h2]
      cases oneOk s <;> rfl
    by_cases h3 : k = 3
    · subst h3
      obtain ⟨a, b, rfl⟩ : ∃ a b, ts = [a, b] := by match ts, hl with | [a, b], _ => exact ⟨a, b, rfl⟩
      have hp : payT nodeIds (.mk 3 s n xs [a, b]) = .agg [.int .i64 s, .iface (tyN nodeIds a.k) (payT nodeIds a), .iface (tyN nodeIds b.k) (payT nodeIds b)] := by rw [payT, if_neg (by decide), if_neg (by decide), payTs, payTs, payTs]
      rw [impl_nodeOf.fin 3 s n xs [a, b] m hb hl hA _ _ (twoOk s) rfl rfl hp, payTs, payTs, payTs]
      generalize tyN nodeIds a.k = ty
      generalize payT nodeIds a = pa
      generalize tyN nodeIds b.k = ty2
      generalize payT nodeIds b = pa2
      have h2 : fitsN nodeIds nodeIds.n3 (.agg [.int .i64 s, .iface ty pa, .iface ty2 pa2]) = twoOk s := rfl
      show (bif !(fitsN nodeIds nodeIds.n3 (.agg [.int .i64 s, .iface ty pa, .iface ty2 pa2])) then _ else _) = _
      rw [h2]
      cases twoOk s <;> rfl
    by_cases h4 : k = 4
    · subst h4
      obtain ⟨a, rfl⟩ : ∃ a, ts = [a] := List.length_eq_one_iff.1 hl
      have hp : payT nodeIds (.mk 4 s n xs [a]) = .agg [.int .i64 s, .iface (tyN nodeIds a.k) (payT nodeIds a)] := by rw [payT, if_neg (by decide), if_neg (by decide), payTs, payTs]
      rw [impl_nodeOf.fin 4 s n xs [a] m hb hl hA _ _ (sgOk s) rfl rfl hp, payTs, payTs]
      generalize tyN nodeIds a.k = ty
      generalize payT nodeIds a = pa
      have h2 : fitsN nodeIds nodeIds.n4 (.agg [.int .i64 s, .iface ty pa]) = sgOk s := rfl
      show (bif !(fitsN nodeIds nodeIds.n4 (.agg [.int .i64 s, .iface ty pa])) then _ else _) = _
      rw [h2]
      cases sgOk s <;> rfl
    · have hp : partOk k s n xs = false := by
        unfold partOk
        rw [beq_eq_false_iff_ne.2 h0, beq_eq_false_iff_ne.2 h1, beq_eq_false_iff_ne.2 h2, beq_eq_false_iff_ne.2 h3, beq_eq_false_iff_ne.2 h4]
        rfl
      rw [validT, hp, Bool.and_false, Bool.false_and, beq_eq_false_iff_ne.2 h0, beq_eq_false_iff_ne.2 h1, beq_eq_false_iff_ne.2 h2, beq_eq_false_iff_ne.2 h3, beq_eq_false_iff_ne.2 h4]
      rfl
  · rintro q j out hj ⟨hI, hA⟩
    obtain ⟨v0, v1, v2, v3, v4, v5⟩ := tr_view hj
    have hol : out.length = ts.length := by rw [hI, partG_length (by omega), hpl]
    rw [impl_nodeOf.s0, treeDs_length, dlt hj, cond_true, idx_nat hj, Option.bind_some, v0, cond_true, tr_tb hj, tr_mk hj]
    have ew : IntKind.wrap .i64 (((m + 1 : Nat) : Int) - 1) = (m : Int) := by rw [wS (by omega) (by omega)]; omega
    rw [ew, Int.toNat_natCast, decide_eq_true (p := (0 : Int) ≤ (m : Int)) (by omega), decide_eq_true (p := (m : Int) ≤ 8) (by omega), decide_eq_true hmd]
    rw [List.drop_eq_getElem_cons hj, List.all_cons] at hA
    cases hv : validT m ts[j] with
    | true =>
      rw [hol, idx_nat hj, w1 (by omega), v1]
      refine .inr ⟨out.set j (.iface (tyN nodeIds ts[j].k) (payT nodeIds ts[j])), ⟨?_, by rw [hA, hv, Bool.true_and]⟩, ?_⟩
      · rw [hI]
        have e : (payTs nodeIds ts)[j]'(by omega) = .iface (tyN nodeIds ts[j].k) (payT nodeIds ts[j]) := by simp only [payTs_map, List.getElem_map]
        rw [← e]
        exact partG_set (by omega)
      · rw [Option.bind_some, decide_eq_true (by omega)]
        rfl
    | false =>
      refine .inl ?_
      rw [validT, hA, hv, Bool.false_and, Bool.and_false]
      rfl

theorem impl_nodeOf.okd : ∀ d, CallSpec Try.prog (impl_nodeOf.Ed d)
  | 0 => impl_nodeOf.Ed_zero
  | d + 1 => impl_nodeOf.ok_of d (by simp [impl_nodeOf.X, impl_nodeOf.okd d, impl_kidsOf.ok, impl_isBare.ok, node_fits.ok]) fun k s n xs ks lv h => by
    simp only [Bool.and_eq_true, decide_eq_true_eq] at h
    obtain ⟨⟨⟨ht, h0⟩, h8⟩, hd⟩ := h
    obtain ⟨ts, rfl⟩ := treesB_iff.1 ht
    refine ⟨ts.length + 4, ?_⟩
    rw [impl_nodeOf.e, mkT_treeDs]
    by_cases hz : lv = 0
    · subst hz; rfl
    obtain ⟨m, rfl⟩ : ∃ m : Nat, lv = ((m + 1 : Nat) : Int) := ⟨lv.toNat - 1, by omega⟩
    have eT : (((ts.length : Nat) : Int) != ((kidN k : Nat) : Int)) = !decide (ts.length = kidN k) := by
      by_cases h : ts.length = kidN k <;> simp [h]; omega
    rw [beq_eq_false_iff_ne.2 hz, cond_false, treeDs_length, Int.toNat_natCast (m + 1), ht, eT]
    cases hl : decide (ts.length = kidN k) with
    | false =>
      rw [validT, hl, Bool.and_false, Bool.false_and, Bool.false_and]
      rfl
    | true =>
    rw [Bool.not_true, cond_false, cond_true]
    cases hb : bareT k s n xs with
    | false =>
      rw [validT, hb, Bool.false_and, Bool.false_and, Bool.false_and]
      rfl
    | true =>
    have hl' := of_decide_eq_true hl
    have hk2 := kidN_le k
    rw [Bool.not_true, cond_false, decide_eq_true (p := (0 : Int) ≤ ((ts.length : Nat) : Int)) (by omega), decide_eq_true (p := ((ts.length : Nat) : Int) ≤ ((ts.length : Nat) : Int)) (by omega), decide_eq_true (p := ((ts.length : Nat) : Int) ≤ 1152921504606846976) (by omega), decide_eq_true (p := ((16 : Nat) : Int) * ((ts.length : Nat) : Int) ≤ 281474976710656) (by omega)]
    rw [Bool.and_self, Bool.and_self, Bool.and_self, cond_true, Int.toNat_natCast ts.length]
    exact impl_nodeOf.loop d _ m k s n xs ts (by omega) (by omega) (by omega) hb hl'
theorem impl_nodeOf.ok : CallSpec Try.prog impl_nodeOf.E := impl_nodeOf.E_of impl_nodeOf.okd

namespace impl_signTokens
noncomputable def E : Entry := ⟨95, false, false, fun | [.d (.ints .i64 xs)] => decide (xs.length ≤ 1048576) | _ => false, fun | [.d (.ints .i64 xs)] => ([.one ((.seq 2 (tokDs (sgnT xs))), true)], []) | _ => ([], []), fun _ => [], true, fun _ => none, none⟩
end impl_signTokens
namespace impl_signTokens
noncomputable def X : List Entry := []
noncomputable def I : List Inl := [⟨95, Try.f95, ⟨[], [(1000003, [0, 1, 2, 4, 5, 6, 7, 8, 12, 13, 14, 15, 16, 17, 18, 19, 20, 21, 22])], [], [], [], []⟩⟩]
theorem I_ok : ∀ i ∈ I, Try.prog.funcs[i.f]? = some i.fn ∧ (i.fn.name == "runtime.NumGoroutine") = false := by
  intro i hi
  simp only [I, List.mem_cons, List.not_mem_nil, or_false] at hi
  subst hi
  exact ⟨by kernel_rfl, by kernel_rfl⟩
noncomputable abbrev L0 (fuel n : Nat) (s : St) (k : Kont) := lAt Try.prog X I fuel true 0 false 95 (bodyOf Try.f95) [1, 1, 0, 1, 0] n s k
noncomputable abbrev k0  (fuel : Nat) : Kont := (kAt Try.prog X I fuel true 0 false 95 (bodyOf Try.f95) [1, 1, 0, 1, 0] [] (endK Try.prog Try.f95))
noncomputable def t0 (p0 : List Int) (x0q2 : Int) (x0q3 : List D) : St := ⟨[.dead, .dead, .dead, (.all 1000000000 2), .dead, .dead, .dead, .dead, .dead, (.imm (.ints .i64 p0)), (.imm (.int .i64 ((p0.length : Nat) : Int))), (.imm (.int .i64 x0q2)), .dead, .dead, .dead, .dead, .dead, .dead, .dead, .dead, .dead, .dead, .dead], hOf [(1000000000, (.ds 2 x0q3))], [], []⟩
theorem e (fuel : Nat) (p0 : List Int) : runF Try.prog X I 0 fuel 95 Try.f95 [.d (.ints .i64 p0)] =
  (bif decide (0 ≤ (((p0.length : Nat) : Int) : Int)) && decide ((((p0.length : Nat) : Int) : Int) ≤ ((p0.length : Nat) : Int)) && decide ((((p0.length : Nat) : Int) : Int) ≤ 1152921504606846976) && decide (((16 : Nat) : Int) * ((p0.length : Nat) : Int) ≤ 281474976710656) then
  L0 fuel fuel (t0 p0 0 ((List.replicate (((p0.length : Nat) : Int)).toNat ((.agg [(.int .i64 0), (.int .i64 0)]) : D)))) (k0  fuel)
  else
  none) := by kernel_rfl
theorem s0 (fuel n0 : Nat) (p0 : List Int) (x0q2 : Int) (x0q3 : List D) : L0 fuel (n0 + 1) (t0 p0 x0q2 x0q3) (k0  fuel) =
  (bif (decide ((x0q2 : Int) < ((p0.length : Nat) : Int))) then
  (idx x0q2 p0.length).bind fun j7 =>
  (p0[j7]?).bind fun v8 =>
  (idx x0q2 x0q3.length).bind fun j9 =>
  (bif decide (j9 < x0q3.length) then
  L0 fuel n0 (t0 p0 ((IntKind.wrap .i64 (x0q2 + 1))) ((x0q3.set j9 (.agg [(.int .i64 2), (.int .i64 v8)])))) (k0  fuel)
  else
  none)
  else
  some ([.one ((.seq 2 x0q3), true)], [])) := by kernel_rfl
end impl_signTokens
theorem impl_signTokens.ok_of (hX : ∀ E ∈ impl_signTokens.X, CallSpec Try.prog E) (h : ∀ (xs : List Int), (decide (xs.length ≤ 1048576)) = true → ∃ fuel, runF Try.prog impl_signTokens.X impl_signTokens.I 0 fuel 95 Try.f95 [.d (.ints .i64 xs)] = some ([.one ((.seq 2 (tokDs (sgnT xs))), true)], [])) : CallSpec Try.prog impl_signTokens.E :=
  callSpec_of (d := 0) hX (by kernel_rfl) impl_signTokens.I_ok (by kernel_rfl) (by kernel_rfl) (by kernel_rfl) (fun _ _ _ _ h => by dsimp only [impl_signTokens.E] at h; cases h) (fun xs hp => by
    dsimp only [impl_signTokens.E] at hp ⊢
    split at hp
    · exact h _ hp
    · cases hp)
theorem impl_signTokens.loop (F : Nat) (xs : List Int) (hF : xs.length < F) (hl : xs.length ≤ 1048576) : impl_signTokens.L0 F F (impl_signTokens.t0 xs 0 (List.replicate xs.length (.agg [(.int .i64 0), (.int .i64 0)]))) (impl_signTokens.k0 F) = some ([.one (.seq 2 (tokDs (sgnT xs)), true)], []) := by
  have hpl : (tokDs (sgnT xs)).length = xs.length := by simp [tokDs, sgnT]
  refine cnt_loop (σ := List D) (N := xs.length) (fun q j out => impl_signTokens.L0 F q (impl_signTokens.t0 xs (j : Int) out) (impl_signTokens.k0 F))
    (fun j out => out = partG (tokDs (sgnT xs)) (.agg [(.int .i64 0), (.int .i64 0)]) j) ?_ ?_ F 0 _ (by omega) (by omega) (by rw [partG_zero, hpl])
  · rintro q out hI
    rw [impl_signTokens.s0, dge (by omega), cond_false, hI, ← hpl, partG_all]
  · intro q j out hj hI
    have hol : out.length = xs.length := by rw [hI, partG_length (by omega), hpl]
    rw [impl_signTokens.s0, dlt hj, cond_true, idx_nat hj, Option.bind_some, getD_get hj, Option.bind_some, hol, idx_nat hj, Option.bind_some, decide_eq_true hj, cond_true, w1 (by omega)]
    refine .inr ⟨_, ?_, rfl⟩
    rw [hI]
    have e : (tokDs (sgnT xs))[j]'(by omega) = .agg [.int .i64 2, .int .i64 (xs.getD j 0)] := tokD_get hj _
    rw [← e]
    exact partG_set (by omega)
theorem impl_signTokens.ok : CallSpec Try.prog impl_signTokens.E := impl_signTokens.ok_of (by simp [impl_signTokens.X]) fun xs h => ⟨xs.length + 1, by
  have h1 := of_decide_eq_true h
  rw [impl_signTokens.e, le20 h1, cond_true, Int.toNat_natCast]
  exact impl_signTokens.loop _ xs (by omega) h1⟩

namespace slices_Concat_3
noncomputable def E : Entry := ⟨94, false, false, fun | [.d (.seq 1 [(.seq 2 xs), (.seq 2 ys), (.seq 2 zs)])] => okDs 2 xs && okDs 2 ys && decide ((xs : List D).length ≤ 4194304) && decide ((ys : List D).length ≤ 4194304) && okDs 2 zs && decide ((zs : List D).length ≤ 4194304) | _ => false, fun | [.d (.seq 1 [(.seq 2 xs), (.seq 2 ys), (.seq 2 zs)])] => ([.one ((.seq 2 (xs ++ ys ++ zs)), true)], []) | _ => ([], []), fun _ => [], true, fun _ => none, none⟩
end slices_Concat_3
namespace slices_Concat_3
noncomputable def X : List Entry := []
noncomputable def I : List Inl := [⟨94, Try.f94, ⟨[24], [(9, [1, 2, 4, 5, 6, 7, 8, 9, 10, 11, 12, 13, 14, 15, 16, 17, 18, 19, 20, 21, 22, 23, 24, 25, 26, 27, 28, 29, 30, 31, 32, 33, 34, 35]), (1000003, [1, 2, 4, 5, 6, 7, 8, 12, 13, 14, 15, 16, 17, 18, 19, 20, 21, 22, 23, 24, 25, 26, 27, 28, 29, 30, 31, 32, 33, 34, 35]), (1000011, [0, 1, 2, 3, 4, 5, 7, 8, 9, 10, 11, 12, 13, 14, 15, 16, 17, 18, 19, 20, 21, 22, 23, 24, 28, 29, 30, 31, 32, 33, 34, 35])], [], [], [], []⟩⟩, ⟨96, Try.f96, ⟨[], [], [], [], [], []⟩⟩]
theorem I_ok : ∀ i ∈ I, Try.prog.funcs[i.f]? = some i.fn ∧ (i.fn.name == "runtime.NumGoroutine") = false := by
  intro i hi
  simp only [I, List.mem_cons, List.not_mem_nil, or_false] at hi
  rcases hi with rfl | rfl
  all_goals exact ⟨by kernel_rfl, by kernel_rfl⟩
theorem e (p0e0 : List D) (p0e1 : List D) (p0e2 : List D) : runF Try.prog X I 4 8 94 Try.f94 [.d (.seq 1 [(.seq 2 p0e0), (.seq 2 p0e1), (.seq 2 p0e2)])] =
  (bif (decide (((IntKind.wrap .i64 (0 + ((p0e0.length : Nat) : Int))) : Int) < 0)) then
  none
  else
  (bif (decide (((IntKind.wrap .i64 ((IntKind.wrap .i64 (0 + ((p0e0.length : Nat) : Int))) + ((p0e1.length : Nat) : Int))) : Int) < 0)) then
  none
  else
  (bif (decide (((IntKind.wrap .i64 ((IntKind.wrap .i64 ((IntKind.wrap .i64 (0 + ((p0e0.length : Nat) : Int))) + ((p0e1.length : Nat) : Int))) + ((p0e2.length : Nat) : Int))) : Int) < 0)) then
  none
  else
  (bif (decide (((IntKind.wrap .i64 ((IntKind.wrap .i64 ((IntKind.wrap .i64 (0 + ((p0e0.length : Nat) : Int))) + ((p0e1.length : Nat) : Int))) + ((p0e2.length : Nat) : Int))) : Int) < 0)) then
  none
  else
  (bif (decide (((IntKind.wrap .i64 ((IntKind.wrap .i64 ((IntKind.wrap .i64 ((IntKind.wrap .i64 (0 + ((p0e0.length : Nat) : Int))) + ((p0e1.length : Nat) : Int))) + ((p0e2.length : Nat) : Int))) - 0)) : Int) > 0)) then
  (cutEnds 0 (none) (some (.imm (.int .i64 0)))).bind fun cq4 =>
  (bif decide (0 ≤ ((IntKind.wrap .i64 ((IntKind.wrap .i64 ((IntKind.wrap .i64 ((IntKind.wrap .i64 (0 + ((p0e0.length : Nat) : Int))) + ((p0e1.length : Nat) : Int))) + ((p0e2.length : Nat) : Int))) - 0)) : Int)) && fits ((IntKind.wrap .i64 ((IntKind.wrap .i64 ((IntKind.wrap .i64 ((IntKind.wrap .i64 (0 + ((p0e0.length : Nat) : Int))) + ((p0e1.length : Nat) : Int))) + ((p0e2.length : Nat) : Int))) - 0))).toNat 16 then
  (cutEnds (List.replicate ((IntKind.wrap .i64 ((IntKind.wrap .i64 ((IntKind.wrap .i64 ((IntKind.wrap .i64 (0 + ((p0e0.length : Nat) : Int))) + ((p0e1.length : Nat) : Int))) + ((p0e2.length : Nat) : Int))) - 0))).toNat ((.agg [(.int .i64 0), (.int .i64 0)]) : D)).length (none) (some (.imm (.int .i64 0)))).bind fun cq5 =>
  (bif okDs 2 p0e0 then
  (bif decide (cq5.1 = 0) && decide ((cq5.2 - cq5.1) ≤ (List.replicate ((IntKind.wrap .i64 ((IntKind.wrap .i64 ((IntKind.wrap .i64 ((IntKind.wrap .i64 (0 + ((p0e0.length : Nat) : Int))) + ((p0e1.length : Nat) : Int))) + ((p0e2.length : Nat) : Int))) - 0))).toNat ((.agg [(.int .i64 0), (.int .i64 0)]) : D)).length) && fits ((cq5.2 - cq5.1) + p0e0.length) 16 then
  (bif okDs 2 p0e1 then
  (bif fits (((List.replicate ((IntKind.wrap .i64 ((IntKind.wrap .i64 ((IntKind.wrap .i64 ((IntKind.wrap .i64 (0 + ((p0e0.length : Nat) : Int))) + ((p0e1.length : Nat) : Int))) + ((p0e2.length : Nat) : Int))) - 0))).toNat ((.agg [(.int .i64 0), (.int .i64 0)]) : D)).take ((cq5.2 - cq5.1)) ++ p0e0).length + p0e1.length) 16 then
  (bif okDs 2 p0e2 then
  (bif fits ((((List.replicate ((IntKind.wrap .i64 ((IntKind.wrap .i64 ((IntKind.wrap .i64 ((IntKind.wrap .i64 (0 + ((p0e0.length : Nat) : Int))) + ((p0e1.length : Nat) : Int))) + ((p0e2.length : Nat) : Int))) - 0))).toNat ((.agg [(.int .i64 0), (.int .i64 0)]) : D)).take ((cq5.2 - cq5.1)) ++ p0e0) ++ p0e1).length + p0e2.length) 16 then
  some ([.one ((.seq 2 ((((List.replicate ((IntKind.wrap .i64 ((IntKind.wrap .i64 ((IntKind.wrap .i64 ((IntKind.wrap .i64 (0 + ((p0e0.length : Nat) : Int))) + ((p0e1.length : Nat) : Int))) + ((p0e2.length : Nat) : Int))) - 0))).toNat ((.agg [(.int .i64 0), (.int .i64 0)]) : D)).take ((cq5.2 - cq5.1)) ++ p0e0) ++ p0e1) ++ p0e2)), true)], [])
  else
  none)
  else
  none)
  else
  none)
  else
  none)
  else
  none)
  else
  none)
  else
  none)
  else
  (bif okDs 2 p0e0 then
  (bif fits p0e0.length 16 then
  (bif okDs 2 p0e1 then
  (bif fits (p0e0.length + p0e1.length) 16 then
  (bif okDs 2 p0e2 then
  (bif fits ((p0e0 ++ p0e1).length + p0e2.length) 16 then
  some ([.one ((.seq 2 ((p0e0 ++ p0e1) ++ p0e2)), true)], [])
  else
  none)
  else
  none)
  else
  none)
  else
  none)
  else
  none)
  else
  none)))))) := by kernel_rfl
end slices_Concat_3
theorem slices_Concat_3.ok_of (hX : ∀ E ∈ slices_Concat_3.X, CallSpec Try.prog E) (h : ∀ (xs : List D) (ys : List D) (zs : List D), (okDs 2 xs && okDs 2 ys && decide ((xs : List D).length ≤ 4194304) && decide ((ys : List D).length ≤ 4194304) && okDs 2 zs && decide ((zs : List D).length ≤ 4194304)) = true → ∃ fuel, runF Try.prog slices_Concat_3.X slices_Concat_3.I 4 fuel 94 Try.f94 [.d (.seq 1 [(.seq 2 xs), (.seq 2 ys), (.seq 2 zs)])] = some ([.one ((.seq 2 (xs ++ ys ++ zs)), true)], [])) : CallSpec Try.prog slices_Concat_3.E :=
  callSpec_of (d := 4) hX (by kernel_rfl) slices_Concat_3.I_ok (by kernel_rfl) (by kernel_rfl) (by kernel_rfl) (fun _ _ _ _ h => by dsimp only [slices_Concat_3.E] at h; cases h) (fun xs hp => by
    dsimp only [slices_Concat_3.E] at hp ⊢
    split at hp
    · exact h _ _ _ hp
    · cases hp)
theorem slices_Concat_3.ok : CallSpec Try.prog slices_Concat_3.E := slices_Concat_3.ok_of (by simp [slices_Concat_3.X]) fun xs ys zs h => ⟨8, by
  simp only [Bool.and_eq_true, decide_eq_true_eq] at h
  obtain ⟨⟨⟨⟨⟨o1, o2⟩, h1⟩, h2⟩, o3⟩, h3⟩ := h
  have e0 : IntKind.wrap .i64 (0 + ((xs.length : Nat) : Int)) = ((xs.length : Nat) : Int) := by rw [Int.zero_add, wN (by omega)]
  have e1 : IntKind.wrap .i64 (((xs.length : Nat) : Int) + ((ys.length : Nat) : Int)) = ((xs.length + ys.length : Nat) : Int) := wAdd (by omega)
  have e3 : IntKind.wrap .i64 (((xs.length + ys.length : Nat) : Int) + ((zs.length : Nat) : Int)) = ((xs.length + ys.length + zs.length : Nat) : Int) := wAdd (by omega)
  have e2 : IntKind.wrap .i64 (((xs.length + ys.length + zs.length : Nat) : Int) - 0) = ((xs.length + ys.length + zs.length : Nat) : Int) := by rw [Int.sub_zero, wN (by omega)]
  rw [slices_Concat_3.e, e0, e1, e3, e2, decide_eq_false (p := ((xs.length : Nat) : Int) < 0) (by omega), decide_eq_false (p := ((xs.length + ys.length : Nat) : Int) < 0) (by omega), decide_eq_false (p := ((xs.length + ys.length + zs.length : Nat) : Int) < 0) (by omega), cond_false, cond_false, cond_false, cond_false]
  by_cases h0 : ((xs.length + ys.length + zs.length : Nat) : Int) > 0
  · rw [decide_eq_true h0, cond_true, Int.toNat_natCast, show (some (AV.imm (.int .i64 0)) : Option AV) = some (.imm (.int .i64 ((0 : Nat) : Int))) from rfl, cut_hi (Nat.le_refl 0), cut_hi (Nat.zero_le _)]
    simp only [Option.bind_some]
    rw [decide_eq_true (p := (0 : Int) ≤ ((xs.length + ys.length + zs.length : Nat) : Int)) (by omega), fits16 (by omega)]
    simp only [Nat.sub_self, List.take_zero, List.nil_append, Nat.zero_le, decide_true, Bool.and_self, Bool.true_and, cond_true, Nat.zero_add, o1, o2, o3, List.length_append]
    rw [fits16 (by omega), cond_true, fits16 (by omega), cond_true, fits16 (by omega), cond_true]
  · rw [decide_eq_false h0, cond_false, o1, cond_true, fits16 (by omega), cond_true, o2, cond_true, fits16 (by omega), cond_true, o3, cond_true, List.length_append, fits16 (by omega), cond_true]⟩

namespace impl_operandTokens
noncomputable def E : Entry := ⟨100, false, false, fun | [.d (.iface ty py)] => nodeW nodeIds ty py && decide ((tokP nodeIds ty py).length ≤ 1048576) | _ => false, fun | [.d (.iface ty py)] => ([.one ((.seq 2 (tokDs (opTk nodeIds ty py))), true)], []) | _ => ([], []), fun _ => [], true, fun _ => none, none⟩
noncomputable def Ed (d : Nat) : Entry := ⟨100, false, false, fun | [.d (.iface ty py)] => (nodeW nodeIds ty py && decide ((tokP nodeIds ty py).length ≤ 1048576) && decide (2 * SizeOf.sizeOf py + 1 < d)) | _ => false, fun | [.d (.iface ty py)] => ([.one ((.seq 2 (tokDs (opTk nodeIds ty py))), true)], []) | _ => ([], []), fun _ => [], true, fun _ => none, none⟩
theorem Ed_zero : CallSpec Try.prog (Ed 0) := CallSpec.void ⟨Try.f100, by kernel_rfl, by kernel_rfl, by kernel_rfl⟩ (fun xs => by dsimp only [Ed]; split <;> simp) (fun _ => rfl)
theorem E_of (h : ∀ d, CallSpec Try.prog (Ed d)) : CallSpec Try.prog E := CallSpec.union Ed h (fun _ => rfl) (fun _ => rfl) (fun _ => rfl) fun xs hp => by
  dsimp only [E] at hp
  split at hp
  · rename_i ty py
    refine ⟨2 * SizeOf.sizeOf py + 1 + 1, ?_, rfl⟩
    show (_ && decide (_ < _)) = true
    rw [hp]
    exact decide_eq_true (Nat.lt_succ_self _)
  · cases hp
end impl_operandTokens
namespace impl_oneNode_tokens
noncomputable def E : Entry := ⟨93, false, false, fun | [.d (.agg [(.int .i64 s), (.iface ty py)])] => nodeW nodeIds ty py && decide ((tokP nodeIds ty py).length ≤ 1048576) | _ => false, fun | [.d (.agg [(.int .i64 s), (.iface ty py)])] => ([.one ((.seq 2 (tokDs ((2, s) :: tokP nodeIds ty py))), true)], []) | _ => ([], []), fun _ => [], true, fun _ => none, none⟩
noncomputable def Ed (d : Nat) : Entry := ⟨93, false, false, fun | [.d (.agg [(.int .i64 s), (.iface ty py)])] => (nodeW nodeIds ty py && decide ((tokP nodeIds ty py).length ≤ 1048576) && decide (2 * SizeOf.sizeOf py + 1 < d)) | _ => false, fun | [.d (.agg [(.int .i64 s), (.iface ty py)])] => ([.one ((.seq 2 (tokDs ((2, s) :: tokP nodeIds ty py))), true)], []) | _ => ([], []), fun _ => [], true, fun _ => none, none⟩
theorem Ed_zero : CallSpec Try.prog (Ed 0) := CallSpec.void ⟨Try.f93, by kernel_rfl, by kernel_rfl, by kernel_rfl⟩ (fun xs => by dsimp only [Ed]; split <;> simp) (fun _ => rfl)
theorem E_of (h : ∀ d, CallSpec Try.prog (Ed d)) : CallSpec Try.prog E := CallSpec.union Ed h (fun _ => rfl) (fun _ => rfl) (fun _ => rfl) fun xs hp => by
  dsimp only [E] at hp
  split at hp
  · rename_i s ty py
    refine ⟨2 * SizeOf.sizeOf py + 1 + 1, ?_, rfl⟩
    show (_ && decide (_ < _)) = true
    rw [hp]
    exact decide_eq_true (Nat.lt_succ_self _)
  · cases hp
end impl_oneNode_tokens
namespace impl_twoNode_tokens
noncomputable def E : Entry := ⟨98, false, false, fun | [.d (.agg [(.int .i64 s), (.iface ty py), (.iface ty2 py2)])] => nodeW nodeIds ty py && decide ((tokP nodeIds ty py).length ≤ 1048576) && nodeW nodeIds ty2 py2 && decide ((tokP nodeIds ty2 py2).length ≤ 1048576) | _ => false, fun | [.d (.agg [(.int .i64 s), (.iface ty py), (.iface ty2 py2)])] => ([.one ((.seq 2 (tokDs (opTk nodeIds ty py ++ (2, s) :: tokP nodeIds ty2 py2))), true)], []) | _ => ([], []), fun _ => [], true, fun _ => none, none⟩
noncomputable def Ed (d : Nat) : Entry := ⟨98, false, false, fun | [.d (.agg [(.int .i64 s), (.iface ty py), (.iface ty2 py2)])] => (nodeW nodeIds ty py && decide ((tokP nodeIds ty py).length ≤ 1048576) && nodeW nodeIds ty2 py2 && decide ((tokP nodeIds ty2 py2).length ≤ 1048576) && decide (2 * (SizeOf.sizeOf py + SizeOf.sizeOf py2) + 2 < d)) | _ => false, fun | [.d (.agg [(.int .i64 s), (.iface ty py), (.iface ty2 py2)])] => ([.one ((.seq 2 (tokDs (opTk nodeIds ty py ++ (2, s) :: tokP nodeIds ty2 py2))), true)], []) | _ => ([], []), fun _ => [], true, fun _ => none, none⟩
theorem Ed_zero : CallSpec Try.prog (Ed 0) := CallSpec.void ⟨Try.f98, by kernel_rfl, by kernel_rfl, by kernel_rfl⟩ (fun xs => by dsimp only [Ed]; split <;> simp) (fun _ => rfl)
theorem E_of (h : ∀ d, CallSpec Try.prog (Ed d)) : CallSpec Try.prog E := CallSpec.union Ed h (fun _ => rfl) (fun _ => rfl) (fun _ => rfl) fun xs hp => by
  dsimp only [E] at hp
  split at hp
  · rename_i s ty py ty2 py2
    refine ⟨2 * (SizeOf.sizeOf py + SizeOf.sizeOf py2) + 2 + 1, ?_, rfl⟩
    show (_ && decide (_ < _)) = true
    rw [hp]
    exact decide_eq_true (Nat.lt_succ_self _)
  · cases hp
end impl_twoNode_tokens
namespace impl_reduceNode_tokens
noncomputable def E : Entry := ⟨102, false, false, fun | [.d (.agg [(.int .i64 s), (.iface ty py)])] => nodeW nodeIds ty py && decide ((tokP nodeIds ty py).length ≤ 1048576) | _ => false, fun | [.d (.agg [(.int .i64 s), (.iface ty py)])] => ([.one ((.seq 2 (tokDs ((2, s) :: (2, 12) :: tokP nodeIds ty py))), true)], []) | _ => ([], []), fun _ => [], true, fun _ => none, none⟩
noncomputable def Ed (d : Nat) : Entry := ⟨102, false, false, fun | [.d (.agg [(.int .i64 s), (.iface ty py)])] => (nodeW nodeIds ty py && decide ((tokP nodeIds ty py).length ≤ 1048576) && decide (2 * SizeOf.sizeOf py + 1 < d)) | _ => false, fun | [.d (.agg [(.int .i64 s), (.iface ty py)])] => ([.one ((.seq 2 (tokDs ((2, s) :: (2, 12) :: tokP nodeIds ty py))), true)], []) | _ => ([], []), fun _ => [], true, fun _ => none, none⟩
theorem Ed_zero : CallSpec Try.prog (Ed 0) := CallSpec.void ⟨Try.f102, by kernel_rfl, by kernel_rfl, by kernel_rfl⟩ (fun xs => by dsimp only [Ed]; split <;> simp) (fun _ => rfl)
theorem E_of (h : ∀ d, CallSpec Try.prog (Ed d)) : CallSpec Try.prog E := CallSpec.union Ed h (fun _ => rfl) (fun _ => rfl) (fun _ => rfl) fun xs hp => by
  dsimp only [E] at hp
  split at hp
  · rename_i s ty py
    refine ⟨2 * SizeOf.sizeOf py + 1 + 1, ?_, rfl⟩
    show (_ && decide (_ < _)) = true
    rw [hp]
    exact decide_eq_true (Nat.lt_succ_self _)
  · cases hp
end impl_reduceNode_tokens
namespace node_tokens
noncomputable def E : Entry := ⟨0, false, false, fun | [.d (.iface ty py)] => nodeW nodeIds ty py && decide ((tokP nodeIds ty py).length ≤ 1048576) | _ => false, fun | [.d (.iface ty py)] => ([.one ((.seq 2 (tokDs (tokP nodeIds ty py))), true)], []) | _ => ([], []), fun _ => [], true, fun _ => none, (some "loop.example/arraylanguage/impl.tokens")⟩
noncomputable def Ed (d : Nat) : Entry := ⟨0, false, false, fun | [.d (.iface ty py)] => (nodeW nodeIds ty py && decide ((tokP nodeIds ty py).length ≤ 1048576) && decide (2 * SizeOf.sizeOf py < d)) | _ => false, fun | [.d (.iface ty py)] => ([.one ((.seq 2 (tokDs (tokP nodeIds ty py))), true)], []) | _ => ([], []), fun _ => [], true, fun _ => none, (some "loop.example/arraylanguage/impl.tokens")⟩
theorem E_of (h : ∀ d, CallSpec Try.prog (Ed d)) : CallSpec Try.prog E := CallSpec.union Ed h (fun _ => rfl) (fun _ => rfl) (fun _ => rfl) fun xs hp => by
  dsimp only [E] at hp
  split at hp
  · rename_i ty py
    refine ⟨2 * SizeOf.sizeOf py + 1, ?_, rfl⟩
    show (_ && decide (_ < _)) = true
    rw [hp]
    exact decide_eq_true (Nat.lt_succ_self _)
  · cases hp
end node_tokens
namespace impl_operandTokens
noncomputable def X (d : Nat) : List Entry := [node_tokens.Ed d, impl_signTokens.E, slices_Concat_3.E]
noncomputable def I : List Inl := [⟨100, Try.f100, ⟨[11, 20], [], [], [], [4, 8, 10], []⟩⟩]
theorem I_ok : ∀ i ∈ I, Try.prog.funcs[i.f]? = some i.fn ∧ (i.fn.name == "runtime.NumGoroutine") = false := by
  intro i hi
  simp only [I, List.mem_cons, List.not_mem_nil, or_false] at hi
  subst hi
  exact ⟨by kernel_rfl, by kernel_rfl⟩
theorem e (d : Nat) (fuel : Nat) (p0t : Nat) (p0d : D) : runF Try.prog (X d) I 0 fuel 100 Try.f100 [.d (.iface p0t p0d)] =
  (bif (bif ((p0t : Nat) == 85) then true else ((p0t : Nat) == 87)) then
  (bif (nodeW nodeIds p0t p0d && decide ((tokP nodeIds p0t p0d).length ≤ 1048576) && decide (2 * SizeOf.sizeOf p0d < d)) then
  some ([.one ((.seq 2 (tokDs (tokP nodeIds p0t p0d))), true)], [])
  else
  none)
  else
  (bif decide ((([13] : List Int)).length ≤ 1048576) then
  (bif (nodeW nodeIds p0t p0d && decide ((tokP nodeIds p0t p0d).length ≤ 1048576) && decide (2 * SizeOf.sizeOf p0d < d)) then
  (bif decide ((([14] : List Int)).length ≤ 1048576) then
  (bif okDs 2 ((tokDs (sgnT (([13] : List Int))))) && okDs 2 ((tokDs (tokP nodeIds p0t p0d))) && decide ((((tokDs (sgnT (([13] : List Int))))) : List D).length ≤ 4194304) && decide ((((tokDs (tokP nodeIds p0t p0d))) : List D).length ≤ 4194304) && okDs 2 ((tokDs (sgnT (([14] : List Int))))) && decide ((((tokDs (sgnT (([14] : List Int))))) : List D).length ≤ 4194304) then
  some ([.one ((.seq 2 (((tokDs (sgnT (([13] : List Int))))) ++ ((tokDs (tokP nodeIds p0t p0d))) ++ ((tokDs (sgnT (([14] : List Int))))))), true)], [])
  else
  none)
  else
  none)
  else
  none)
  else
  none)) := by kernel_rfl
end impl_operandTokens
theorem impl_operandTokens.ok_of (d : Nat) (hX : ∀ E ∈ impl_operandTokens.X d, CallSpec Try.prog E) (h : ∀ (ty : Nat) (py : D), ((nodeW nodeIds ty py && decide ((tokP nodeIds ty py).length ≤ 1048576)) && decide (2 * SizeOf.sizeOf py + 1 < d + 1)) = true → ∃ fuel, runF Try.prog (impl_operandTokens.X d) impl_operandTokens.I 0 fuel 100 Try.f100 [.d (.iface ty py)] = some ([.one ((.seq 2 (tokDs (opTk nodeIds ty py))), true)], [])) : CallSpec Try.prog (impl_operandTokens.Ed (d + 1)) :=
  callSpec_of (d := 0) hX (by kernel_rfl) impl_operandTokens.I_ok (by kernel_rfl) (by kernel_rfl) (by kernel_rfl) (fun _ _ _ _ h => by dsimp only [impl_operandTokens.Ed] at h; cases h) (fun xs hp => by
    dsimp only [impl_operandTokens.Ed] at hp ⊢
    split at hp
    · exact h _ _ hp
    · cases hp)
theorem impl_operandTokens.step (d : Nat) (hn : CallSpec Try.prog (node_tokens.Ed d)) : CallSpec Try.prog (impl_operandTokens.Ed (d + 1)) := impl_operandTokens.ok_of d (by simp [impl_operandTokens.X, hn, impl_signTokens.ok, slices_Concat_3.ok]) fun ty py h => ⟨1, by
  simp only [Bool.and_eq_true, decide_eq_true_eq] at h
  obtain ⟨⟨h1, h2⟩, h3⟩ := h
  rw [impl_operandTokens.e, h1, decide_eq_true h2, decide_eq_true (p := 2 * SizeOf.sizeOf py < d) (by omega), Bool.and_self, Bool.and_self, cond_true, cond_true, opTk]
  by_cases hc : ty = nodeIds.n0 ∨ ty = nodeIds.n1
  · rw [if_pos hc, show (bif ((ty : Nat) == nodeIds.n0) then true else ((ty : Nat) == nodeIds.n1)) = true by rcases hc with hc | hc <;> simp [hc], cond_true]
  · have hn0 : ty ≠ nodeIds.n0 := fun e => hc (.inl e)
    have hn1 : ty ≠ nodeIds.n1 := fun e => hc (.inr e)
    rw [if_neg hc, show (bif ((ty : Nat) == nodeIds.n0) then true else ((ty : Nat) == nodeIds.n1)) = false by rw [beq_eq_false_iff_ne.2 hn0, beq_eq_false_iff_ne.2 hn1]; rfl, cond_false, show decide (([13] : List Int).length ≤ 1048576) = true from rfl, show decide (([14] : List Int).length ≤ 1048576) = true from rfl, cond_true, cond_true, tokDs_ok, tokDs_ok, tokDs_ok, tokDs_length, tokDs_length, tokDs_length, show decide ((sgnT [13]).length ≤ 4194304) = true from rfl, show decide ((sgnT [14]).length ≤ 4194304) = true from rfl, decide_eq_true (p := (tokP nodeIds ty py).length ≤ 4194304) (by omega), tokDs_app, tokDs_app]
    rfl⟩

namespace impl_numsNode_tokens
noncomputable def E : Entry := ⟨86, false, false, fun | [.d (.agg [(.ints .i64 xs)])] => decide (xs.length ≤ 1048576) | _ => false, fun | [.d (.agg [(.ints .i64 xs)])] => ([.one ((.seq 2 (tokDs (numT xs))), true)], []) | _ => ([], []), fun _ => [], true, fun _ => none, none⟩
end impl_numsNode_tokens
namespace impl_numsNode_tokens
noncomputable def X : List Entry := []
noncomputable def I : List Inl := [⟨86, Try.f86, ⟨[], [(1000003, [0, 1, 2, 4, 5, 6, 7, 8, 9, 10, 14, 15, 16, 17, 18, 19, 20, 21, 22, 23, 24])], [], [], [], []⟩⟩]
theorem I_ok : ∀ i ∈ I, Try.prog.funcs[i.f]? = some i.fn ∧ (i.fn.name == "runtime.NumGoroutine") = false := by
  intro i hi
  simp only [I, List.mem_cons, List.not_mem_nil, or_false] at hi
  subst hi
  exact ⟨by kernel_rfl, by kernel_rfl⟩
noncomputable abbrev L0 (fuel n : Nat) (s : St) (k : Kont) := lAt Try.prog X I fuel true 0 false 86 (bodyOf Try.f86) [1, 1, 0, 1, 0] n s k
noncomputable abbrev k0  (fuel : Nat) : Kont := (kAt Try.prog X I fuel true 0 false 86 (bodyOf Try.f86) [1, 1, 0, 1, 0] [] (endK Try.prog Try.f86))
noncomputable def t0 (p0q0 : List Int) (x0q2 : Int) (x0q3 : List D) : St := ⟨[.dead, .dead, .dead, (.all 1000000000 2), .dead, .dead, .dead, .dead, .dead, .dead, .dead, (.imm (.ints .i64 p0q0)), (.imm (.int .i64 ((p0q0.length : Nat) : Int))), (.imm (.int .i64 x0q2)), .dead, .dead, .dead, .dead, .dead, .dead, .dead, .dead, .dead, .dead, .dead], hOf [(1000000000, (.ds 2 x0q3))], [], []⟩
theorem e (fuel : Nat) (p0q0 : List Int) : runF Try.prog X I 0 fuel 86 Try.f86 [.d (.agg [(.ints .i64 p0q0)])] =
  (bif decide (0 ≤ (((p0q0.length : Nat) : Int) : Int)) && decide ((((p0q0.length : Nat) : Int) : Int) ≤ ((p0q0.length : Nat) : Int)) && decide ((((p0q0.length : Nat) : Int) : Int) ≤ 1152921504606846976) && decide (((16 : Nat) : Int) * ((p0q0.length : Nat) : Int) ≤ 281474976710656) then
  L0 fuel fuel (t0 p0q0 0 ((List.replicate (((p0q0.length : Nat) : Int)).toNat ((.agg [(.int .i64 0), (.int .i64 0)]) : D)))) (k0  fuel)
  else
  none) := by kernel_rfl
theorem s0 (fuel n0 : Nat) (p0q0 : List Int) (x0q2 : Int) (x0q3 : List D) : L0 fuel (n0 + 1) (t0 p0q0 x0q2 x0q3) (k0  fuel) =
  (bif (decide ((x0q2 : Int) < ((p0q0.length : Nat) : Int))) then
  (idx x0q2 p0q0.length).bind fun j7 =>
  (p0q0[j7]?).bind fun v8 =>
  (idx x0q2 x0q3.length).bind fun j9 =>
  (bif decide (j9 < x0q3.length) then
  L0 fuel n0 (t0 p0q0 ((IntKind.wrap .i64 (x0q2 + 1))) ((x0q3.set j9 (.agg [(.int .i64 0), (.int .i64 v8)])))) (k0  fuel)
  else
  none)
  else
  some ([.one ((.seq 2 x0q3), true)], [])) := by kernel_rfl
end impl_numsNode_tokens
theorem impl_numsNode_tokens.ok_of (hX : ∀ E ∈ impl_numsNode_tokens.X, CallSpec Try.prog E) (h : ∀ (xs : List Int), (decide (xs.length ≤ 1048576)) = true → ∃ fuel, runF Try.prog impl_numsNode_tokens.X impl_numsNode_tokens.I 0 fuel 86 Try.f86 [.d (.agg [(.ints .i64 xs)])] = some ([.one ((.seq 2 (tokDs (numT xs))), true)], [])) : CallSpec Try.prog impl_numsNode_tokens.E :=
  callSpec_of (d := 0) hX (by kernel_rfl) impl_numsNode_tokens.I_ok (by kernel_rfl) (by kernel_rfl) (by kernel_rfl) (fun _ _ _ _ h => by dsimp only [impl_numsNode_tokens.E] at h; cases h) (fun xs hp => by
    dsimp only [impl_numsNode_tokens.E] at hp ⊢
    split at hp
    · exact h _ hp
    · cases hp)
theorem impl_numsNode_tokens.loop (F : Nat) (xs : List Int) (hF : xs.length < F) (hl : xs.length ≤ 1048576) : impl_numsNode_tokens.L0 F F (impl_numsNode_tokens.t0 xs 0 (List.replicate xs.length (.agg [(.int .i64 0), (.int .i64 0)]))) (impl_numsNode_tokens.k0 F) = some ([.one (.seq 2 (tokDs (numT xs)), true)], []) := by
  have hpl : (tokDs (numT xs)).length = xs.length := by simp [tokDs, numT]
  refine cnt_loop (σ := List D) (N := xs.length) (fun q j out => impl_numsNode_tokens.L0 F q (impl_numsNode_tokens.t0 xs (j : Int) out) (impl_numsNode_tokens.k0 F))
    (fun j out => out = partG (tokDs (numT xs)) (.agg [(.int .i64 0), (.int .i64 0)]) j) ?_ ?_ F 0 _ (by omega) (by omega) (by rw [partG_zero, hpl])
  · rintro q out hI
    rw [impl_numsNode_tokens.s0, dge (by omega), cond_false, hI, ← hpl, partG_all]
  · intro q j out hj hI
    have hol : out.length = xs.length := by rw [hI, partG_length (by omega), hpl]
    rw [impl_numsNode_tokens.s0, dlt hj, cond_true, idx_nat hj, Option.bind_some, getD_get hj, Option.bind_some, hol, idx_nat hj, Option.bind_some, decide_eq_true hj, cond_true, w1 (by omega)]
    refine .inr ⟨_, ?_, rfl⟩
    rw [hI]
    have e : (tokDs (numT xs))[j]'(by omega) = .agg [.int .i64 0, .int .i64 (xs.getD j 0)] := tokD_get hj _
    rw [← e]
    exact partG_set (by omega)
theorem impl_numsNode_tokens.ok : CallSpec Try.prog impl_numsNode_tokens.E := impl_numsNode_tokens.ok_of (by simp [impl_numsNode_tokens.X]) fun xs h => ⟨xs.length + 1, by
  have h1 := of_decide_eq_true h
  rw [impl_numsNode_tokens.e, le20 h1, cond_true, Int.toNat_natCast]
  exact impl_numsNode_tokens.loop _ xs (by omega) h1⟩

namespace impl_nameNode_tokens
noncomputable def E : Entry := ⟨91, false, false, fun | [.d (.agg [(.int .i64 n)])] => true | _ => false, fun | [.d (.agg [(.int .i64 n)])] => ([.one ((.seq 2 (tokDs [(1, n)])), true)], []) | _ => ([], []), fun _ => [], true, fun _ => none, none⟩
end impl_nameNode_tokens
namespace impl_nameNode_tokens
noncomputable def X : List Entry := []
noncomputable def I : List Inl := [⟨91, Try.f91, ⟨[], [], [], [], [], []⟩⟩]
theorem I_ok : ∀ i ∈ I, Try.prog.funcs[i.f]? = some i.fn ∧ (i.fn.name == "runtime.NumGoroutine") = false := by
  intro i hi
  simp only [I, List.mem_cons, List.not_mem_nil, or_false] at hi
  subst hi
  exact ⟨by kernel_rfl, by kernel_rfl⟩
theorem e (fuel : Nat) (p0q0 : Int) : runF Try.prog X I 0 fuel 91 Try.f91 [.d (.agg [(.int .i64 p0q0)])] =
  some ([.one ((.seq 2 ([(.agg [(.int .i64 1), (.int .i64 p0q0)])] : List D)), true)], []) := by kernel_rfl
end impl_nameNode_tokens
theorem impl_nameNode_tokens.ok_of (hX : ∀ E ∈ impl_nameNode_tokens.X, CallSpec Try.prog E) (h : ∀ (n : Int), (true) = true → ∃ fuel, runF Try.prog impl_nameNode_tokens.X impl_nameNode_tokens.I 0 fuel 91 Try.f91 [.d (.agg [(.int .i64 n)])] = some ([.one ((.seq 2 (tokDs [(1, n)])), true)], [])) : CallSpec Try.prog impl_nameNode_tokens.E :=
  callSpec_of (d := 0) hX (by kernel_rfl) impl_nameNode_tokens.I_ok (by kernel_rfl) (by kernel_rfl) (by kernel_rfl) (fun _ _ _ _ h => by dsimp only [impl_nameNode_tokens.E] at h; cases h) (fun xs hp => by
    dsimp only [impl_nameNode_tokens.E] at hp ⊢
    split at hp
    · exact h _ hp
    · cases hp)
theorem impl_nameNode_tokens.ok : CallSpec Try.prog impl_nameNode_tokens.E := impl_nameNode_tokens.ok_of (by simp [impl_nameNode_tokens.X]) fun n _ => ⟨0, by rw [impl_nameNode_tokens.e]; rfl⟩

namespace slices_Concat_impl_Token_impl_Token
noncomputable def E : Entry := ⟨94, false, false, fun | [.d (.seq 1 [(.seq 2 xs), (.seq 2 ys)])] => okDs 2 xs && okDs 2 ys && decide ((xs : List D).length ≤ 4194304) && decide ((ys : List D).length ≤ 4194304) | _ => false, fun | [.d (.seq 1 [(.seq 2 xs), (.seq 2 ys)])] => ([.one ((.seq 2 (xs ++ ys)), true)], []) | _ => ([], []), fun _ => [], true, fun _ => none, none⟩
end slices_Concat_impl_Token_impl_Token
namespace slices_Concat_impl_Token_impl_Token
noncomputable def X : List Entry := []
noncomputable def I : List Inl := [⟨94, Try.f94, ⟨[24], [(9, [1, 2, 4, 5, 6, 7, 8, 9, 10, 11, 12, 13, 14, 15, 16, 17, 18, 19, 20, 21, 22, 23, 24, 25, 26, 27, 28, 29, 30, 31, 32, 33, 34, 35]), (1000003, [1, 2, 4, 5, 6, 7, 8, 12, 13, 14, 15, 16, 17, 18, 19, 20, 21, 22, 23, 24, 25, 26, 27, 28, 29, 30, 31, 32, 33, 34, 35]), (1000011, [0, 1, 2, 3, 4, 5, 7, 8, 9, 10, 11, 12, 13, 14, 15, 16, 17, 18, 19, 20, 21, 22, 23, 24, 28, 29, 30, 31, 32, 33, 34, 35])], [], [], [], []⟩⟩, ⟨96, Try.f96, ⟨[], [], [], [], [], []⟩⟩]
theorem I_ok : ∀ i ∈ I, Try.prog.funcs[i.f]? = some i.fn ∧ (i.fn.name == "runtime.NumGoroutine") = false := by
  intro i hi
  simp only [I, List.mem_cons, List.not_mem_nil, or_false] at hi
  rcases hi with rfl | rfl
  all_goals exact ⟨by kernel_rfl, by kernel_rfl⟩
theorem e (p0e0 : List D) (p0e1 : List D) : runF Try.prog X I 4 8 94 Try.f94 [.d (.seq 1 [(.seq 2 p0e0), (.seq 2 p0e1)])] =
  (bif (decide (((IntKind.wrap .i64 (0 + ((p0e0.length : Nat) : Int))) : Int) < 0)) then
  none
  else
  (bif (decide (((IntKind.wrap .i64 ((IntKind.wrap .i64 (0 + ((p0e0.length : Nat) : Int))) + ((p0e1.length : Nat) : Int))) : Int) < 0)) then
  none
  else
  (bif (decide (((IntKind.wrap .i64 ((IntKind.wrap .i64 (0 + ((p0e0.length : Nat) : Int))) + ((p0e1.length : Nat) : Int))) : Int) < 0)) then
  none
  else
  (bif (decide (((IntKind.wrap .i64 ((IntKind.wrap .i64 ((IntKind.wrap .i64 (0 + ((p0e0.length : Nat) : Int))) + ((p0e1.length : Nat) : Int))) - 0)) : Int) > 0)) then
  (cutEnds 0 (none) (some (.imm (.int .i64 0)))).bind fun cq3 =>
  (bif decide (0 ≤ ((IntKind.wrap .i64 ((IntKind.wrap .i64 ((IntKind.wrap .i64 (0 + ((p0e0.length : Nat) : Int))) + ((p0e1.length : Nat) : Int))) - 0)) : Int)) && fits ((IntKind.wrap .i64 ((IntKind.wrap .i64 ((IntKind.wrap .i64 (0 + ((p0e0.length : Nat) : Int))) + ((p0e1.length : Nat) : Int))) - 0))).toNat 16 then
  (cutEnds (List.replicate ((IntKind.wrap .i64 ((IntKind.wrap .i64 ((IntKind.wrap .i64 (0 + ((p0e0.length : Nat) : Int))) + ((p0e1.length : Nat) : Int))) - 0))).toNat ((.agg [(.int .i64 0), (.int .i64 0)]) : D)).length (none) (some (.imm (.int .i64 0)))).bind fun cq4 =>
  (bif okDs 2 p0e0 then
  (bif decide (cq4.1 = 0) && decide ((cq4.2 - cq4.1) ≤ (List.replicate ((IntKind.wrap .i64 ((IntKind.wrap .i64 ((IntKind.wrap .i64 (0 + ((p0e0.length : Nat) : Int))) + ((p0e1.length : Nat) : Int))) - 0))).toNat ((.agg [(.int .i64 0), (.int .i64 0)]) : D)).length) && fits ((cq4.2 - cq4.1) + p0e0.length) 16 then
  (bif okDs 2 p0e1 then
  (bif fits (((List.replicate ((IntKind.wrap .i64 ((IntKind.wrap .i64 ((IntKind.wrap .i64 (0 + ((p0e0.length : Nat) : Int))) + ((p0e1.length : Nat) : Int))) - 0))).toNat ((.agg [(.int .i64 0), (.int .i64 0)]) : D)).take ((cq4.2 - cq4.1)) ++ p0e0).length + p0e1.length) 16 then
  some ([.one ((.seq 2 (((List.replicate ((IntKind.wrap .i64 ((IntKind.wrap .i64 ((IntKind.wrap .i64 (0 + ((p0e0.length : Nat) : Int))) + ((p0e1.length : Nat) : Int))) - 0))).toNat ((.agg [(.int .i64 0), (.int .i64 0)]) : D)).take ((cq4.2 - cq4.1)) ++ p0e0) ++ p0e1)), true)], [])
  else
  none)
  else
  none)
  else
  none)
  else
  none)
  else
  none)
  else
  (bif okDs 2 p0e0 then
  (bif fits p0e0.length 16 then
  (bif okDs 2 p0e1 then
  (bif fits (p0e0.length + p0e1.length) 16 then
  some ([.one ((.seq 2 (p0e0 ++ p0e1)), true)], [])
  else
  none)
  else
  none)
  else
  none)
  else
  none))))) := by kernel_rfl
end slices_Concat_impl_Token_impl_Token
theorem slices_Concat_impl_Token_impl_Token.ok_of (hX : ∀ E ∈ slices_Concat_impl_Token_impl_Token.X, CallSpec Try.prog E) (h : ∀ (xs : List D) (ys : List D), (okDs 2 xs && okDs 2 ys && decide ((xs : List D).length ≤ 4194304) && decide ((ys : List D).length ≤ 4194304)) = true → ∃ fuel, runF Try.prog slices_Concat_impl_Token_impl_Token.X slices_Concat_impl_Token_impl_Token.I 4 fuel 94 Try.f94 [.d (.seq 1 [(.seq 2 xs), (.seq 2 ys)])] = some ([.one ((.seq 2 (xs ++ ys)), true)], [])) : CallSpec Try.prog slices_Concat_impl_Token_impl_Token.E :=
  callSpec_of (d := 4) hX (by kernel_rfl) slices_Concat_impl_Token_impl_Token.I_ok (by kernel_rfl) (by kernel_rfl) (by kernel_rfl) (fun _ _ _ _ h => by dsimp only [slices_Concat_impl_Token_impl_Token.E] at h; cases h) (fun xs hp => by
    dsimp only [slices_Concat_impl_Token_impl_Token.E] at hp ⊢
    split at hp
    · exact h _ _ hp
    · cases hp)
theorem slices_Concat_impl_Token_impl_Token.ok : CallSpec Try.prog slices_Concat_impl_Token_impl_Token.E := slices_Concat_impl_Token_impl_Token.ok_of (by simp [slices_Concat_impl_Token_impl_Token.X]) fun xs ys h => ⟨8, by
  simp only [Bool.and_eq_true, decide_eq_true_eq] at h
  obtain ⟨⟨⟨o1, o2⟩, h1⟩, h2⟩ := h
  have e0 : IntKind.wrap .i64 (0 + ((xs.length : Nat) : Int)) = ((xs.length : Nat) : Int) := by rw [Int.zero_add, wN (by omega)]
  have e1 : IntKind.wrap .i64 (((xs.length : Nat) : Int) + ((ys.length : Nat) : Int)) = ((xs.length + ys.length : Nat) : Int) := wAdd (by omega)
  have e2 : IntKind.wrap .i64 (((xs.length + ys.length : Nat) : Int) - 0) = ((xs.length + ys.length : Nat) : Int) := by rw [Int.sub_zero, wN (by omega)]
  rw [slices_Concat_impl_Token_impl_Token.e, e0, e1, e2, decide_eq_false (p := ((xs.length : Nat) : Int) < 0) (by omega), decide_eq_false (p := ((xs.length + ys.length : Nat) : Int) < 0) (by omega), cond_false, cond_false, cond_false]
  by_cases h0 : ((xs.length + ys.length : Nat) : Int) > 0
  · rw [decide_eq_true h0, cond_true, Int.toNat_natCast, show (some (AV.imm (.int .i64 0)) : Option AV) = some (.imm (.int .i64 ((0 : Nat) : Int))) from rfl, cut_hi (Nat.le_refl 0), cut_hi (Nat.zero_le _)]
    simp only [Option.bind_some]
    rw [decide_eq_true (p := (0 : Int) ≤ ((xs.length + ys.length : Nat) : Int)) (by omega), fits16 (by omega)]
    simp only [Nat.sub_self, List.take_zero, List.nil_append, Nat.zero_le, decide_true, Bool.and_self, Bool.true_and, cond_true, Nat.zero_add, o1, o2]
    rw [fits16 (by omega), cond_true, fits16 (by omega), cond_true]
  · rw [decide_eq_false h0, cond_false, o1, cond_true, fits16 (by omega), cond_true, o2, cond_true, fits16 (by omega), cond_true]⟩

namespace impl_oneNode_tokens
noncomputable def X (d : Nat) : List Entry := [impl_signTokens.E, node_tokens.Ed d, slices_Concat_impl_Token_impl_Token.E]
noncomputable def I : List Inl := [⟨93, Try.f93, ⟨[11], [], [], [(1, [0, 4, 1, 5, 2, 3, 6, 7, 8, 9])], [5, 10], []⟩⟩]
theorem I_ok : ∀ i ∈ I, Try.prog.funcs[i.f]? = some i.fn ∧ (i.fn.name == "runtime.NumGoroutine") = false := by
  intro i hi
  simp only [I, List.mem_cons, List.not_mem_nil, or_false] at hi
  subst hi
  exact ⟨by kernel_rfl, by kernel_rfl⟩
theorem e (d : Nat) (fuel : Nat) (p0q0 : Int) (p0q1t : Nat) (p0q1d : D) : runF Try.prog (X d) I 0 fuel 93 Try.f93 [.d (.agg [(.int .i64 p0q0), (.iface p0q1t p0q1d)])] =
  (bif decide ((([p0q0] : List Int)).length ≤ 1048576) then
  (bif (nodeW nodeIds p0q1t p0q1d && decide ((tokP nodeIds p0q1t p0q1d).length ≤ 1048576) && decide (2 * SizeOf.sizeOf p0q1d < d)) then
  (bif okDs 2 ((tokDs (sgnT (([p0q0] : List Int))))) && okDs 2 ((tokDs (tokP nodeIds p0q1t p0q1d))) && decide ((((tokDs (sgnT (([p0q0] : List Int))))) : List D).length ≤ 4194304) && decide ((((tokDs (tokP nodeIds p0q1t p0q1d))) : List D).length ≤ 4194304) then
  some ([.one ((.seq 2 (((tokDs (sgnT (([p0q0] : List Int))))) ++ ((tokDs (tokP nodeIds p0q1t p0q1d))))), true)], [])
  else
  none)
  else
  none)
  else
  none) := by kernel_rfl
end impl_oneNode_tokens
theorem impl_oneNode_tokens.ok_of (d : Nat) (hX : ∀ E ∈ impl_oneNode_tokens.X d, CallSpec Try.prog E) (h : ∀ (s : Int) (ty : Nat) (py : D), ((nodeW nodeIds ty py && decide ((tokP nodeIds ty py).length ≤ 1048576)) && decide (2 * SizeOf.sizeOf py + 1 < d + 1)) = true → ∃ fuel, runF Try.prog (impl_oneNode_tokens.X d) impl_oneNode_tokens.I 0 fuel 93 Try.f93 [.d (.agg [(.int .i64 s), (.iface ty py)])] = some ([.one ((.seq 2 (tokDs ((2, s) :: tokP nodeIds ty py))), true)], [])) : CallSpec Try.prog (impl_oneNode_tokens.Ed (d + 1)) :=
  callSpec_of (d := 0) hX (by kernel_rfl) impl_oneNode_tokens.I_ok (by kernel_rfl) (by kernel_rfl) (by kernel_rfl) (fun _ _ _ _ h => by dsimp only [impl_oneNode_tokens.Ed] at h; cases h) (fun xs hp => by
    dsimp only [impl_oneNode_tokens.Ed] at hp ⊢
    split at hp
    · exact h _ _ _ hp
    · cases hp)
theorem impl_oneNode_tokens.step (d : Nat) (hn : CallSpec Try.prog (node_tokens.Ed d)) : CallSpec Try.prog (impl_oneNode_tokens.Ed (d + 1)) := impl_oneNode_tokens.ok_of d (by simp [impl_oneNode_tokens.X, hn, impl_signTokens.ok, slices_Concat_impl_Token_impl_Token.ok]) fun s ty py h => ⟨1, by
  simp only [Bool.and_eq_true, decide_eq_true_eq] at h
  obtain ⟨⟨h1, h2⟩, h3⟩ := h
  rw [impl_oneNode_tokens.e, show decide (([s] : List Int).length ≤ 1048576) = true from rfl, cond_true, h1, decide_eq_true h2, decide_eq_true (p := 2 * SizeOf.sizeOf py < d) (by omega), Bool.and_self, Bool.and_self, cond_true, tokDs_ok, tokDs_ok, tokDs_length, tokDs_length, show decide ((sgnT [s]).length ≤ 4194304) = true from rfl, decide_eq_true (p := (tokP nodeIds ty py).length ≤ 4194304) (by omega), tokDs_app]
  rfl⟩

namespace impl_twoNode_tokens
noncomputable def X (d : Nat) : List Entry := [impl_operandTokens.Ed d, impl_signTokens.E, node_tokens.Ed d, slices_Concat_3.E]
noncomputable def I : List Inl := [⟨98, Try.f98, ⟨[14], [], [], [(1, [0, 3, 7, 1, 4, 8, 2, 5, 6, 9, 10, 11, 12])], [8, 13], []⟩⟩]
theorem I_ok : ∀ i ∈ I, Try.prog.funcs[i.f]? = some i.fn ∧ (i.fn.name == "runtime.NumGoroutine") = false := by
  intro i hi
  simp only [I, List.mem_cons, List.not_mem_nil, or_false] at hi
  subst hi
  exact ⟨by kernel_rfl, by kernel_rfl⟩
theorem e (d : Nat) (fuel : Nat) (p0q0 : Int) (p0q1t : Nat) (p0q1d : D) (p0q2t : Nat) (p0q2d : D) : runF Try.prog (X d) I 0 fuel 98 Try.f98 [.d (.agg [(.int .i64 p0q0), (.iface p0q1t p0q1d), (.iface p0q2t p0q2d)])] =
  (bif (nodeW nodeIds p0q1t p0q1d && decide ((tokP nodeIds p0q1t p0q1d).length ≤ 1048576) && decide (2 * SizeOf.sizeOf p0q1d + 1 < d)) then
  (bif decide ((([p0q0] : List Int)).length ≤ 1048576) then
  (bif (nodeW nodeIds p0q2t p0q2d && decide ((tokP nodeIds p0q2t p0q2d).length ≤ 1048576) && decide (2 * SizeOf.sizeOf p0q2d < d)) then
  (bif okDs 2 ((tokDs (opTk nodeIds p0q1t p0q1d))) && okDs 2 ((tokDs (sgnT (([p0q0] : List Int))))) && decide ((((tokDs (opTk nodeIds p0q1t p0q1d))) : List D).length ≤ 4194304) && decide ((((tokDs (sgnT (([p0q0] : List Int))))) : List D).length ≤ 4194304) && okDs 2 ((tokDs (tokP nodeIds p0q2t p0q2d))) && decide ((((tokDs (tokP nodeIds p0q2t p0q2d))) : List D).length ≤ 4194304) then
  some ([.one ((.seq 2 (((tokDs (opTk nodeIds p0q1t p0q1d))) ++ ((tokDs (sgnT (([p0q0] : List Int))))) ++ ((tokDs (tokP nodeIds p0q2t p0q2d))))), true)], [])
  else
  none)
  else
  none)
  else
  none)
  else
  none) := by kernel_rfl
end impl_twoNode_tokens
theorem impl_twoNode_tokens.ok_of (d : Nat) (hX : ∀ E ∈ impl_twoNode_tokens.X d, CallSpec Try.prog E) (h : ∀ (s : Int) (ty : Nat) (py : D) (ty2 : Nat) (py2 : D), ((nodeW nodeIds ty py && decide ((tokP nodeIds ty py).length ≤ 1048576) && nodeW nodeIds ty2 py2 && decide ((tokP nodeIds ty2 py2).length ≤ 1048576)) && decide (2 * (SizeOf.sizeOf py + SizeOf.sizeOf py2) + 2 < d + 1)) = true → ∃ fuel, runF Try.prog (impl_twoNode_tokens.X d) impl_twoNode_tokens.I 0 fuel 98 Try.f98 [.d (.agg [(.int .i64 s), (.iface ty py), (.iface ty2 py2)])] = some ([.one ((.seq 2 (tokDs (opTk nodeIds ty py ++ (2, s) :: tokP nodeIds ty2 py2))), true)], [])) : CallSpec Try.prog (impl_twoNode_tokens.Ed (d + 1)) :=
  callSpec_of (d := 0) hX (by kernel_rfl) impl_twoNode_tokens.I_ok (by kernel_rfl) (by kernel_rfl) (by kernel_rfl) (fun _ _ _ _ h => by dsimp only [impl_twoNode_tokens.Ed] at h; cases h) (fun xs hp => by
    dsimp only [impl_twoNode_tokens.Ed] at hp ⊢
    split at hp
    · exact h _ _ _ _ _ hp
    · cases hp)
theorem impl_twoNode_tokens.step (d : Nat) (hn : CallSpec Try.prog (node_tokens.Ed d)) (ho : CallSpec Try.prog (impl_operandTokens.Ed d)) : CallSpec Try.prog (impl_twoNode_tokens.Ed (d + 1)) := impl_twoNode_tokens.ok_of d (by simp [impl_twoNode_tokens.X, hn, ho, impl_signTokens.ok, slices_Concat_3.ok]) fun s ty py ty2 py2 h => ⟨1, by
  simp only [Bool.and_eq_true, decide_eq_true_eq] at h
  obtain ⟨⟨⟨⟨h1, h2⟩, h4⟩, h5⟩, h3⟩ := h
  have hl : (opTk nodeIds ty py).length ≤ 4194304 := by
    rw [opTk]; split
    · omega
    · simp; omega
  rw [impl_twoNode_tokens.e, h1, decide_eq_true h2, h4, decide_eq_true h5, decide_eq_true (p := 2 * SizeOf.sizeOf py + 1 < d) (by omega), decide_eq_true (p := 2 * SizeOf.sizeOf py2 < d) (by omega), Bool.and_self, Bool.and_self, cond_true, show decide (([s] : List Int).length ≤ 1048576) = true from rfl, cond_true, cond_true, tokDs_ok, tokDs_ok, tokDs_ok, tokDs_length, tokDs_length, tokDs_length, decide_eq_true hl, show decide ((sgnT [s]).length ≤ 4194304) = true from rfl, decide_eq_true (p := (tokP nodeIds ty2 py2).length ≤ 4194304) (by omega), tokDs_app, tokDs_app]
  show some (([.one (.seq 2 (tokDs ((opTk nodeIds ty py ++ [(2, s)]) ++ tokP nodeIds ty2 py2)), true)], []) : Ret) = _
  rw [List.append_assoc]
  rfl⟩

namespace impl_reduceNode_tokens
noncomputable def X (d : Nat) : List Entry := [impl_signTokens.E, node_tokens.Ed d, slices_Concat_impl_Token_impl_Token.E]
noncomputable def I : List Inl := [⟨102, Try.f102, ⟨[11], [], [], [(1, [0, 4, 1, 5, 2, 3, 6, 7, 8, 9])], [5, 10], []⟩⟩]
theorem I_ok : ∀ i ∈ I, Try.prog.funcs[i.f]? = some i.fn ∧ (i.fn.name == "runtime.NumGoroutine") = false := by
  intro i hi
  simp only [I, List.mem_cons, List.not_mem_nil, or_false] at hi
  subst hi
  exact ⟨by kernel_rfl, by kernel_rfl⟩
theorem e (d : Nat) (fuel : Nat) (p0q0 : Int) (p0q1t : Nat) (p0q1d : D) : runF Try.prog (X d) I 0 fuel 102 Try.f102 [.d (.agg [(.int .i64 p0q0), (.iface p0q1t p0q1d)])] =
  (bif decide ((([p0q0, 12] : List Int)).length ≤ 1048576) then
  (bif (nodeW nodeIds p0q1t p0q1d && decide ((tokP nodeIds p0q1t p0q1d).length ≤ 1048576) && decide (2 * SizeOf.sizeOf p0q1d < d)) then
  (bif okDs 2 ((tokDs (sgnT (([p0q0, 12] : List Int))))) && okDs 2 ((tokDs (tokP nodeIds p0q1t p0q1d))) && decide ((((tokDs (sgnT (([p0q0, 12] : List Int))))) : List D).length ≤ 4194304) && decide ((((tokDs (tokP nodeIds p0q1t p0q1d))) : List D).length ≤ 4194304) then
  some ([.one ((.seq 2 (((tokDs (sgnT (([p0q0, 12] : List Int))))) ++ ((tokDs (tokP nodeIds p0q1t p0q1d))))), true)], [])
  else
  none)
  else
  none)
  else
  none) := by kernel_rfl
end impl_reduceNode_tokens
theorem impl_reduceNode_tokens.ok_of (d : Nat) (hX : ∀ E ∈ impl_reduceNode_tokens.X d, CallSpec Try.prog E) (h : ∀ (s : Int) (ty : Nat) (py : D), ((nodeW nodeIds ty py && decide ((tokP nodeIds ty py).length ≤ 1048576)) && decide (2 * SizeOf.sizeOf py + 1 < d + 1)) = true → ∃ fuel, runF Try.prog (impl_reduceNode_tokens.X d) impl_reduceNode_tokens.I 0 fuel 102 Try.f102 [.d (.agg [(.int .i64 s), (.iface ty py)])] = some ([.one ((.seq 2 (tokDs ((2, s) :: (2, 12) :: tokP nodeIds ty py))), true)], [])) : CallSpec Try.prog (impl_reduceNode_tokens.Ed (d + 1)) :=
  callSpec_of (d := 0) hX (by kernel_rfl) impl_reduceNode_tokens.I_ok (by kernel_rfl) (by kernel_rfl) (by kernel_rfl) (fun _ _ _ _ h => by dsimp only [impl_reduceNode_tokens.Ed] at h; cases h) (fun xs hp => by
    dsimp only [impl_reduceNode_tokens.Ed] at hp ⊢
    split at hp
    · exact h _ _ _ hp
    · cases hp)
theorem impl_reduceNode_tokens.step (d : Nat) (hn : CallSpec Try.prog (node_tokens.Ed d)) : CallSpec Try.prog (impl_reduceNode_tokens.Ed (d + 1)) := impl_reduceNode_tokens.ok_of d (by simp [impl_reduceNode_tokens.X, hn, impl_signTokens.ok, slices_Concat_impl_Token_impl_Token.ok]) fun s ty py h => ⟨1, by
  simp only [Bool.and_eq_true, decide_eq_true_eq] at h
  obtain ⟨⟨h1, h2⟩, h3⟩ := h
  rw [impl_reduceNode_tokens.e, show decide (([s, 12] : List Int).length ≤ 1048576) = true from rfl, cond_true, h1, decide_eq_true h2, decide_eq_true (p := 2 * SizeOf.sizeOf py < d) (by omega), Bool.and_self, Bool.and_self, cond_true, tokDs_ok, tokDs_ok, tokDs_length, tokDs_length, show decide ((sgnT [s, 12]).length ≤ 4194304) = true from rfl, decide_eq_true (p := (tokP nodeIds ty py).length ≤ 4194304) (by omega), tokDs_app]
  rfl⟩

theorem node_tokens.step (d : Nat) (h1 : CallSpec Try.prog (impl_oneNode_tokens.Ed d)) (h2 : CallSpec Try.prog (impl_twoNode_tokens.Ed d)) (h4 : CallSpec Try.prog (impl_reduceNode_tokens.Ed d)) : CallSpec Try.prog (node_tokens.Ed (d + 1)) := CallSpec.meth rfl (fun _ => rfl) fun xs h => by
  dsimp only [node_tokens.Ed] at h ⊢
  split at h
  case h_2 => cases h
  rename_i ty py
  simp only [Bool.and_eq_true, decide_eq_true_eq] at h
  obtain ⟨⟨hw, hl⟩, hr⟩ := h
  unfold nodeW at hw
  split at hw
  · simp only [Bool.and_eq_true, decide_eq_true_eq, beq_iff_eq] at hw
    obtain ⟨⟨rfl, rfl⟩, hx⟩ := hw
    refine ⟨_, _, [], _, rfl, impl_numsNode_tokens.ok, rfl, by kernel_rfl, decide_eq_true (by omega), ?_⟩
    exact congrArg (fun l => (([.one (.seq 2 (tokDs l), true)], []) : Ret)) (show numT _ = _ by rw [tokP]; rfl)
  · simp only [Bool.and_eq_true, decide_eq_true_eq, beq_iff_eq] at hw
    obtain ⟨rfl, rfl⟩ := hw
    refine ⟨_, _, [], _, rfl, impl_nameNode_tokens.ok, rfl, by kernel_rfl, rfl, ?_⟩
    exact congrArg (fun l => (([.one (.seq 2 (tokDs l), true)], []) : Ret)) (show [(1, _)] = _ by rw [tokP])
  · rename_i k s t1 d1
    simp only [Bool.and_eq_true, Bool.or_eq_true, decide_eq_true_eq, beq_iff_eq] at hw
    obtain ⟨⟨hty, rfl⟩, hw⟩ := hw
    have hz := sz_le1 t1 s d1
    rcases hty with rfl | rfl
    · have e : tokP nodeIds nodeIds.n2 (.agg [.int .i64 s, .iface t1 d1]) = (2, s) :: tokP nodeIds t1 d1 := by rw [tokP, if_pos rfl]
      rw [e] at hl
      simp only [List.length_cons] at hl
      refine ⟨_, _, [], _, rfl, h1, rfl, by kernel_rfl, ?_, congrArg (fun l => (([.one (.seq 2 (tokDs l), true)], []) : Ret)) e.symm⟩
      show (_ && decide (_ ≤ 1048576) && decide (_ < d)) = true
      rw [hw, decide_eq_true (p := (tokP nodeIds t1 d1).length ≤ 1048576) (by omega), decide_eq_true (by omega)]; rfl
    · have e : tokP nodeIds nodeIds.n4 (.agg [.int .i64 s, .iface t1 d1]) = (2, s) :: (2, 12) :: tokP nodeIds t1 d1 := by rw [tokP, if_neg (by decide)]
      rw [e] at hl
      simp only [List.length_cons] at hl
      refine ⟨_, _, [], _, rfl, h4, rfl, by kernel_rfl, ?_, congrArg (fun l => (([.one (.seq 2 (tokDs l), true)], []) : Ret)) e.symm⟩
      show (_ && decide (_ ≤ 1048576) && decide (_ < d)) = true
      rw [hw, decide_eq_true (p := (tokP nodeIds t1 d1).length ≤ 1048576) (by omega), decide_eq_true (by omega)]; rfl
  · rename_i k s t1 d1 t2 d2
    simp only [Bool.and_eq_true, decide_eq_true_eq, beq_iff_eq] at hw
    obtain ⟨⟨⟨rfl, rfl⟩, hw⟩, hw2⟩ := hw
    have hz := sz_le2 t1 t2 s d1 d2
    have e : tokP nodeIds nodeIds.n3 (.agg [.int .i64 s, .iface t1 d1, .iface t2 d2]) = opTk nodeIds t1 d1 ++ (2, s) :: tokP nodeIds t2 d2 := by rw [tokP, opTk]
    rw [e] at hl
    simp only [List.length_append, List.length_cons] at hl
    have hl1 : (tokP nodeIds t1 d1).length ≤ (opTk nodeIds t1 d1).length := by
      rw [opTk]; split
      · omega
      · simp; omega
    refine ⟨_, _, [], _, rfl, h2, rfl, by kernel_rfl, ?_, congrArg (fun l => (([.one (.seq 2 (tokDs l), true)], []) : Ret)) e.symm⟩
    show (_ && decide (_ ≤ 1048576) && _ && decide (_ ≤ 1048576) && decide (_ < d)) = true
    rw [hw, hw2, decide_eq_true (p := (tokP nodeIds t1 d1).length ≤ 1048576) (by omega), decide_eq_true (p := (tokP nodeIds t2 d2).length ≤ 1048576) (by omega), decide_eq_true (by omega)]; rfl
  · cases hw
theorem node_tokens.zero : CallSpec Try.prog (node_tokens.Ed 0) := CallSpec.meth rfl (fun _ => rfl) fun xs h => by
  dsimp only [node_tokens.Ed] at h
  split at h
  · simp at h
  · cases h
theorem tok.okd : ∀ d, CallSpec Try.prog (node_tokens.Ed d) ∧ CallSpec Try.prog (impl_oneNode_tokens.Ed d) ∧ CallSpec Try.prog (impl_reduceNode_tokens.Ed d) ∧ CallSpec Try.prog (impl_operandTokens.Ed d) ∧ CallSpec Try.prog (impl_twoNode_tokens.Ed d)
  | 0 => ⟨node_tokens.zero, impl_oneNode_tokens.Ed_zero, impl_reduceNode_tokens.Ed_zero, impl_operandTokens.Ed_zero, impl_twoNode_tokens.Ed_zero⟩
  | d + 1 =>
    have ⟨hn, h1, h4, ho, h2⟩ := tok.okd d
    ⟨node_tokens.step d h1 h2 h4, impl_oneNode_tokens.step d hn, impl_reduceNode_tokens.step d hn, impl_operandTokens.step d hn, impl_twoNode_tokens.step d hn ho⟩
theorem node_tokens.ok : CallSpec Try.prog node_tokens.E := node_tokens.E_of fun d => (tok.okd d).1

namespace impl_TreeTokens
noncomputable def E : Entry := ⟨16, false, false, fun | [.d (.agg [(.int .i64 k), (.int .i64 s), (.int .i64 n), (.ints .i64 xs), (.seq 5 ks)])] => treesB ks | _ => false, fun | [.d (.agg [(.int .i64 k), (.int .i64 s), (.int .i64 n), (.ints .i64 xs), (.seq 5 ks)])] => ([.one ((.seq 2 ([] : List D)), true), .one ((.bool false), false)], []) | _ => ([], []), fun | [.d (.agg [(.int .i64 k), (.int .i64 s), (.int .i64 n), (.ints .i64 xs), (.seq 5 ks)])] => [(validT 8 (mkT k s n xs ks) && decide ((toksT (mkT k s n xs ks)).length ≤ 40), ([.one ((.seq 2 (tokDs (toksT (mkT k s n xs ks)))), true), .one ((.bool true), false)], []))] | _ => [], true, fun _ => none, none⟩
end impl_TreeTokens
namespace impl_TreeTokens
noncomputable def X : List Entry := [impl_nodeOf.E, node_tokens.E]
noncomputable def I : List Inl := [⟨16, Try.f16, ⟨[15], [], [], [], [], []⟩⟩]
theorem I_ok : ∀ i ∈ I, Try.prog.funcs[i.f]? = some i.fn ∧ (i.fn.name == "runtime.NumGoroutine") = false := by
  intro i hi
  simp only [I, List.mem_cons, List.not_mem_nil, or_false] at hi
  subst hi
  exact ⟨by kernel_rfl, by kernel_rfl⟩
theorem e (fuel : Nat) (p0q0 : Int) (p0q1 : Int) (p0q2 : Int) (p0q3 : List Int) (p0q4 : List D) : runF Try.prog X I 0 fuel 16 Try.f16 [.d (.agg [(.int .i64 p0q0), (.int .i64 p0q1), (.int .i64 p0q2), (.ints .i64 p0q3), (.seq 5 p0q4)])] =
  (bif treesB p0q4 && decide (0 ≤ 8) && decide (8 ≤ 8) then
  (bif validT (8 : Int).toNat (mkT p0q0 p0q1 p0q2 p0q3 p0q4) then
  (bif nodeW nodeIds ((tyN nodeIds p0q0)) ((payT nodeIds (mkT p0q0 p0q1 p0q2 p0q3 p0q4))) && decide ((tokP nodeIds ((tyN nodeIds p0q0)) ((payT nodeIds (mkT p0q0 p0q1 p0q2 p0q3 p0q4)))).length ≤ 1048576) then
  (bif (decide (((((tokDs (tokP nodeIds ((tyN nodeIds p0q0)) ((payT nodeIds (mkT p0q0 p0q1 p0q2 p0q3 p0q4))))).length : Nat) : Int) : Int) > 40)) then
  some ([.one ((.seq 2 []), true), .one ((.bool false), false)], [])
  else
  some ([.one ((.seq 2 (tokDs (tokP nodeIds ((tyN nodeIds p0q0)) ((payT nodeIds (mkT p0q0 p0q1 p0q2 p0q3 p0q4)))))), true), .one ((.bool true), false)], []))
  else
  none)
  else
  some ([.one ((.seq 2 []), true), .one ((.bool false), false)], []))
  else
  none) := by kernel_rfl
end impl_TreeTokens
theorem impl_TreeTokens.ok_of (hX : ∀ E ∈ impl_TreeTokens.X, CallSpec Try.prog E) (h : ∀ (k : Int) (s : Int) (n : Int) (xs : List Int) (ks : List D), (treesB ks) = true → ∃ fuel, runF Try.prog impl_TreeTokens.X impl_TreeTokens.I 0 fuel 16 Try.f16 [.d (.agg [(.int .i64 k), (.int .i64 s), (.int .i64 n), (.ints .i64 xs), (.seq 5 ks)])] = some (bif validT 8 (mkT k s n xs ks) && decide ((toksT (mkT k s n xs ks)).length ≤ 40) then ([.one ((.seq 2 (tokDs (toksT (mkT k s n xs ks)))), true), .one ((.bool true), false)], []) else ([.one ((.seq 2 ([] : List D)), true), .one ((.bool false), false)], []))) : CallSpec Try.prog impl_TreeTokens.E :=
  callSpec_of (d := 0) hX (by kernel_rfl) impl_TreeTokens.I_ok (by kernel_rfl) (by kernel_rfl) (by kernel_rfl) (fun _ _ _ _ h => by dsimp only [impl_TreeTokens.E] at h; cases h) (fun xs hp => by
    dsimp only [impl_TreeTokens.E] at hp ⊢
    split at hp
    · exact h _ _ _ _ _ hp
    · cases hp)
theorem impl_TreeTokens.ok : CallSpec Try.prog impl_TreeTokens.E := impl_TreeTokens.ok_of (by simp [impl_TreeTokens.X, impl_nodeOf.ok, node_tokens.ok]) fun k s n xs ks ht => ⟨1, by
  obtain ⟨ts, rfl⟩ := treesB_iff.1 ht
  rw [impl_TreeTokens.e, mkT_treeDs, ht, show decide (0 ≤ 8) = true from rfl, show decide (8 ≤ 8) = true from rfl, Bool.and_self, Bool.and_self, cond_true, show validT (8 : Int).toNat (.mk k s n xs ts) = validT 8 (.mk k s n xs ts) from rfl]
  cases hv : validT 8 (.mk k s n xs ts) with
  | false => rfl
  | true =>
    obtain ⟨e1, e2, _, _, e3⟩ := tokP_pay (I := nodeIds) (by decide) 8 _ hv
    have e1' : tokP nodeIds (tyN nodeIds k) (payT nodeIds (.mk k s n xs ts)) = toksT (.mk k s n xs ts) := e1
    have e2' : nodeW nodeIds (tyN nodeIds k) (payT nodeIds (.mk k s n xs ts)) = true := e2
    rw [cond_true, e1', e2', tokDs_length, decide_eq_true (p := (toksT (.mk k s n xs ts)).length ≤ 1048576) (by omega), Bool.and_self, cond_true, Bool.true_and]
    by_cases hl : (toksT (.mk k s n xs ts)).length ≤ 40
    · rw [decide_eq_true hl, decide_eq_false (by omega)]; rfl
    · rw [decide_eq_false hl, decide_eq_true (by omega)]; rfl⟩

namespace spec_inRange
noncomputable def E : Entry := ⟨42, true, false, fun | [.d (.int .i64 v), .d (.int .i64 lo), .d (.int .i64 hi)] => true | _ => false, fun | [.d (.int .i64 v), .d (.int .i64 lo), .d (.int .i64 hi)] => ([.one ((.bool (decide (lo ≤ v) && decide (v ≤ hi))), false)], []) | _ => ([], []), fun _ => [], false, fun _ => none, none⟩
end spec_inRange
namespace spec_inRange
noncomputable def X : List Entry := []
noncomputable def I : List Inl := [⟨42, Try.f42, ⟨[], [], [], [], [], []⟩⟩]
theorem I_ok : ∀ i ∈ I, Try.prog.funcs[i.f]? = some i.fn ∧ (i.fn.name == "runtime.NumGoroutine") = false := by
  intro i hi
  simp only [I, List.mem_cons, List.not_mem_nil, or_false] at hi
  subst hi
  exact ⟨by kernel_rfl, by kernel_rfl⟩
theorem e (fuel : Nat) (p0 : Int) (p1 : Int) (p2 : Int) : runF Try.prog X I 0 fuel 42 Try.f42 [.d (.int .i64 p0), .d (.int .i64 p1), .d (.int .i64 p2)] =
  (bif (decide ((p1 : Int) ≤ p0)) then
  some ([.one ((.bool (decide ((p0 : Int) ≤ p2))), false)], [])
  else
  some ([.one ((.bool false), false)], [])) := by kernel_rfl
end spec_inRange
theorem spec_inRange.ok_of (hX : ∀ E ∈ spec_inRange.X, CallSpec Try.prog E) (h : ∀ (v : Int) (lo : Int) (hi : Int), (true) = true → ∃ fuel, runF Try.prog spec_inRange.X spec_inRange.I 0 fuel 42 Try.f42 [.d (.int .i64 v), .d (.int .i64 lo), .d (.int .i64 hi)] = some ([.one ((.bool (decide (lo ≤ v) && decide (v ≤ hi))), false)], [])) : CallSpec Try.prog spec_inRange.E :=
  callSpec_of (d := 0) hX (by kernel_rfl) spec_inRange.I_ok (by kernel_rfl) (by kernel_rfl) (by kernel_rfl) (fun _ _ _ _ h => by dsimp only [spec_inRange.E] at h; cases h) (fun xs hp => by
    dsimp only [spec_inRange.E] at hp ⊢
    split at hp
    · exact h _ _ _ hp
    · cases hp)
theorem spec_inRange.ok : CallSpec Try.prog spec_inRange.E := spec_inRange.ok_of (by simp [spec_inRange.X]) fun v lo hi _ => ⟨0, by
  rw [spec_inRange.e]
  cases decide (lo ≤ v) <;> rfl⟩

namespace spec_allIn
noncomputable def E : Entry := ⟨43, true, false, fun | [.d (.ints .i64 xs), .d (.int .i64 lo), .d (.int .i64 hi)] => decide (xs.length < 9223372036854775808) | _ => false, fun | [.d (.ints .i64 xs), .d (.int .i64 lo), .d (.int .i64 hi)] => ([.one ((.bool (allB xs lo hi)), false)], []) | _ => ([], []), fun _ => [], false, fun _ => none, none⟩
end spec_allIn
namespace spec_allIn
noncomputable def X : List Entry := [spec_inRange.E]
noncomputable def I : List Inl := [⟨43, Try.f43, ⟨[], [(1000002, [3, 4, 5, 6, 8, 9, 10, 11, 12, 13, 14, 15, 16, 17, 18, 19, 20, 21])], [], [], [], []⟩⟩]
theorem I_ok : ∀ i ∈ I, Try.prog.funcs[i.f]? = some i.fn ∧ (i.fn.name == "runtime.NumGoroutine") = false := by
  intro i hi
  simp only [I, List.mem_cons, List.not_mem_nil, or_false] at hi
  subst hi
  exact ⟨by kernel_rfl, by kernel_rfl⟩
noncomputable abbrev L0 (fuel n : Nat) (s : St) (k : Kont) := lAt Try.prog X I fuel true 0 false 43 (bodyOf Try.f43) [1, 0, 1, 0] n s k
noncomputable abbrev k0  (fuel : Nat) : Kont := (kAt Try.prog X I fuel true 0 false 43 (bodyOf Try.f43) [1, 0, 1, 0] [] (endK Try.prog Try.f43))
noncomputable def t0 (p0 : List Int) (p1 : Int) (p2 : Int) (x0q3 : Int) : St := ⟨[(.imm (.ints .i64 p0)), (.imm (.int .i64 p1)), (.imm (.int .i64 p2)), .dead, .dead, .dead, .dead, (.imm (.int .i64 x0q3)), .dead, .dead, .dead, .dead, .dead, .dead, .dead, .dead, .dead, .dead, .dead, .dead, .dead, .dead], hOf [], [], []⟩
theorem e (fuel : Nat) (p0 : List Int) (p1 : Int) (p2 : Int) : runF Try.prog X I 0 fuel 43 Try.f43 [.d (.ints .i64 p0), .d (.int .i64 p1), .d (.int .i64 p2)] =
  L0 fuel fuel (t0 p0 p1 p2 0) (k0  fuel) := by kernel_rfl
theorem s0 (fuel n0 : Nat) (p0 : List Int) (p1 : Int) (p2 : Int) (x0q3 : Int) : L0 fuel (n0 + 1) (t0 p0 p1 p2 x0q3) (k0  fuel) =
  (bif (decide ((x0q3 : Int) < ((p0.length : Nat) : Int))) then
  (idx x0q3 p0.length).bind fun j5 =>
  (p0[j5]?).bind fun v6 =>
  (bif (!(decide (p1 ≤ v6) && decide (v6 ≤ p2))) then
  some ([.one ((.bool false), false)], [])
  else
  L0 fuel n0 (t0 p0 p1 p2 ((IntKind.wrap .i64 (x0q3 + 1)))) (k0  fuel))
  else
  some ([.one ((.bool true), false)], [])) := by kernel_rfl
end spec_allIn
theorem spec_allIn.ok_of (hX : ∀ E ∈ spec_allIn.X, CallSpec Try.prog E) (h : ∀ (xs : List Int) (lo : Int) (hi : Int), (decide (xs.length < 9223372036854775808)) = true → ∃ fuel, runF Try.prog spec_allIn.X spec_allIn.I 0 fuel 43 Try.f43 [.d (.ints .i64 xs), .d (.int .i64 lo), .d (.int .i64 hi)] = some ([.one ((.bool (allB xs lo hi)), false)], [])) : CallSpec Try.prog spec_allIn.E :=
  callSpec_of (d := 0) hX (by kernel_rfl) spec_allIn.I_ok (by kernel_rfl) (by kernel_rfl) (by kernel_rfl) (fun _ _ _ _ h => by dsimp only [spec_allIn.E] at h; cases h) (fun xs hp => by
    dsimp only [spec_allIn.E] at hp ⊢
    split at hp
    · exact h _ _ _ hp
    · cases hp)
theorem spec_allIn.loop (fuel : Nat) (xs : List Int) (lo hi : Int) (hx : xs.length < 9223372036854775808) : ∀ (m n j : Nat), xs.length - j = m → m < n → j ≤ xs.length →
    spec_allIn.L0 fuel n (spec_allIn.t0 xs lo hi (j : Int)) (spec_allIn.k0 fuel) = some ([.one (.bool (allB (xs.drop j) lo hi), false)], []) := by
  intro m
  induction m with
  | zero =>
    intro n j h1 h2 h3
    obtain ⟨n, rfl⟩ : ∃ n', n = n' + 1 := ⟨n - 1, by omega⟩
    have hj : ¬ j < xs.length := by omega
    rw [spec_allIn.s0, dge hj, dropE hj]
    rfl
  | succ m ih =>
    intro n j h1 h2 h3
    obtain ⟨n, rfl⟩ : ∃ n', n = n' + 1 := ⟨n - 1, by omega⟩
    have hj : j < xs.length := by omega
    rw [spec_allIn.s0, dlt hj, idx_nat hj, w1 (by omega), dropS hj]
    simp only [cond_true, Option.bind_some, getS hj, allB_cons]
    rw [ih n (j + 1) (by omega) (by omega) (by omega)]
    cases decide (lo ≤ xs[j]) && decide (xs[j] ≤ hi) <;> rfl

theorem spec_allIn.ok : CallSpec Try.prog spec_allIn.E := spec_allIn.ok_of (by simp [spec_allIn.X, spec_inRange.ok]) fun xs lo hi h => by
  simp only [decide_eq_true_eq] at h
  refine ⟨xs.length + 1, ?_⟩
  rw [spec_allIn.e]
  exact spec_allIn.loop (xs.length + 1) xs lo hi h xs.length (xs.length + 1) 0 (by omega) (by omega) (by omega)

namespace spec_isOp
noncomputable def E : Entry := ⟨44, true, false, fun | [.d (.int .i64 s)] => true | _ => false, fun | [.d (.int .i64 s)] => ([.one ((.bool (sgOk s)), false)], []) | _ => ([], []), fun _ => [], false, fun _ => none, none⟩
end spec_isOp
namespace spec_isOp
noncomputable def X : List Entry := [spec_inRange.E]
noncomputable def I : List Inl := [⟨44, Try.f44, ⟨[], [], [], [], [], []⟩⟩]
theorem I_ok : ∀ i ∈ I, Try.prog.funcs[i.f]? = some i.fn ∧ (i.fn.name == "runtime.NumGoroutine") = false := by
  intro i hi
  simp only [I, List.mem_cons, List.not_mem_nil, or_false] at hi
  subst hi
  exact ⟨by kernel_rfl, by kernel_rfl⟩
theorem e (fuel : Nat) (p0 : Int) : runF Try.prog X I 0 fuel 44 Try.f44 [.d (.int .i64 p0)] =
  some ([.one ((.bool (decide (0 ≤ p0) && decide (p0 ≤ 7))), false)], []) := by kernel_rfl
end spec_isOp
theorem spec_isOp.ok_of (hX : ∀ E ∈ spec_isOp.X, CallSpec Try.prog E) (h : ∀ (s : Int), (true) = true → ∃ fuel, runF Try.prog spec_isOp.X spec_isOp.I 0 fuel 44 Try.f44 [.d (.int .i64 s)] = some ([.one ((.bool (sgOk s)), false)], [])) : CallSpec Try.prog spec_isOp.E :=
  callSpec_of (d := 0) hX (by kernel_rfl) spec_isOp.I_ok (by kernel_rfl) (by kernel_rfl) (by kernel_rfl) (fun _ _ _ _ h => by dsimp only [spec_isOp.E] at h; cases h) (fun xs hp => by
    dsimp only [spec_isOp.E] at hp ⊢
    split at hp
    · exact h _ hp
    · cases hp)
theorem spec_isOp.ok : CallSpec Try.prog spec_isOp.E := spec_isOp.ok_of (by simp [spec_isOp.X, spec_inRange.ok]) fun s _ => ⟨0, by rw [spec_isOp.e]; rfl⟩

namespace spec_validTree
noncomputable def E : Entry := ⟨24, true, false, fun | [.d (.agg [(.int .i64 k), (.int .i64 s), (.int .i64 n), (.ints .i64 xs), (.seq 5 ks)]), .d (.int .i64 dep)] => treesB ks && decide (0 ≤ dep) && decide (dep ≤ 8) | _ => false, fun | [.d (.agg [(.int .i64 k), (.int .i64 s), (.int .i64 n), (.ints .i64 xs), (.seq 5 ks)]), .d (.int .i64 dep)] => ([.one ((.bool (validT dep.toNat (mkT k s n xs ks))), false)], []) | _ => ([], []), fun _ => [], false, fun _ => none, none⟩
noncomputable def Ed (d : Nat) : Entry := ⟨24, true, false, fun | [.d (.agg [(.int .i64 k), (.int .i64 s), (.int .i64 n), (.ints .i64 xs), (.seq 5 ks)]), .d (.int .i64 dep)] => (treesB ks && decide (0 ≤ dep) && decide (dep ≤ 8) && decide (dep.toNat < d)) | _ => false, fun | [.d (.agg [(.int .i64 k), (.int .i64 s), (.int .i64 n), (.ints .i64 xs), (.seq 5 ks)]), .d (.int .i64 dep)] => ([.one ((.bool (validT dep.toNat (mkT k s n xs ks))), false)], []) | _ => ([], []), fun _ => [], false, fun _ => none, none⟩
theorem Ed_zero : CallSpec Try.prog (Ed 0) := CallSpec.void ⟨Try.f24, by kernel_rfl, by kernel_rfl, by kernel_rfl⟩ (fun xs => by dsimp only [Ed]; split <;> simp) (fun _ => rfl)
theorem E_of (h : ∀ d, CallSpec Try.prog (Ed d)) : CallSpec Try.prog E := CallSpec.union Ed h (fun _ => rfl) (fun _ => rfl) (fun _ => rfl) fun xs hp => by
  dsimp only [E] at hp
  split at hp
  · rename_i k s n xs ks dep
    refine ⟨dep.toNat + 1, ?_, rfl⟩
    show (_ && decide (_ < _)) = true
    rw [hp]
    exact decide_eq_true (Nat.lt_succ_self _)
  · cases hp
end spec_validTree
namespace spec_validTree
noncomputable def X (d : Nat) : List Entry := [spec_inRange.E, spec_validTree.Ed d, spec_allIn.E, spec_isOp.E]
noncomputable def I : List Inl := [⟨24, Try.f24, ⟨[], [(1000007, [0, 3, 4, 5, 7, 8, 9, 10, 11, 12, 13, 14, 15, 16, 17, 18, 19, 20, 21, 22, 23, 24, 25, 26, 27, 28, 29, 30, 31, 32, 33, 34, 35, 36, 37, 38, 39, 40, 41, 42, 43, 44, 45, 46, 47, 48, 49, 50, 51, 52, 53, 54, 55, 56, 57, 58, 59, 60, 61, 62, 63, 64, 65, 66, 67, 68, 69, 70, 71, 72, 73, 74, 75, 76, 77, 78, 79, 80, 81, 82, 83, 84, 85, 86, 87, 88, 89, 90, 91, 92, 93, 94, 95, 96, 97, 98, 99, 100, 101, 102, 103, 104, 105, 106, 107, 108, 109, 110, 111, 112, 113, 114, 115, 116, 117])], [], [(4, [0, 1, 2, 3, 4, 5, 8, 9, 6, 7, 10, 11, 12, 13, 14])], [], []⟩⟩]
theorem I_ok : ∀ i ∈ I, Try.prog.funcs[i.f]? = some i.fn ∧ (i.fn.name == "runtime.NumGoroutine") = false := by
  intro i hi
  simp only [I, List.mem_cons, List.not_mem_nil, or_false] at hi
  subst hi
  exact ⟨by kernel_rfl, by kernel_rfl⟩
noncomputable abbrev L0 (d : Nat) (fuel n : Nat) (s : St) (k : Kont) := lAt Try.prog (X d) I fuel true 0 false 24 (bodyOf Try.f24) [1, 1, 1, 1, 0, 1, 0] n s k
noncomputable abbrev k0 (d : Nat)  (fuel : Nat) : Kont := (kAt Try.prog (X d) I fuel true 0 false 24 (bodyOf Try.f24) [1, 1, 1, 1, 0, 1, 0] [] (endK Try.prog Try.f24))
noncomputable def t0 (p1 : Int) (p0q0 : Int) (p0q1 : Int) (p0q2 : Int) (p0q3 : List Int) (p0q4 : List D) (x0q1 : Int) : St := ⟨[.dead, (.imm (.int .i64 p1)), (.ptr 1000000000 0 0), .dead, .dead, .dead, (.imm (.int .i64 x0q1)), .dead, .dead, .dead, .dead, .dead, .dead, .dead, .dead, .dead, .dead, .dead, .dead, .dead, .dead, .dead, .dead, .dead, .dead, .dead, .dead, .dead, .dead, .dead, .dead, .dead, .dead, .dead, .dead, .dead, .dead, .dead, .dead, .dead, .dead, .dead, .dead, .dead, .dead, .dead, .dead, .dead, .dead, .dead, .dead, .dead, .dead, .dead, .dead, .dead, .dead, .dead, .dead, .dead, .dead, .dead, .dead, .dead, .dead, .dead, .dead, .dead, .dead, .dead, .dead, .dead, .dead, .dead, .dead, .dead, .dead, .dead, .dead, .dead, .dead, .dead, .dead, .dead, .dead, .dead, .dead, .dead, .dead, .dead, .dead, .dead, .dead, .dead, .dead, .dead, .dead, .dead, .dead, .dead, .dead, .dead, .dead, .dead, .dead, .dead, .dead, .dead, .dead, .dead, .dead, .dead, .dead, .dead, .dead, .dead, .dead, .dead], hOf [(1000000000, (.box [(.imm (.int .i64 p0q0)), (.imm (.int .i64 p0q1)), (.imm (.int .i64 p0q2)), (.imm (.ints .i64 p0q3)), (.imm (.seq 5 p0q4))]))], [], []⟩
theorem e (d : Nat) (fuel : Nat) (p0q0 : Int) (p0q1 : Int) (p0q2 : Int) (p0q3 : List Int) (p0q4 : List D) (p1 : Int) : runF Try.prog (X d) I 0 fuel 24 Try.f24 [.d (.agg [(.int .i64 p0q0), (.int .i64 p0q1), (.int .i64 p0q2), (.ints .i64 p0q3), (.seq 5 p0q4)]), .d (.int .i64 p1)] =
  (bif ((p1 : Int) == 0) then
  some ([.one ((.bool false), false)], [])
  else
  (bif ((p0q0 : Int) != 0) then
  (bif (decide ((((p0q3.length : Nat) : Int) : Int) > 0)) then
  some ([.one ((.bool false), false)], [])
  else
  (bif ((p0q0 : Int) != 1) then
  (bif ((p0q2 : Int) != 0) then
  some ([.one ((.bool false), false)], [])
  else
  (bif (decide ((p0q0 : Int) < 2)) then
  (bif ((p0q1 : Int) != 0) then
  some ([.one ((.bool false), false)], [])
  else
  (bif (!(decide (0 ≤ p0q0) && decide (p0q0 ≤ 4))) then
  some ([.one ((.bool false), false)], [])
  else
  (idx p0q0 [0, 0, 1, 2, 1].length).bind fun j1 =>
  ([0, 0, 1, 2, 1][j1]?).bind fun v2 =>
  (bif ((((p0q4.length : Nat) : Int) : Int) != v2) then
  some ([.one ((.bool false), false)], [])
  else
  L0 d fuel fuel (t0 p1 p0q0 p0q1 p0q2 p0q3 p0q4 0) (k0 d  fuel))))
  else
  (bif (!(decide (0 ≤ p0q0) && decide (p0q0 ≤ 4))) then
  some ([.one ((.bool false), false)], [])
  else
  (idx p0q0 [0, 0, 1, 2, 1].length).bind fun j6 =>
  ([0, 0, 1, 2, 1][j6]?).bind fun v7 =>
  (bif ((((p0q4.length : Nat) : Int) : Int) != v7) then
  some ([.one ((.bool false), false)], [])
  else
  L0 d fuel fuel (t0 p1 p0q0 p0q1 p0q2 p0q3 p0q4 0) (k0 d  fuel)))))
  else
  (bif (decide ((p0q0 : Int) < 2)) then
  (bif ((p0q1 : Int) != 0) then
  some ([.one ((.bool false), false)], [])
  else
  (bif (!(decide (0 ≤ p0q0) && decide (p0q0 ≤ 4))) then
  some ([.one ((.bool false), false)], [])
  else
  (idx p0q0 [0, 0, 1, 2, 1].length).bind fun j8 =>
  ([0, 0, 1, 2, 1][j8]?).bind fun v9 =>
  (bif ((((p0q4.length : Nat) : Int) : Int) != v9) then
  some ([.one ((.bool false), false)], [])
  else
  L0 d fuel fuel (t0 p1 p0q0 p0q1 p0q2 p0q3 p0q4 0) (k0 d  fuel))))
  else
  (bif (!(decide (0 ≤ p0q0) && decide (p0q0 ≤ 4))) then
  some ([.one ((.bool false), false)], [])
  else
  (idx p0q0 [0, 0, 1, 2, 1].length).bind fun j10 =>
  ([0, 0, 1, 2, 1][j10]?).bind fun v11 =>
  (bif ((((p0q4.length : Nat) : Int) : Int) != v11) then
  some ([.one ((.bool false), false)], [])
  else
  L0 d fuel fuel (t0 p1 p0q0 p0q1 p0q2 p0q3 p0q4 0) (k0 d  fuel))))))
  else
  (bif ((p0q0 : Int) != 1) then
  (bif ((p0q2 : Int) != 0) then
  some ([.one ((.bool false), false)], [])
  else
  (bif (decide ((p0q0 : Int) < 2)) then
  (bif ((p0q1 : Int) != 0) then
  some ([.one ((.bool false), false)], [])
  else
  (bif (!(decide (0 ≤ p0q0) && decide (p0q0 ≤ 4))) then
  some ([.one ((.bool false), false)], [])
  else
  (idx p0q0 [0, 0, 1, 2, 1].length).bind fun j12 =>
  ([0, 0, 1, 2, 1][j12]?).bind fun v13 =>
  (bif ((((p0q4.length : Nat) : Int) : Int) != v13) then
  some ([.one ((.bool false), false)], [])
  else
  L0 d fuel fuel (t0 p1 p0q0 p0q1 p0q2 p0q3 p0q4 0) (k0 d  fuel))))
  else
  (bif (!(decide (0 ≤ p0q0) && decide (p0q0 ≤ 4))) then
  some ([.one ((.bool false), false)], [])
  else
  (idx p0q0 [0, 0, 1, 2, 1].length).bind fun j14 =>
  ([0, 0, 1, 2, 1][j14]?).bind fun v15 =>
  (bif ((((p0q4.length : Nat) : Int) : Int) != v15) then
  some ([.one ((.bool false), false)], [])
  else
  L0 d fuel fuel (t0 p1 p0q0 p0q1 p0q2 p0q3 p0q4 0) (k0 d  fuel)))))
  else
  (bif (decide ((p0q0 : Int) < 2)) then
  (bif ((p0q1 : Int) != 0) then
  some ([.one ((.bool false), false)], [])
  else
  (bif (!(decide (0 ≤ p0q0) && decide (p0q0 ≤ 4))) then
  some ([.one ((.bool false), false)], [])
  else
  (idx p0q0 [0, 0, 1, 2, 1].length).bind fun j16 =>
  ([0, 0, 1, 2, 1][j16]?).bind fun v17 =>
  (bif ((((p0q4.length : Nat) : Int) : Int) != v17) then
  some ([.one ((.bool false), false)], [])
  else
  L0 d fuel fuel (t0 p1 p0q0 p0q1 p0q2 p0q3 p0q4 0) (k0 d  fuel))))
  else
  (bif (!(decide (0 ≤ p0q0) && decide (p0q0 ≤ 4))) then
  some ([.one ((.bool false), false)], [])
  else
  (idx p0q0 [0, 0, 1, 2, 1].length).bind fun j18 =>
  ([0, 0, 1, 2, 1][j18]?).bind fun v19 =>
  (bif ((((p0q4.length : Nat) : Int) : Int) != v19) then
  some ([.one ((.bool false), false)], [])
  else
  L0 d fuel fuel (t0 p1 p0q0 p0q1 p0q2 p0q3 p0q4 0) (k0 d  fuel))))))) := by kernel_rfl
theorem s0 (d : Nat) (fuel n0 : Nat) (p1 : Int) (p0q0 : Int) (p0q1 : Int) (p0q2 : Int) (p0q3 : List Int) (p0q4 : List D) (x0q1 : Int) : L0 d fuel (n0 + 1) (t0 p1 p0q0 p0q1 p0q2 p0q3 p0q4 x0q1) (k0 d  fuel) =
  (bif (decide ((x0q1 : Int) < ((p0q4.length : Nat) : Int))) then
  (idx x0q1 p0q4.length).bind fun j5 =>
  (bif okS [.int .i64, .int .i64, .int .i64, .ints .i64, .seq 5] p0q4 j5 then
  (bif (treesB ((cellQ p0q4 j5 4)) && decide (0 ≤ ((IntKind.wrap .i64 (p1 - 1)))) && decide (((IntKind.wrap .i64 (p1 - 1))) ≤ 8) && decide (((IntKind.wrap .i64 (p1 - 1))).toNat < d)) then
  (bif (!(validT ((IntKind.wrap .i64 (p1 - 1))).toNat (mkT ((cellI p0q4 j5 0)) ((cellI p0q4 j5 1)) ((cellI p0q4 j5 2)) ((cellL p0q4 j5 3)) ((cellQ p0q4 j5 4))))) then
  some ([.one ((.bool false), false)], [])
  else
  L0 d fuel n0 (t0 p1 p0q0 p0q1 p0q2 p0q3 p0q4 ((IntKind.wrap .i64 (x0q1 + 1)))) (k0 d  fuel))
  else
  none)
  else
  none)
  else
  (bif ((p0q0 : Int) == 0) then
  (bif (decide (1 ≤ (((p0q3.length : Nat) : Int))) && decide ((((p0q3.length : Nat) : Int)) ≤ 40)) then
  (bif decide (p0q3.length < 9223372036854775808) then
  some ([.one ((.bool (allB p0q3 ((-1000000)) 1000000)), false)], [])
  else
  none)
  else
  some ([.one ((.bool false), false)], []))
  else
  (bif ((p0q0 : Int) == 1) then
  some ([.one ((.bool (decide (0 ≤ p0q2) && decide (p0q2 ≤ 3))), false)], [])
  else
  (bif ((p0q0 : Int) == 2) then
  (bif ((p0q1 : Int) == 1) then
  some ([.one ((.bool true), false)], [])
  else
  some ([.one ((.bool (decide (8 ≤ p0q1) && decide (p0q1 ≤ 10))), false)], []))
  else
  (bif ((p0q0 : Int) == 3) then
  (bif (sgOk p0q1) then
  some ([.one ((.bool true), false)], [])
  else
  (bif ((p0q1 : Int) == 8) then
  some ([.one ((.bool true), false)], [])
  else
  some ([.one ((.bool (decide (10 ≤ p0q1) && decide (p0q1 ≤ 11))), false)], [])))
  else
  some ([.one ((.bool (sgOk p0q1)), false)], [])))))) := by kernel_rfl
end spec_validTree
theorem spec_validTree.ok_of (d : Nat) (hX : ∀ E ∈ spec_validTree.X d, CallSpec Try.prog E) (h : ∀ (k : Int) (s : Int) (n : Int) (xs : List Int) (ks : List D) (dep : Int), ((treesB ks && decide (0 ≤ dep) && decide (dep ≤ 8)) && decide (dep.toNat < d + 1)) = true → ∃ fuel, runF Try.prog (spec_validTree.X d) spec_validTree.I 0 fuel 24 Try.f24 [.d (.agg [(.int .i64 k), (.int .i64 s), (.int .i64 n), (.ints .i64 xs), (.seq 5 ks)]), .d (.int .i64 dep)] = some ([.one ((.bool (validT dep.toNat (mkT k s n xs ks))), false)], [])) : CallSpec Try.prog (spec_validTree.Ed (d + 1)) :=
  callSpec_of (d := 0) hX (by kernel_rfl) spec_validTree.I_ok (by kernel_rfl) (by kernel_rfl) (by kernel_rfl) (fun _ _ _ _ h => by dsimp only [spec_validTree.Ed] at h; cases h) (fun xs hp => by
    dsimp only [spec_validTree.Ed] at hp ⊢
    split at hp
    · exact h _ _ _ _ _ _ hp
    · cases hp)
theorem spec_validTree.loop (d F m : Nat) (k s n : Int) (xs : List Int) (ts : List Tr) (hts : ts.length < 9223372036854775807) (hF : ts.length < F) (hm : m < 9) (hmd : m < d) (h0 : 0 ≤ k) (h4 : k ≤ 4) :
    spec_validTree.L0 d F F (spec_validTree.t0 ((m + 1 : Nat) : Int) k s n xs (treeDs ts) 0) (spec_validTree.k0 d F) = some ([.one (.bool (partOk k s n xs && ts.all (validT m)), false)], []) := by
  refine cnt_loop (σ := Unit) (N := ts.length) (fun q j _ => spec_validTree.L0 d F q (spec_validTree.t0 ((m + 1 : Nat) : Int) k s n xs (treeDs ts) (j : Int)) (spec_validTree.k0 d F))
    (fun j _ => ts.all (validT m) = (ts.drop j).all (validT m)) ?_ ?_ F 0 () (by omega) (by omega) (by rfl)
  · intro q _ hI
    rw [spec_validTree.s0, treeDs_length, dge (by omega), cond_false, hI, List.drop_length, List.all_nil, Bool.and_true]
    have ea : allB xs (-1000000) 1000000 = xs.all numB := rfl
    rw [ea]
    have e1 : decide ((1 : Int) ≤ ((xs.length : Nat) : Int)) = decide (1 ≤ xs.length) := decide_eq_decide.2 (by omega)
    have e2 : decide (((xs.length : Nat) : Int) ≤ 40) = decide (xs.length ≤ 40) := decide_eq_decide.2 (by omega)
    rw [e1, e2]
    obtain rfl | rfl | rfl | rfl | rfl : k = 0 ∨ k = 1 ∨ k = 2 ∨ k = 3 ∨ k = 4 := by omega
    · show (bif decide (1 ≤ xs.length) && decide (xs.length ≤ 40) then (bif decide (xs.length < 9223372036854775808) then _ else _) else _) = (some ([.one (.bool (decide (1 ≤ xs.length) && decide (xs.length ≤ 40) && xs.all numB), false)], []) : Option Ret)
      by_cases h : xs.length ≤ 40
      · rw [lt_of (by omega)]
        cases decide (1 ≤ xs.length) <;> cases decide (xs.length ≤ 40) <;> rfl
      · rw [decide_eq_false h]
        cases decide (1 ≤ xs.length) <;> rfl
    · show (some ([.one (.bool (decide (0 ≤ n) && decide (n ≤ 3)), false)], []) : Option Ret) = some ([.one (.bool (decide (0 ≤ n) && decide (n < 4)), false)], [])
      have : decide (n ≤ 3) = decide (n < 4) := decide_eq_decide.2 (by omega)
      rw [this]
    · show (bif s == 1 then _ else (some ([.one (.bool (decide (8 ≤ s) && decide (s ≤ 10)), false)], []) : Option Ret)) = some ([.one (.bool (s == 1 || s == 8 || s == 9 || s == 10), false)], [])
      have : (decide (8 ≤ s) && decide (s ≤ 10)) = (s == 8 || s == 9 || s == 10) := by
        rw [Bool.eq_iff_iff]
        simp
        omega
      rw [this]
      cases s == 1 <;> simp
    · show (bif sgOk s then _ else (bif s == 8 then _ else (some ([.one (.bool (decide (10 ≤ s) && decide (s ≤ 11)), false)], []) : Option Ret))) = some ([.one (.bool (s == 8 || s == 10 || s == 11 || sgOk s), false)], [])
      have : (decide (10 ≤ s) && decide (s ≤ 11)) = (s == 10 || s == 11) := by
        rw [Bool.eq_iff_iff]
        simp
        omega
      rw [this]
      cases sgOk s <;> cases s == 8 <;> cases s == 10 <;> cases s == 11 <;> rfl
    · rfl
  · intro q j _ hj hI
    obtain ⟨v0, v1, v2, v3, v4, v5⟩ := tr_view hj
    rw [spec_validTree.s0, treeDs_length, dlt hj, idx_nat hj, w1 (by omega)]
    simp only [cond_true, Option.bind_some]
    rw [v0, tr_tb hj, tr_mk hj]
    have ew : IntKind.wrap .i64 (((m + 1 : Nat) : Int) - 1) = (m : Int) := by rw [wS (by omega) (by omega)]; omega
    rw [ew, Int.toNat_natCast, decide_eq_true (p := (0 : Int) ≤ (m : Int)) (by omega), decide_eq_true hmd, decide_eq_true (p := (m : Int) ≤ 8) (by omega)]
    simp only [cond_true, Bool.and_self]
    rw [List.drop_eq_getElem_cons hj, List.all_cons] at hI
    cases hv : validT m ts[j] with
    | true => exact .inr ⟨(), by rw [hI, hv, Bool.true_and], rfl⟩
    | false => exact .inl (by rw [hI, hv, Bool.false_and, Bool.and_false]; rfl)

theorem spec_validTree.okd : ∀ d, CallSpec Try.prog (spec_validTree.Ed d)
  | 0 => spec_validTree.Ed_zero
  | d + 1 => spec_validTree.ok_of d (by simp [spec_validTree.X, spec_validTree.okd d, spec_inRange.ok, spec_allIn.ok, spec_isOp.ok]) fun k s n xs ks dep h => by
    simp only [Bool.and_eq_true, decide_eq_true_eq] at h
    obtain ⟨⟨⟨ht, h0⟩, h8⟩, hd⟩ := h
    obtain ⟨ts, rfl⟩ := treesB_iff.1 ht
    refine ⟨ts.length + 4, ?_⟩
    rw [spec_validTree.e, mkT_treeDs]
    by_cases hz : dep = 0
    · subst hz; rfl
    obtain ⟨m, rfl⟩ : ∃ m : Nat, dep = ((m + 1 : Nat) : Int) := ⟨dep.toNat - 1, by omega⟩
    rw [beq_eq_false_iff_ne.2 hz, cond_false, treeDs_length, Int.toNat_natCast, validT]
    have eA : decide (((xs.length : Nat) : Int) > 0) = !decide (xs.length = 0) := by rw [← decide_not]; exact decide_eq_decide.2 (by omega)
    have eT : ∀ v : Nat, (((ts.length : Nat) : Int) == (v : Int)) = decide (ts.length = v) := fun v => by by_cases h : ts.length = v <;> simp [h]; omega
    simp only [bne, eA, bareT]
    by_cases hk : 0 ≤ k ∧ k ≤ 4
    · have hL : (decide (ts.length = kidN k)) = true → spec_validTree.L0 d (ts.length + 4) (ts.length + 4) (spec_validTree.t0 ((m + 1 : Nat) : Int) k s n xs (treeDs ts) 0) (spec_validTree.k0 d (ts.length + 4)) = some ([.one (.bool (partOk k s n xs && ts.all (validT m)), false)], []) := fun hl => by
        have := of_decide_eq_true hl
        have hk2 := kidN_le k
        exact spec_validTree.loop d _ m k s n xs ts (by omega) (by omega) (by simp at hd; omega) (by simp at hd; omega) hk.1 hk.2
      generalize hb1 : decide (xs.length = 0) = b1
      generalize hb2 : (n == 0) = b2
      generalize hb3 : (s == 0) = b3
      obtain rfl | rfl | rfl | rfl | rfl : k = 0 ∨ k = 1 ∨ k = 2 ∨ k = 3 ∨ k = 4 := by omega
      · have e1 : ∀ G : Int → Option Ret, ((idx 0 ([0, 0, 1, 2, 1] : List Nat).length).bind fun j => (([0, 0, 1, 2, 1] : List Int)[j]?).bind G) = G ((0 : Nat) : Int) := fun G => rfl
        have c1 : ((0 : Int) == 0) = true := rfl
        have c2 : ((0 : Int) == 1) = false := rfl
        have c3 : decide ((0 : Int) < 2) = true := rfl
        have c4 : (decide ((0 : Int) ≤ 0) && decide ((0 : Int) ≤ 4)) = true := rfl
        have hK : kidN 0 = 0 := rfl
        rw [hK] at hL ⊢
        generalize hr : (_ && ts.all (validT m)) = r
        rw [c1, Bool.not_true, cond_false, c2, Bool.not_false, cond_true, c3, cond_true, c4, Bool.not_true, cond_false, e1, eT]
        subst hr
        cases hb4 : decide (ts.length = 0) with
        | false => cases b1 <;> cases b2 <;> cases b3 <;> rfl
        | true =>
          rw [hL hb4]
          cases b1 <;> cases b2 <;> cases b3 <;> rfl
      · have e1 : ∀ G : Int → Option Ret, ((idx 1 ([0, 0, 1, 2, 1] : List Nat).length).bind fun j => (([0, 0, 1, 2, 1] : List Int)[j]?).bind G) = G ((0 : Nat) : Int) := fun G => rfl
        have c1 : ((1 : Int) == 0) = false := rfl
        have c2 : ((1 : Int) == 1) = true := rfl
        have c3 : decide ((1 : Int) < 2) = true := rfl
        have c4 : (decide ((0 : Int) ≤ 1) && decide ((1 : Int) ≤ 4)) = true := rfl
        have hK : kidN 1 = 0 := rfl
        rw [hK] at hL ⊢
        generalize hr : (_ && ts.all (validT m)) = r
        rw [c1, Bool.not_false, cond_true, c2, Bool.not_true, cond_false, c3, cond_true, c4, Bool.not_true, cond_false, e1, eT]
        subst hr
        cases hb4 : decide (ts.length = 0) with
        | false => cases b1 <;> cases b2 <;> cases b3 <;> rfl
        | true =>
          rw [hL hb4]
          cases b1 <;> cases b2 <;> cases b3 <;> rfl
      · have e1 : ∀ G : Int → Option Ret, ((idx 2 ([0, 0, 1, 2, 1] : List Nat).length).bind fun j => (([0, 0, 1, 2, 1] : List Int)[j]?).bind G) = G ((1 : Nat) : Int) := fun G => rfl
        have c1 : ((2 : Int) == 0) = false := rfl
        have c2 : ((2 : Int) == 1) = false := rfl
        have c3 : decide ((2 : Int) < 2) = false := rfl
        have c4 : (decide ((0 : Int) ≤ 2) && decide ((2 : Int) ≤ 4)) = true := rfl
        have hK : kidN 2 = 1 := rfl
        rw [hK] at hL ⊢
        generalize hr : (_ && ts.all (validT m)) = r
        rw [c1, Bool.not_false, cond_true, c2, Bool.not_false, cond_true, c3, cond_false, c4, Bool.not_true, cond_false, e1, eT]
        subst hr
        cases hb4 : decide (ts.length = 1) with
        | false => cases b1 <;> cases b2 <;> cases b3 <;> rfl
        | true =>
          rw [hL hb4]
          cases b1 <;> cases b2 <;> cases b3 <;> rfl
      · have e1 : ∀ G : Int → Option Ret, ((idx 3 ([0, 0, 1, 2, 1] : List Nat).length).bind fun j => (([0, 0, 1, 2, 1] : List Int)[j]?).bind G) = G ((2 : Nat) : Int) := fun G => rfl
        have c1 : ((3 : Int) == 0) = false := rfl
        have c2 : ((3 : Int) == 1) = false := rfl
        have c3 : decide ((3 : Int) < 2) = false := rfl
        have c4 : (decide ((0 : Int) ≤ 3) && decide ((3 : Int) ≤ 4)) = true := rfl
        have hK : kidN 3 = 2 := rfl
        rw [hK] at hL ⊢
        generalize hr : (_ && ts.all (validT m)) = r
        rw [c1, Bool.not_false, cond_true, c2, Bool.not_false, cond_true, c3, cond_false, c4, Bool.not_true, cond_false, e1, eT]
        subst hr
        cases hb4 : decide (ts.length = 2) with
        | false => cases b1 <;> cases b2 <;> cases b3 <;> rfl
        | true =>
          rw [hL hb4]
          cases b1 <;> cases b2 <;> cases b3 <;> rfl
      · have e1 : ∀ G : Int → Option Ret, ((idx 4 ([0, 0, 1, 2, 1] : List Nat).length).bind fun j => (([0, 0, 1, 2, 1] : List Int)[j]?).bind G) = G ((1 : Nat) : Int) := fun G => rfl
        have c1 : ((4 : Int) == 0) = false := rfl
        have c2 : ((4 : Int) == 1) = false := rfl
        have c3 : decide ((4 : Int) < 2) = false := rfl
        have c4 : (decide ((0 : Int) ≤ 4) && decide ((4 : Int) ≤ 4)) = true := rfl
        have hK : kidN 4 = 1 := rfl
        rw [hK] at hL ⊢
        generalize hr : (_ && ts.all (validT m)) = r
        rw [c1, Bool.not_false, cond_true, c2, Bool.not_false, cond_true, c3, cond_false, c4, Bool.not_true, cond_false, e1, eT]
        subst hr
        cases hb4 : decide (ts.length = 1) with
        | false => cases b1 <;> cases b2 <;> cases b3 <;> rfl
        | true =>
          rw [hL hb4]
          cases b1 <;> cases b2 <;> cases b3 <;> rfl
    · have hp : partOk k s n xs = false := by
        unfold partOk
        rw [beq_eq_false_iff_ne.2 (by omega), beq_eq_false_iff_ne.2 (by omega), beq_eq_false_iff_ne.2 (by omega), beq_eq_false_iff_ne.2 (by omega), beq_eq_false_iff_ne.2 (by omega)]
        rfl
      have hr : (decide (0 ≤ k) && decide (k ≤ 4)) = false := by
        by_cases h : 0 ≤ k
        · rw [decide_eq_false (p := k ≤ 4) (by omega), Bool.and_false]
        · rw [decide_eq_false h, Bool.false_and]
      rw [hp, hr, Bool.and_false, Bool.false_and]
      cases k == 0 <;> cases decide (xs.length = 0) <;> cases k == 1 <;> cases n == 0 <;> cases decide (k < 2) <;> cases s == 0 <;> rfl
theorem spec_validTree.ok : CallSpec Try.prog spec_validTree.E := spec_validTree.E_of spec_validTree.okd

namespace spec_sign1
noncomputable def E : Entry := ⟨53, false, false, fun | [.d (.int .i64 n)] => true | _ => false, fun | [.d (.int .i64 n)] => ([.agg [((.int .i64 2), false), ((.int .i64 n), false)]], []) | _ => ([], []), fun _ => [], true, fun _ => none, none⟩
end spec_sign1
namespace spec_sign1
noncomputable def X : List Entry := []
noncomputable def I : List Inl := [⟨53, Try.f53, ⟨[], [], [], [], [], []⟩⟩]
theorem I_ok : ∀ i ∈ I, Try.prog.funcs[i.f]? = some i.fn ∧ (i.fn.name == "runtime.NumGoroutine") = false := by
  intro i hi
  simp only [I, List.mem_cons, List.not_mem_nil, or_false] at hi
  subst hi
  exact ⟨by kernel_rfl, by kernel_rfl⟩
theorem e (fuel : Nat) (p0 : Int) : runF Try.prog X I 0 fuel 53 Try.f53 [.d (.int .i64 p0)] =
  some ([.agg [((.int .i64 2), false), ((.int .i64 p0), false)]], []) := by kernel_rfl
end spec_sign1
theorem spec_sign1.ok_of (hX : ∀ E ∈ spec_sign1.X, CallSpec Try.prog E) (h : ∀ (n : Int), (true) = true → ∃ fuel, runF Try.prog spec_sign1.X spec_sign1.I 0 fuel 53 Try.f53 [.d (.int .i64 n)] = some ([.agg [((.int .i64 2), false), ((.int .i64 n), false)]], [])) : CallSpec Try.prog spec_sign1.E :=
  callSpec_of (d := 0) hX (by kernel_rfl) spec_sign1.I_ok (by kernel_rfl) (by kernel_rfl) (by kernel_rfl) (fun _ _ _ _ h => by dsimp only [spec_sign1.E] at h; cases h) (fun xs hp => by
    dsimp only [spec_sign1.E] at hp ⊢
    split at hp
    · exact h _ hp
    · cases hp)
theorem spec_sign1.ok : CallSpec Try.prog spec_sign1.E := spec_sign1.ok_of (by simp [spec_sign1.X]) fun n _ => ⟨0, by rw [spec_sign1.e]⟩

namespace spec_simple
noncomputable def E : Entry := ⟨54, true, false, fun | [.d (.agg [(.int .i64 k), (.int .i64 s), (.int .i64 n), (.ints .i64 xs), (.seq 5 ks)])] => treesB ks | _ => false, fun | [.d (.agg [(.int .i64 k), (.int .i64 s), (.int .i64 n), (.ints .i64 xs), (.seq 5 ks)])] => ([.one ((.bool (decide (k = 0) || decide (k = 1))), false)], []) | _ => ([], []), fun _ => [], false, fun _ => none, none⟩
end spec_simple
namespace spec_simple
noncomputable def X : List Entry := []
noncomputable def I : List Inl := [⟨54, Try.f54, ⟨[], [], [], [], [], []⟩⟩]
theorem I_ok : ∀ i ∈ I, Try.prog.funcs[i.f]? = some i.fn ∧ (i.fn.name == "runtime.NumGoroutine") = false := by
  intro i hi
  simp only [I, List.mem_cons, List.not_mem_nil, or_false] at hi
  subst hi
  exact ⟨by kernel_rfl, by kernel_rfl⟩
theorem e (fuel : Nat) (p0q0 : Int) (p0q1 : Int) (p0q2 : Int) (p0q3 : List Int) (p0q4 : List D) : runF Try.prog X I 0 fuel 54 Try.f54 [.d (.agg [(.int .i64 p0q0), (.int .i64 p0q1), (.int .i64 p0q2), (.ints .i64 p0q3), (.seq 5 p0q4)])] =
  (bif ((p0q0 : Int) == 0) then
  some ([.one ((.bool true), false)], [])
  else
  some ([.one ((.bool ((p0q0 : Int) == 1)), false)], [])) := by kernel_rfl
end spec_simple
theorem spec_simple.ok_of (hX : ∀ E ∈ spec_simple.X, CallSpec Try.prog E) (h : ∀ (k : Int) (s : Int) (n : Int) (xs : List Int) (ks : List D), (treesB ks) = true → ∃ fuel, runF Try.prog spec_simple.X spec_simple.I 0 fuel 54 Try.f54 [.d (.agg [(.int .i64 k), (.int .i64 s), (.int .i64 n), (.ints .i64 xs), (.seq 5 ks)])] = some ([.one ((.bool (decide (k = 0) || decide (k = 1))), false)], [])) : CallSpec Try.prog spec_simple.E :=
  callSpec_of (d := 0) hX (by kernel_rfl) spec_simple.I_ok (by kernel_rfl) (by kernel_rfl) (by kernel_rfl) (fun _ _ _ _ h => by dsimp only [spec_simple.E] at h; cases h) (fun xs hp => by
    dsimp only [spec_simple.E] at hp ⊢
    split at hp
    · exact h _ _ _ _ _ hp
    · cases hp)
theorem spec_simple.ok : CallSpec Try.prog spec_simple.E := spec_simple.ok_of (by simp [spec_simple.X]) fun k s n xs ks _ => ⟨0, by
  rw [spec_simple.e]
  by_cases h : k = 0
  · subst h; rfl
  · rw [beq_eq_false_iff_ne.2 h, decide_eq_false h, cond_false, Bool.false_or]
    by_cases h1 : k = 1
    · subst h1; rfl
    · rw [beq_eq_false_iff_ne.2 h1, decide_eq_false h1]⟩

namespace spec_unparse
noncomputable def E : Entry := ⟨30, false, false, fun | [.d (.agg [(.int .i64 k), (.int .i64 s), (.int .i64 n), (.ints .i64 xs), (.seq 5 ks)])] => treesB ks && validT 8 (mkT k s n xs ks) | _ => false, fun | [.d (.agg [(.int .i64 k), (.int .i64 s), (.int .i64 n), (.ints .i64 xs), (.seq 5 ks)])] => ([.one ((.seq 2 (tokDs (toksT (mkT k s n xs ks)))), true)], []) | _ => ([], []), fun _ => [], true, fun _ => none, none⟩
noncomputable def Ed (d : Nat) : Entry := ⟨30, false, false, fun | [.d (.agg [(.int .i64 k), (.int .i64 s), (.int .i64 n), (.ints .i64 xs), (.seq 5 ks)])] => (treesB ks && validT 8 (mkT k s n xs ks) && decide (hgtT (mkT k s n xs ks) < d)) | _ => false, fun | [.d (.agg [(.int .i64 k), (.int .i64 s), (.int .i64 n), (.ints .i64 xs), (.seq 5 ks)])] => ([.one ((.seq 2 (tokDs (toksT (mkT k s n xs ks)))), true)], []) | _ => ([], []), fun _ => [], true, fun _ => none, none⟩
theorem Ed_zero : CallSpec Try.prog (Ed 0) := CallSpec.void ⟨Try.f30, by kernel_rfl, by kernel_rfl, by kernel_rfl⟩ (fun xs => by dsimp only [Ed]; split <;> simp) (fun _ => rfl)
theorem E_of (h : ∀ d, CallSpec Try.prog (Ed d)) : CallSpec Try.prog E := CallSpec.union Ed h (fun _ => rfl) (fun _ => rfl) (fun _ => rfl) fun xs hp => by
  dsimp only [E] at hp
  split at hp
  · rename_i k s n xs ks
    refine ⟨hgtT (mkT k s n xs ks) + 1, ?_, rfl⟩
    show (_ && decide (_ < _)) = true
    rw [hp]
    exact decide_eq_true (Nat.lt_succ_self _)
  · cases hp
end spec_unparse
namespace spec_unparse
noncomputable def X (d : Nat) : List Entry := [spec_sign1.E, spec_unparse.Ed d, spec_simple.E]
noncomputable def I : List Inl := [⟨30, Try.f30, ⟨[43, 56, 62, 86], [(1000005, [0, 2, 5, 6, 7, 8, 9, 10, 11, 12, 13, 14, 15, 16, 17, 18, 19, 20, 21, 22, 23, 24, 25, 26, 27, 28, 29, 30, 31, 32, 33, 34, 35, 36, 37, 38, 39, 40, 41, 42, 43, 44, 45, 46, 47, 48, 49, 50, 51, 52, 53, 54, 55, 56, 57, 58, 59, 60, 61, 62, 63, 64, 65, 66, 67, 68, 69, 70, 71, 72, 73, 74, 75, 76, 77, 78, 79, 80, 81, 82, 83, 84, 85, 86, 87])], [(18, [1])], [(12, [0, 4, 1, 5, 6, 7, 2, 8, 3, 9, 10]), (14, [0, 5, 1, 6, 7, 8, 2, 3, 9, 4, 10, 11]), (18, [0, 1, 6, 7, 8, 9, 2, 3, 4, 5, 10, 11, 12])], [83, 84, 85], []⟩⟩]
theorem I_ok : ∀ i ∈ I, Try.prog.funcs[i.f]? = some i.fn ∧ (i.fn.name == "runtime.NumGoroutine") = false := by
  intro i hi
  simp only [I, List.mem_cons, List.not_mem_nil, or_false] at hi
  subst hi
  exact ⟨by kernel_rfl, by kernel_rfl⟩
noncomputable abbrev L0 (d : Nat) (fuel n : Nat) (s : St) (k : Kont) := lAt Try.prog (X d) I fuel true 0 false 30 (bodyOf Try.f30) [1, 1, 0, 1, 0, 1, 0, 0, 1, 0] n s k
noncomputable abbrev k0 (d : Nat)  (fuel : Nat) : Kont := (kAt Try.prog (X d) I fuel true 0 false 30 (bodyOf Try.f30) [1, 1, 0, 1, 0, 1, 0, 0, 1, 0] [] (endK Try.prog Try.f30))
noncomputable def t0 (p0q0 : Int) (p0q1 : Int) (p0q2 : Int) (p0q3 : List Int) (p0q4 : List D) (x0q0 : Int) (x0q6 : List D) : St := ⟨[.dead, (.ptr 1000000000 0 0), .dead, (.all 1000000001 2), (.imm (.int .i64 x0q0)), .dead, .dead, .dead, .dead, .dead, .dead, .dead, .dead, .dead, .dead, .dead, .dead, .dead, .dead, .dead, .dead, .dead, .dead, .dead, .dead, .dead, .dead, .dead, .dead, .dead, .dead, .dead, .dead, .dead, .dead, .dead, .dead, .dead, .dead, .dead, .dead, .dead, .dead, .dead, .dead, .dead, .dead, .dead, .dead, .dead, .dead, .dead, .dead, .dead, .dead, .dead, .dead, .dead, .dead, .dead, .dead, .dead, .dead, .dead, .dead, .dead, .dead, .dead, .dead, .dead, .dead, .dead, .dead, .dead, .dead, .dead, .dead, .dead, .dead, .dead, .dead, .dead, .dead, .dead, .dead, .dead, .dead, .dead], hOf [(1000000000, (.box [(.imm (.int .i64 p0q0)), (.imm (.int .i64 p0q1)), (.imm (.int .i64 p0q2)), (.imm (.ints .i64 p0q3)), (.imm (.seq 5 p0q4))])), (1000000001, (.ds 2 x0q6))], [], []⟩
theorem e (d : Nat) (fuel : Nat) (p0q0 : Int) (p0q1 : Int) (p0q2 : Int) (p0q3 : List Int) (p0q4 : List D) : runF Try.prog (X d) I 0 fuel 30 Try.f30 [.d (.agg [(.int .i64 p0q0), (.int .i64 p0q1), (.int .i64 p0q2), (.ints .i64 p0q3), (.seq 5 p0q4)])] =
  (bif ((p0q0 : Int) == 0) then
  L0 d fuel fuel (t0 p0q0 p0q1 p0q2 p0q3 p0q4 0 (([] : List D))) (k0 d  fuel)
  else
  (bif ((p0q0 : Int) == 1) then
  some ([.one ((.seq 2 ([(.agg [(.int .i64 1), (.int .i64 p0q2)])] : List D)), true)], [])
  else
  (bif ((p0q0 : Int) == 2) then
  (idx 0 p0q4.length).bind fun j5 =>
  (bif okS [.int .i64, .int .i64, .int .i64, .ints .i64, .seq 5] p0q4 j5 then
  (bif (treesB ((cellQ p0q4 j5 4)) && validT 8 (mkT ((cellI p0q4 j5 0)) ((cellI p0q4 j5 1)) ((cellI p0q4 j5 2)) ((cellL p0q4 j5 3)) ((cellQ p0q4 j5 4))) && decide (hgtT (mkT ((cellI p0q4 j5 0)) ((cellI p0q4 j5 1)) ((cellI p0q4 j5 2)) ((cellL p0q4 j5 3)) ((cellQ p0q4 j5 4))) < d)) then
  (bif okDs 2 ((tokDs (toksT (mkT ((cellI p0q4 j5 0)) ((cellI p0q4 j5 1)) ((cellI p0q4 j5 2)) ((cellL p0q4 j5 3)) ((cellQ p0q4 j5 4)))))) then
  (bif fits (([(.agg [(.int .i64 2), (.int .i64 p0q1)])] : List D).length + (tokDs (toksT (mkT ((cellI p0q4 j5 0)) ((cellI p0q4 j5 1)) ((cellI p0q4 j5 2)) ((cellL p0q4 j5 3)) ((cellQ p0q4 j5 4))))).length) 16 then
  some ([.one ((.seq 2 (([(.agg [(.int .i64 2), (.int .i64 p0q1)])] : List D) ++ (tokDs (toksT (mkT ((cellI p0q4 j5 0)) ((cellI p0q4 j5 1)) ((cellI p0q4 j5 2)) ((cellL p0q4 j5 3)) ((cellQ p0q4 j5 4))))))), true)], [])
  else
  none)
  else
  none)
  else
  none)
  else
  none)
  else
  (bif ((p0q0 : Int) == 4) then
  (idx 0 p0q4.length).bind fun j6 =>
  (bif okS [.int .i64, .int .i64, .int .i64, .ints .i64, .seq 5] p0q4 j6 then
  (bif (treesB ((cellQ p0q4 j6 4)) && validT 8 (mkT ((cellI p0q4 j6 0)) ((cellI p0q4 j6 1)) ((cellI p0q4 j6 2)) ((cellL p0q4 j6 3)) ((cellQ p0q4 j6 4))) && decide (hgtT (mkT ((cellI p0q4 j6 0)) ((cellI p0q4 j6 1)) ((cellI p0q4 j6 2)) ((cellL p0q4 j6 3)) ((cellQ p0q4 j6 4))) < d)) then
  (bif okDs 2 ((tokDs (toksT (mkT ((cellI p0q4 j6 0)) ((cellI p0q4 j6 1)) ((cellI p0q4 j6 2)) ((cellL p0q4 j6 3)) ((cellQ p0q4 j6 4)))))) then
  (bif fits (([(.agg [(.int .i64 2), (.int .i64 p0q1)]), (.agg [(.int .i64 2), (.int .i64 12)])] : List D).length + (tokDs (toksT (mkT ((cellI p0q4 j6 0)) ((cellI p0q4 j6 1)) ((cellI p0q4 j6 2)) ((cellL p0q4 j6 3)) ((cellQ p0q4 j6 4))))).length) 16 then
  some ([.one ((.seq 2 (([(.agg [(.int .i64 2), (.int .i64 p0q1)]), (.agg [(.int .i64 2), (.int .i64 12)])] : List D) ++ (tokDs (toksT (mkT ((cellI p0q4 j6 0)) ((cellI p0q4 j6 1)) ((cellI p0q4 j6 2)) ((cellL p0q4 j6 3)) ((cellQ p0q4 j6 4))))))), true)], [])
  else
  none)
  else
  none)
  else
  none)
  else
  none)
  else
  (idx 0 p0q4.length).bind fun j7 =>
  (bif okS [.int .i64, .int .i64, .int .i64, .ints .i64, .seq 5] p0q4 j7 then
  (bif (treesB ((cellQ p0q4 j7 4)) && validT 8 (mkT ((cellI p0q4 j7 0)) ((cellI p0q4 j7 1)) ((cellI p0q4 j7 2)) ((cellL p0q4 j7 3)) ((cellQ p0q4 j7 4))) && decide (hgtT (mkT ((cellI p0q4 j7 0)) ((cellI p0q4 j7 1)) ((cellI p0q4 j7 2)) ((cellL p0q4 j7 3)) ((cellQ p0q4 j7 4))) < d)) then
  (idx 0 p0q4.length).bind fun j8 =>
  (bif okS [.int .i64, .int .i64, .int .i64, .ints .i64, .seq 5] p0q4 j8 then
  (bif treesB ((cellQ p0q4 j8 4)) then
  (bif (!(decide (((cellI p0q4 j8 0)) = 0) || decide (((cellI p0q4 j8 0)) = 1))) then
  (bif okDs 2 ((tokDs (toksT (mkT ((cellI p0q4 j7 0)) ((cellI p0q4 j7 1)) ((cellI p0q4 j7 2)) ((cellL p0q4 j7 3)) ((cellQ p0q4 j7 4)))))) then
  (bif fits (([(.agg [(.int .i64 2), (.int .i64 13)])] : List D).length + (tokDs (toksT (mkT ((cellI p0q4 j7 0)) ((cellI p0q4 j7 1)) ((cellI p0q4 j7 2)) ((cellL p0q4 j7 3)) ((cellQ p0q4 j7 4))))).length) 16 then
  (bif okDs 2 (([(.agg [(.int .i64 2), (.int .i64 14)])] : List D)) then
  (bif fits ((([(.agg [(.int .i64 2), (.int .i64 13)])] : List D) ++ (tokDs (toksT (mkT ((cellI p0q4 j7 0)) ((cellI p0q4 j7 1)) ((cellI p0q4 j7 2)) ((cellL p0q4 j7 3)) ((cellQ p0q4 j7 4)))))).length + ([(.agg [(.int .i64 2), (.int .i64 14)])] : List D).length) 16 then
  (idx 1 p0q4.length).bind fun j9 =>
  (bif okS [.int .i64, .int .i64, .int .i64, .ints .i64, .seq 5] p0q4 j9 then
  (bif okDs 2 (([(.agg [(.int .i64 2), (.int .i64 p0q1)])] : List D)) then
  (bif fits (((([(.agg [(.int .i64 2), (.int .i64 13)])] : List D) ++ (tokDs (toksT (mkT ((cellI p0q4 j7 0)) ((cellI p0q4 j7 1)) ((cellI p0q4 j7 2)) ((cellL p0q4 j7 3)) ((cellQ p0q4 j7 4)))))) ++ ([(.agg [(.int .i64 2), (.int .i64 14)])] : List D)).length + ([(.agg [(.int .i64 2), (.int .i64 p0q1)])] : List D).length) 16 then
  (bif (treesB ((cellQ p0q4 j9 4)) && validT 8 (mkT ((cellI p0q4 j9 0)) ((cellI p0q4 j9 1)) ((cellI p0q4 j9 2)) ((cellL p0q4 j9 3)) ((cellQ p0q4 j9 4))) && decide (hgtT (mkT ((cellI p0q4 j9 0)) ((cellI p0q4 j9 1)) ((cellI p0q4 j9 2)) ((cellL p0q4 j9 3)) ((cellQ p0q4 j9 4))) < d)) then
  (bif okDs 2 ((tokDs (toksT (mkT ((cellI p0q4 j9 0)) ((cellI p0q4 j9 1)) ((cellI p0q4 j9 2)) ((cellL p0q4 j9 3)) ((cellQ p0q4 j9 4)))))) then
  (bif fits ((((([(.agg [(.int .i64 2), (.int .i64 13)])] : List D) ++ (tokDs (toksT (mkT ((cellI p0q4 j7 0)) ((cellI p0q4 j7 1)) ((cellI p0q4 j7 2)) ((cellL p0q4 j7 3)) ((cellQ p0q4 j7 4)))))) ++ ([(.agg [(.int .i64 2), (.int .i64 14)])] : List D)) ++ ([(.agg [(.int .i64 2), (.int .i64 p0q1)])] : List D)).length + (tokDs (toksT (mkT ((cellI p0q4 j9 0)) ((cellI p0q4 j9 1)) ((cellI p0q4 j9 2)) ((cellL p0q4 j9 3)) ((cellQ p0q4 j9 4))))).length) 16 then
  some ([.one ((.seq 2 ((((([(.agg [(.int .i64 2), (.int .i64 13)])] : List D) ++ (tokDs (toksT (mkT ((cellI p0q4 j7 0)) ((cellI p0q4 j7 1)) ((cellI p0q4 j7 2)) ((cellL p0q4 j7 3)) ((cellQ p0q4 j7 4)))))) ++ ([(.agg [(.int .i64 2), (.int .i64 14)])] : List D)) ++ ([(.agg [(.int .i64 2), (.int .i64 p0q1)])] : List D)) ++ (tokDs (toksT (mkT ((cellI p0q4 j9 0)) ((cellI p0q4 j9 1)) ((cellI p0q4 j9 2)) ((cellL p0q4 j9 3)) ((cellQ p0q4 j9 4))))))), true)], [])
  else
  none)
  else
  none)
  else
  none)
  else
  none)
  else
  none)
  else
  none)
  else
  none)
  else
  none)
  else
  none)
  else
  none)
  else
  (idx 1 p0q4.length).bind fun j10 =>
  (bif okS [.int .i64, .int .i64, .int .i64, .ints .i64, .seq 5] p0q4 j10 then
  (bif okDs 2 (([(.agg [(.int .i64 2), (.int .i64 p0q1)])] : List D)) then
  (bif fits ((tokDs (toksT (mkT ((cellI p0q4 j7 0)) ((cellI p0q4 j7 1)) ((cellI p0q4 j7 2)) ((cellL p0q4 j7 3)) ((cellQ p0q4 j7 4))))).length + ([(.agg [(.int .i64 2), (.int .i64 p0q1)])] : List D).length) 16 then
  (bif (treesB ((cellQ p0q4 j10 4)) && validT 8 (mkT ((cellI p0q4 j10 0)) ((cellI p0q4 j10 1)) ((cellI p0q4 j10 2)) ((cellL p0q4 j10 3)) ((cellQ p0q4 j10 4))) && decide (hgtT (mkT ((cellI p0q4 j10 0)) ((cellI p0q4 j10 1)) ((cellI p0q4 j10 2)) ((cellL p0q4 j10 3)) ((cellQ p0q4 j10 4))) < d)) then
  (bif okDs 2 ((tokDs (toksT (mkT ((cellI p0q4 j10 0)) ((cellI p0q4 j10 1)) ((cellI p0q4 j10 2)) ((cellL p0q4 j10 3)) ((cellQ p0q4 j10 4)))))) then
  (bif fits (((tokDs (toksT (mkT ((cellI p0q4 j7 0)) ((cellI p0q4 j7 1)) ((cellI p0q4 j7 2)) ((cellL p0q4 j7 3)) ((cellQ p0q4 j7 4))))) ++ ([(.agg [(.int .i64 2), (.int .i64 p0q1)])] : List D)).length + (tokDs (toksT (mkT ((cellI p0q4 j10 0)) ((cellI p0q4 j10 1)) ((cellI p0q4 j10 2)) ((cellL p0q4 j10 3)) ((cellQ p0q4 j10 4))))).length) 16 then
  some ([.one ((.seq 2 (((tokDs (toksT (mkT ((cellI p0q4 j7 0)) ((cellI p0q4 j7 1)) ((cellI p0q4 j7 2)) ((cellL p0q4 j7 3)) ((cellQ p0q4 j7 4))))) ++ ([(.agg [(.int .i64 2), (.int .i64 p0q1)])] : List D)) ++ (tokDs (toksT (mkT ((cellI p0q4 j10 0)) ((cellI p0q4 j10 1)) ((cellI p0q4 j10 2)) ((cellL p0q4 j10 3)) ((cellQ p0q4 j10 4))))))), true)], [])
  else
  none)
  else
  none)
  else
  none)
  else
  none)
  else
  none)
  else
  none))
  else
  none)
  else
  none)
  else
  none)
  else
  none))))) := by kernel_rfl
theorem s0 (d : Nat) (fuel n0 : Nat) (p0q0 : Int) (p0q1 : Int) (p0q2 : Int) (p0q3 : List Int) (p0q4 : List D) (x0q0 : Int) (x0q6 : List D) : L0 d fuel (n0 + 1) (t0 p0q0 p0q1 p0q2 p0q3 p0q4 x0q0 x0q6) (k0 d  fuel) =
  (bif (decide ((x0q0 : Int) < ((p0q3.length : Nat) : Int))) then
  (idx x0q0 p0q3.length).bind fun j3 =>
  (p0q3[j3]?).bind fun v4 =>
  (bif okDs 2 (([(.agg [(.int .i64 0), (.int .i64 v4)])] : List D)) then
  (bif fits (x0q6.length + ([(.agg [(.int .i64 0), (.int .i64 v4)])] : List D).length) 16 then
  L0 d fuel n0 (t0 p0q0 p0q1 p0q2 p0q3 p0q4 ((IntKind.wrap .i64 (x0q0 + 1))) ((x0q6 ++ ([(.agg [(.int .i64 0), (.int .i64 v4)])] : List D)))) (k0 d  fuel)
  else
  none)
  else
  none)
  else
  some ([.one ((.seq 2 x0q6), true)], [])) := by kernel_rfl
end spec_unparse
theorem spec_unparse.ok_of (d : Nat) (hX : ∀ E ∈ spec_unparse.X d, CallSpec Try.prog E) (h : ∀ (k : Int) (s : Int) (n : Int) (xs : List Int) (ks : List D), ((treesB ks && validT 8 (mkT k s n xs ks)) && decide (hgtT (mkT k s n xs ks) < d + 1)) = true → ∃ fuel, runF Try.prog (spec_unparse.X d) spec_unparse.I 0 fuel 30 Try.f30 [.d (.agg [(.int .i64 k), (.int .i64 s), (.int .i64 n), (.ints .i64 xs), (.seq 5 ks)])] = some ([.one ((.seq 2 (tokDs (toksT (mkT k s n xs ks)))), true)], [])) : CallSpec Try.prog (spec_unparse.Ed (d + 1)) :=
  callSpec_of (d := 0) hX (by kernel_rfl) spec_unparse.I_ok (by kernel_rfl) (by kernel_rfl) (by kernel_rfl) (fun _ _ _ _ h => by dsimp only [spec_unparse.Ed] at h; cases h) (fun xs hp => by
    dsimp only [spec_unparse.Ed] at hp ⊢
    split at hp
    · exact h _ _ _ _ _ hp
    · cases hp)
theorem spec_unparse.loop (d F : Nat) (s n : Int) (xs : List Int) (ks : List D) (hF : xs.length < F) (hl : xs.length ≤ 40) : spec_unparse.L0 d F F (spec_unparse.t0 0 s n xs ks 0 []) (spec_unparse.k0 d F) = some ([.one (.seq 2 (tokDs (numT xs)), true)], []) := by
  refine cnt_loop (σ := List D) (N := xs.length) (fun q j out => spec_unparse.L0 d F q (spec_unparse.t0 0 s n xs ks (j : Int) out) (spec_unparse.k0 d F)) (fun j out => out = tokDs (numT (xs.take j))) ?_ ?_ F 0 [] (by omega) (by omega) rfl
  · intro q out hI
    rw [List.take_length] at hI
    rw [spec_unparse.s0, dge (by omega), cond_false, hI]
  · intro q j out hj hI
    have hol : out.length = j := by rw [hI]; simp [tokDs, numT]; omega
    rw [spec_unparse.s0, dlt hj, cond_true, idx_nat hj, Option.bind_some, getD_get hj, Option.bind_some, show okDs 2 ([.agg [.int .i64 0, .int .i64 (xs.getD j 0)]] : List D) = true from rfl, cond_true, hol, fits16 (by simp; omega), cond_true, w1 (by omega)]
    exact .inr ⟨_, by rw [hI]; exact numT_take hj, rfl⟩
theorem spec_unparse.okd : ∀ d, CallSpec Try.prog (spec_unparse.Ed d)
  | 0 => spec_unparse.Ed_zero
  | d + 1 => spec_unparse.ok_of d (by simp [spec_unparse.X, spec_unparse.okd d, spec_sign1.ok, spec_simple.ok]) fun k s n xs ks h => by
    simp only [Bool.and_eq_true, decide_eq_true_eq] at h
    obtain ⟨⟨ht, hv⟩, hd⟩ := h
    obtain ⟨ts, rfl⟩ := treesB_iff.1 ht
    rw [mkT_treeDs] at hv hd
    refine ⟨xs.length + 1, ?_⟩
    rw [spec_unparse.e, mkT_treeDs]
    have hv' : validT (7 + 1) (.mk k s n xs ts) = true := hv
    rw [validT] at hv'
    simp only [Bool.and_eq_true, decide_eq_true_eq, List.all_eq_true] at hv'
    obtain ⟨⟨⟨hb, hl⟩, hp⟩, ha⟩ := hv'
    have t1 : ∀ a b : Int, ([.agg [.int .i64 a, .int .i64 b]] : List D) = tokDs [(a, b)] := fun _ _ => rfl
    have t2 : ∀ a b c e : Int, ([.agg [.int .i64 a, .int .i64 b], .agg [.int .i64 c, .int .i64 e]] : List D) = tokDs [(a, b), (c, e)] := fun _ _ _ _ => rfl
    rcases partOk_kind hp with rfl | rfl | rfl | rfl | rfl
    · have h40 : xs.length ≤ 40 := by
        have : numsOk xs = true := hp
        simp only [numsOk, Bool.and_eq_true, decide_eq_true_eq] at this
        exact this.1.2
      rw [show ((0 : Int) == 0) = true from rfl, cond_true, toksT0]
      exact spec_unparse.loop d _ s n xs _ (by omega) h40
    · rw [show ((1 : Int) == 0) = false from rfl, cond_false, show ((1 : Int) == 1) = true from rfl, cond_true, toksT1]
      rfl
    · obtain ⟨a, rfl⟩ : ∃ a, ts = [a] := List.length_eq_one_iff.1 hl
      have va := validT_mono 7 a (ha a (by simp))
      have la := toksT_len va
      have v0 := (tr_view (ts := [a]) (i := 0) (by simp)).1
      have m0 : mkT (cellI (treeDs [a]) 0 0) (cellI (treeDs [a]) 0 1) (cellI (treeDs [a]) 0 2) (cellL (treeDs [a]) 0 3) (cellQ (treeDs [a]) 0 4) = a := tr_mk (ts := [a]) (i := 0) (by simp)
      have b0 := tr_tb (ts := [a]) (i := 0) (by simp)
      have hg := hgt_get (ts := [a]) (i := 0) (by simp)
      rw [hgtT] at hd
      simp only [List.getElem_cons_zero] at hg
      rw [show ((2 : Int) == 0) = false from rfl, cond_false, show ((2 : Int) == 1) = false from rfl, cond_false, show ((2 : Int) == 2) = true from rfl, cond_true, show idx 0 (treeDs [a]).length = some 0 by rw [treeDs_length]; rfl, Option.bind_some, v0, cond_true, b0, m0, va, decide_eq_true (p := hgtT a < d) (by omega), Bool.and_self, Bool.and_self, cond_true, tokDs_ok, cond_true, t1, tokDs_length, tokDs_length, fits16 (by simp; omega), cond_true, tokDs_app, toksT2]
      rfl
    · obtain ⟨a, b, rfl⟩ : ∃ a b, ts = [a, b] := by match ts, hl with | [a, b], _ => exact ⟨a, b, rfl⟩
      have va := validT_mono 7 a (ha a (by simp))
      have vb := validT_mono 7 b (ha b (by simp))
      have la := toksT_len va
      have lb := toksT_len vb
      have v0 := (tr_view (ts := [a, b]) (i := 0) (by simp)).1
      have v1 := (tr_view (ts := [a, b]) (i := 1) (by simp)).1
      have c0 : cellI (treeDs [a, b]) 0 0 = a.k := (tr_view (ts := [a, b]) (i := 0) (by simp)).2.1
      have m0 : mkT (cellI (treeDs [a, b]) 0 0) (cellI (treeDs [a, b]) 0 1) (cellI (treeDs [a, b]) 0 2) (cellL (treeDs [a, b]) 0 3) (cellQ (treeDs [a, b]) 0 4) = a := tr_mk (ts := [a, b]) (i := 0) (by simp)
      have m1 : mkT (cellI (treeDs [a, b]) 1 0) (cellI (treeDs [a, b]) 1 1) (cellI (treeDs [a, b]) 1 2) (cellL (treeDs [a, b]) 1 3) (cellQ (treeDs [a, b]) 1 4) = b := tr_mk (ts := [a, b]) (i := 1) (by simp)
      have b0 := tr_tb (ts := [a, b]) (i := 0) (by simp)
      have b1 := tr_tb (ts := [a, b]) (i := 1) (by simp)
      have hg := hgt_get (ts := [a, b]) (i := 0) (by simp)
      have hg1 := hgt_get (ts := [a, b]) (i := 1) (by simp)
      rw [hgtT] at hd
      simp only [List.getElem_cons_zero, List.getElem_cons_succ] at hg hg1
      rw [show ((3 : Int) == 0) = false from rfl, cond_false, show ((3 : Int) == 1) = false from rfl, cond_false, show ((3 : Int) == 2) = false from rfl, cond_false, show ((3 : Int) == 4) = false from rfl, cond_false, show idx 0 (treeDs [a, b]).length = some 0 by rw [treeDs_length]; rfl, Option.bind_some, Option.bind_some, show idx 1 (treeDs [a, b]).length = some 1 by rw [treeDs_length]; rfl, Option.bind_some, Option.bind_some, v0, v1, cond_true, b0, m0, va, decide_eq_true (p := hgtT a < d) (by omega), Bool.and_self, Bool.and_self, cond_true, cond_true, cond_true, b1, m1, vb, decide_eq_true (p := hgtT b < d) (by omega), c0, t1, t1, t1, toksT3]
      simp only [Bool.and_self, cond_true, tokDs_app, tokDs_ok, tokDs_length]
      by_cases hc : a.k = 0 ∨ a.k = 1
      · rw [show (!(decide (a.k = 0) || decide (a.k = 1))) = false by rcases hc with hc | hc <;> rw [hc] <;> rfl, cond_false, arnd, if_pos hc, fits16 (by simp; omega), fits16 (by simp; omega), cond_true, cond_true]
        simp
      · have n0 : a.k ≠ 0 := fun e => hc (.inl e)
        have n1 : a.k ≠ 1 := fun e => hc (.inr e)
        rw [show (!(decide (a.k = 0) || decide (a.k = 1))) = true by rw [decide_eq_false n0, decide_eq_false n1]; rfl, cond_true, arnd, if_neg hc, fits16 (by simp; omega), fits16 (by simp; omega), fits16 (by simp; omega), fits16 (by simp; omega), cond_true, cond_true, cond_true, cond_true]
        simp
    · obtain ⟨a, rfl⟩ : ∃ a, ts = [a] := List.length_eq_one_iff.1 hl
      have va := validT_mono 7 a (ha a (by simp))
      have la := toksT_len va
      have v0 := (tr_view (ts := [a]) (i := 0) (by simp)).1
      have m0 : mkT (cellI (treeDs [a]) 0 0) (cellI (treeDs [a]) 0 1) (cellI (treeDs [a]) 0 2) (cellL (treeDs [a]) 0 3) (cellQ (treeDs [a]) 0 4) = a := tr_mk (ts := [a]) (i := 0) (by simp)
      have b0 := tr_tb (ts := [a]) (i := 0) (by simp)
      have hg := hgt_get (ts := [a]) (i := 0) (by simp)
      rw [hgtT] at hd
      simp only [List.getElem_cons_zero] at hg
      rw [show ((4 : Int) == 0) = false from rfl, cond_false, show ((4 : Int) == 1) = false from rfl, cond_false, show ((4 : Int) == 2) = false from rfl, cond_false, show ((4 : Int) == 4) = true from rfl, cond_true, show idx 0 (treeDs [a]).length = some 0 by rw [treeDs_length]; rfl, Option.bind_some, v0, cond_true, b0, m0, va, decide_eq_true (p := hgtT a < d) (by omega), Bool.and_self, Bool.and_self, cond_true, tokDs_ok, cond_true, t2, tokDs_length, tokDs_length, fits16 (by simp; omega), cond_true, tokDs_app, toksT4]
      rfl
theorem spec_unparse.ok : CallSpec Try.prog spec_unparse.E := spec_unparse.E_of spec_unparse.okd

namespace spec_TreeTokens
noncomputable def E : Entry := ⟨18, false, false, fun | [.d (.agg [(.int .i64 k), (.int .i64 s), (.int .i64 n), (.ints .i64 xs), (.seq 5 ks)])] => treesB ks | _ => false, fun | [.d (.agg [(.int .i64 k), (.int .i64 s), (.int .i64 n), (.ints .i64 xs), (.seq 5 ks)])] => ([.one ((.seq 2 ([] : List D)), true), .one ((.bool false), false)], []) | _ => ([], []), fun | [.d (.agg [(.int .i64 k), (.int .i64 s), (.int .i64 n), (.ints .i64 xs), (.seq 5 ks)])] => [(validT 8 (mkT k s n xs ks) && decide ((toksT (mkT k s n xs ks)).length ≤ 40), ([.one ((.seq 2 (tokDs (toksT (mkT k s n xs ks)))), true), .one ((.bool true), false)], []))] | _ => [], true, fun _ => none, none⟩
end spec_TreeTokens
namespace spec_TreeTokens
noncomputable def X : List Entry := [spec_validTree.E, spec_unparse.E]
noncomputable def I : List Inl := [⟨18, Try.f18, ⟨[9], [], [], [], [], []⟩⟩]
theorem I_ok : ∀ i ∈ I, Try.prog.funcs[i.f]? = some i.fn ∧ (i.fn.name == "runtime.NumGoroutine") = false := by
  intro i hi
  simp only [I, List.mem_cons, List.not_mem_nil, or_false] at hi
  subst hi
  exact ⟨by kernel_rfl, by kernel_rfl⟩
theorem e (fuel : Nat) (p0q0 : Int) (p0q1 : Int) (p0q2 : Int) (p0q3 : List Int) (p0q4 : List D) : runF Try.prog X I 0 fuel 18 Try.f18 [.d (.agg [(.int .i64 p0q0), (.int .i64 p0q1), (.int .i64 p0q2), (.ints .i64 p0q3), (.seq 5 p0q4)])] =
  (bif treesB p0q4 && decide (0 ≤ 8) && decide (8 ≤ 8) then
  (bif (!(validT (8 : Int).toNat (mkT p0q0 p0q1 p0q2 p0q3 p0q4))) then
  some ([.one ((.seq 2 []), true), .one ((.bool false), false)], [])
  else
  (bif treesB p0q4 && validT 8 (mkT p0q0 p0q1 p0q2 p0q3 p0q4) then
  (bif (decide (((((tokDs (toksT (mkT p0q0 p0q1 p0q2 p0q3 p0q4))).length : Nat) : Int) : Int) > 40)) then
  some ([.one ((.seq 2 []), true), .one ((.bool false), false)], [])
  else
  some ([.one ((.seq 2 (tokDs (toksT (mkT p0q0 p0q1 p0q2 p0q3 p0q4)))), true), .one ((.bool true), false)], []))
  else
  none))
  else
  none) := by kernel_rfl
end spec_TreeTokens
theorem spec_TreeTokens.ok_of (hX : ∀ E ∈ spec_TreeTokens.X, CallSpec Try.prog E) (h : ∀ (k : Int) (s : Int) (n : Int) (xs : List Int) (ks : List D), (treesB ks) = true → ∃ fuel, runF Try.prog spec_TreeTokens.X spec_TreeTokens.I 0 fuel 18 Try.f18 [.d (.agg [(.int .i64 k), (.int .i64 s), (.int .i64 n), (.ints .i64 xs), (.seq 5 ks)])] = some (bif validT 8 (mkT k s n xs ks) && decide ((toksT (mkT k s n xs ks)).length ≤ 40) then ([.one ((.seq 2 (tokDs (toksT (mkT k s n xs ks)))), true), .one ((.bool true), false)], []) else ([.one ((.seq 2 ([] : List D)), true), .one ((.bool false), false)], []))) : CallSpec Try.prog spec_TreeTokens.E :=
  callSpec_of (d := 0) hX (by kernel_rfl) spec_TreeTokens.I_ok (by kernel_rfl) (by kernel_rfl) (by kernel_rfl) (fun _ _ _ _ h => by dsimp only [spec_TreeTokens.E] at h; cases h) (fun xs hp => by
    dsimp only [spec_TreeTokens.E] at hp ⊢
    split at hp
    · exact h _ _ _ _ _ hp
    · cases hp)
theorem spec_TreeTokens.ok : CallSpec Try.prog spec_TreeTokens.E := spec_TreeTokens.ok_of (by simp [spec_TreeTokens.X, spec_validTree.ok, spec_unparse.ok]) fun k s n xs ks ht => ⟨1, by
  obtain ⟨ts, rfl⟩ := treesB_iff.1 ht
  rw [spec_TreeTokens.e, mkT_treeDs, ht, show decide (0 ≤ 8) = true from rfl, show decide (8 ≤ 8) = true from rfl, Bool.and_self, Bool.and_self, cond_true, show validT (8 : Int).toNat (.mk k s n xs ts) = validT 8 (.mk k s n xs ts) from rfl]
  cases hv : validT 8 (.mk k s n xs ts) with
  | false => rfl
  | true =>
    rw [Bool.not_true, cond_false, Bool.and_self, cond_true, tokDs_length]
    by_cases hl : (toksT (.mk k s n xs ts)).length ≤ 40
    · rw [decide_eq_true hl, decide_eq_false (by omega)]; rfl
    · rw [decide_eq_false hl, decide_eq_true (by omega)]; rfl⟩

namespace laws_equalTokens
noncomputable def E : Entry := ⟨19, true, false, fun | [.d (.seq 2 xs), .d (.seq 2 ys)] => toksB xs && toksB ys && decide ((xs : List D).length < 9223372036854775808) && decide ((ys : List D).length < 9223372036854775808) | _ => false, fun | [.d (.seq 2 xs), .d (.seq 2 ys)] => ([.one ((.bool (toksEq xs ys)), false)], []) | _ => ([], []), fun _ => [], false, fun _ => none, none⟩
end laws_equalTokens
namespace laws_equalTokens
noncomputable def X : List Entry := []
noncomputable def I : List Inl := [⟨19, Try.f19, ⟨[], [(1000004, [2, 3, 4, 6, 7, 8, 9, 10, 11, 12, 13, 14, 15, 16, 17, 18, 19, 20, 21, 22, 23, 24, 25])], [], [(6, [0, 1, 4, 5, 2, 3, 6, 7, 8])], [], []⟩⟩]
theorem I_ok : ∀ i ∈ I, Try.prog.funcs[i.f]? = some i.fn ∧ (i.fn.name == "runtime.NumGoroutine") = false := by
  intro i hi
  simp only [I, List.mem_cons, List.not_mem_nil, or_false] at hi
  subst hi
  exact ⟨by kernel_rfl, by kernel_rfl⟩
noncomputable abbrev L0 (fuel n : Nat) (s : St) (k : Kont) := lAt Try.prog X I fuel true 0 false 19 (bodyOf Try.f19) [1, 1, 0, 1, 0] n s k
noncomputable abbrev k0  (fuel : Nat) : Kont := (kAt Try.prog X I fuel true 0 false 19 (bodyOf Try.f19) [1, 1, 0, 1, 0] [] (endK Try.prog Try.f19))
noncomputable def t0 (p0 : List D) (p1 : List D) (x0q2 : Int) : St := ⟨[(.imm (.seq 2 p0)), (.imm (.seq 2 p1)), .dead, .dead, .dead, (.imm (.int .i64 x0q2)), .dead, .dead, .dead, .dead, .dead, .dead, .dead, .dead, .dead, .dead, .dead, .dead, .dead, .dead, .dead, .dead, .dead, .dead, .dead, .dead], hOf [], [], []⟩
theorem e (fuel : Nat) (p0 : List D) (p1 : List D) : runF Try.prog X I 0 fuel 19 Try.f19 [.d (.seq 2 p0), .d (.seq 2 p1)] =
  (bif ((((p0.length : Nat) : Int) : Int) != ((p1.length : Nat) : Int)) then
  some ([.one ((.bool false), false)], [])
  else
  L0 fuel fuel (t0 p0 p1 0) (k0  fuel)) := by kernel_rfl
theorem s0 (fuel n0 : Nat) (p0 : List D) (p1 : List D) (x0q2 : Int) : L0 fuel (n0 + 1) (t0 p0 p1 x0q2) (k0  fuel) =
  (bif (decide ((x0q2 : Int) < ((p0.length : Nat) : Int))) then
  (idx x0q2 p0.length).bind fun j5 =>
  (bif okS [.int .i64, .int .i64] p0 j5 then
  (idx x0q2 p1.length).bind fun j6 =>
  (bif okS [.int .i64, .int .i64] p1 j6 then
  (bif (!((((cellI p0 j5 0) : Int) == (cellI p1 j6 0)) && ((((cellI p0 j5 1) : Int) == (cellI p1 j6 1)) && true))) then
  some ([.one ((.bool false), false)], [])
  else
  L0 fuel n0 (t0 p0 p1 ((IntKind.wrap .i64 (x0q2 + 1)))) (k0  fuel))
  else
  none)
  else
  none)
  else
  some ([.one ((.bool true), false)], [])) := by kernel_rfl
end laws_equalTokens
theorem laws_equalTokens.ok_of (hX : ∀ E ∈ laws_equalTokens.X, CallSpec Try.prog E) (h : ∀ (xs : List D) (ys : List D), (toksB xs && toksB ys && decide ((xs : List D).length < 9223372036854775808) && decide ((ys : List D).length < 9223372036854775808)) = true → ∃ fuel, runF Try.prog laws_equalTokens.X laws_equalTokens.I 0 fuel 19 Try.f19 [.d (.seq 2 xs), .d (.seq 2 ys)] = some ([.one ((.bool (toksEq xs ys)), false)], [])) : CallSpec Try.prog laws_equalTokens.E :=
  callSpec_of (d := 0) hX (by kernel_rfl) laws_equalTokens.I_ok (by kernel_rfl) (by kernel_rfl) (by kernel_rfl) (fun _ _ _ _ h => by dsimp only [laws_equalTokens.E] at h; cases h) (fun xs hp => by
    dsimp only [laws_equalTokens.E] at hp ⊢
    split at hp
    · exact h _ _ hp
    · cases hp)
theorem laws_equalTokens.loop (F : Nat) (xs ys : List Tok) (hl : xs.length = ys.length) (hF : xs.length < F) (hb : xs.length < 9223372036854775808) : laws_equalTokens.L0 F F (laws_equalTokens.t0 (tokDs xs) (tokDs ys) 0) (laws_equalTokens.k0 F) = some ([.one (.bool (decide (xs = ys)), false)], []) := by
  refine cnt_loop (σ := Unit) (N := xs.length) (fun q j _ => laws_equalTokens.L0 F q (laws_equalTokens.t0 (tokDs xs) (tokDs ys) (j : Int)) (laws_equalTokens.k0 F)) (fun j _ => xs.take j = ys.take j) ?_ ?_ F 0 () (by omega) (by omega) rfl
  · intro q _ hI
    rw [List.take_length, hl, List.take_length] at hI
    rw [laws_equalTokens.s0, tokDs_length, dge (by omega), cond_false, decide_eq_true hI]
  · intro q j _ hj hI
    have hj2 : j < ys.length := by omega
    obtain ⟨v1, a1, a2⟩ := tok_view hj
    obtain ⟨v2, b1, b2⟩ := tok_view hj2
    rw [laws_equalTokens.s0, tokDs_length, tokDs_length, dlt hj, cond_true, idx_nat hj, Option.bind_some, v1, cond_true, idx_nat hj2, Option.bind_some, v2, cond_true, a1, a2, b1, b2, w1 (by omega)]
    by_cases he : xs[j] = ys[j]
    · rw [show (!((xs[j].1 == ys[j].1) && ((xs[j].2 == ys[j].2) && true))) = false by rw [he]; simp, cond_false]
      exact .inr ⟨(), by rw [List.take_succ_eq_append_getElem hj, List.take_succ_eq_append_getElem hj2, hI, he], rfl⟩
    · have hf : ((xs[j].1 == ys[j].1) && ((xs[j].2 == ys[j].2) && true)) = false := by
        rw [Bool.eq_false_iff]
        intro h
        simp only [Bool.and_eq_true, beq_iff_eq, and_true] at h
        exact he (Prod.ext h.1 h.2)
      rw [hf, Bool.not_false, cond_true, decide_eq_false (fun e => he (by simp only [e]))]
      exact .inl rfl
theorem laws_equalTokens.ok : CallSpec Try.prog laws_equalTokens.E := laws_equalTokens.ok_of (by simp [laws_equalTokens.X]) fun xs ys h => by
  simp only [Bool.and_eq_true, decide_eq_true_eq] at h
  obtain ⟨⟨⟨h1, h2⟩, h3⟩, h4⟩ := h
  obtain ⟨xs, rfl⟩ := toksB_iff.1 h1
  obtain ⟨ys, rfl⟩ := toksB_iff.1 h2
  refine ⟨xs.length + 1, ?_⟩
  rw [tokDs_length] at h3 h4
  rw [laws_equalTokens.e, toksEq_tok, tokDs_length, tokDs_length]
  by_cases hl : xs.length = ys.length
  · rw [hl, show ((((ys.length : Nat) : Int)) != ((ys.length : Nat) : Int)) = false by simp, cond_false]
    exact laws_equalTokens.loop _ xs ys hl (by omega) (by omega)
  · rw [show (((xs.length : Nat) : Int) != ((ys.length : Nat) : Int)) = true from bne_iff_ne.2 (by omega), cond_true, decide_eq_false (fun e => hl (by rw [e]))]

namespace impl_Token_isValid
noncomputable def E : Entry := ⟨32, true, false, fun | [.d (.agg [(.int .i64 k), (.int .i64 v)])] => true | _ => false, fun | [.d (.agg [(.int .i64 k), (.int .i64 v)])] => ([.one ((.bool (tokV k v)), false)], []) | _ => ([], []), fun _ => [], false, fun _ => none, none⟩
end impl_Token_isValid
namespace impl_Token_isValid
noncomputable def X : List Entry := [impl_isNumber.E]
noncomputable def I : List Inl := [⟨32, Try.f32, ⟨[], [], [], [], [], []⟩⟩]
theorem I_ok : ∀ i ∈ I, Try.prog.funcs[i.f]? = some i.fn ∧ (i.fn.name == "runtime.NumGoroutine") = false := by
  intro i hi
  simp only [I, List.mem_cons, List.not_mem_nil, or_false] at hi
  subst hi
  exact ⟨by kernel_rfl, by kernel_rfl⟩
theorem e (fuel : Nat) (p0q0 : Int) (p0q1 : Int) : runF Try.prog X I 0 fuel 32 Try.f32 [.d (.agg [(.int .i64 p0q0), (.int .i64 p0q1)])] =
  (bif ((p0q0 : Int) == 0) then
  some ([.one ((.bool (numB p0q1)), false)], [])
  else
  (bif ((p0q0 : Int) == 1) then
  (bif (decide ((0 : Int) ≤ p0q1)) then
  some ([.one ((.bool (decide ((p0q1 : Int) < 4))), false)], [])
  else
  some ([.one ((.bool false), false)], []))
  else
  (bif ((p0q0 : Int) == 2) then
  (bif (decide ((0 : Int) ≤ p0q1)) then
  some ([.one ((.bool (decide ((p0q1 : Int) < 15))), false)], [])
  else
  some ([.one ((.bool false), false)], []))
  else
  some ([.one ((.bool false), false)], [])))) := by kernel_rfl
end impl_Token_isValid
theorem impl_Token_isValid.ok_of (hX : ∀ E ∈ impl_Token_isValid.X, CallSpec Try.prog E) (h : ∀ (k : Int) (v : Int), (true) = true → ∃ fuel, runF Try.prog impl_Token_isValid.X impl_Token_isValid.I 0 fuel 32 Try.f32 [.d (.agg [(.int .i64 k), (.int .i64 v)])] = some ([.one ((.bool (tokV k v)), false)], [])) : CallSpec Try.prog impl_Token_isValid.E :=
  callSpec_of (d := 0) hX (by kernel_rfl) impl_Token_isValid.I_ok (by kernel_rfl) (by kernel_rfl) (by kernel_rfl) (fun _ _ _ _ h => by dsimp only [impl_Token_isValid.E] at h; cases h) (fun xs hp => by
    dsimp only [impl_Token_isValid.E] at hp ⊢
    split at hp
    · exact h _ _ hp
    · cases hp)
theorem impl_Token_isValid.ok : CallSpec Try.prog impl_Token_isValid.E := impl_Token_isValid.ok_of (by simp [impl_Token_isValid.X, impl_isNumber.ok]) fun k v _ => ⟨0, by
  rw [impl_Token_isValid.e, tokV]
  cases (k : Int) == 0 with
  | true => rfl
  | false =>
    cases (k : Int) == 1 with
    | true => cases decide ((0 : Int) ≤ v) <;> rfl
    | false =>
      cases (k : Int) == 2 with
      | true => cases decide ((0 : Int) ≤ v) <;> rfl
      | false => rfl⟩

end Go.Ab
