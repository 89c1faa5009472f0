import Derived.Test.Ytfdcmbjkapcbcabvtt
import Derived.Test.YtfdcmbjkapcbcabProg
import Derived.Test.YtfdcmbjkapcbcabChecked
open Go Go.Ab Go.Proofs
set_option maxRecDepth 100000
set_option linter.unusedVariables false
set_option linter.unusedSimpArgs false
namespace Go.Ab
abbrev nodeIds : Ids := ⟨117, 119, 121, 123, 124⟩
end Go.Ab
namespace Go.Ab
namespace laws_szIntS
noncomputable def E : Entry := ⟨36, true, false, fun | [.d (.ints .i64 xs), .d (.int .i64 left)] => true | _ => false, fun | [.d (.ints .i64 xs), .d (.int .i64 left)] => ([.one ((.int .i64 (szI xs left)), false)], []) | _ => ([], []), fun _ => [], false, fun _ => none, none⟩
end laws_szIntS
namespace laws_szIntS
noncomputable def X : List Entry := []
noncomputable def I : List Inl := [⟨36, Try.f36, ⟨[], [], [], [], [], []⟩⟩]
theorem I_ok : ∀ i ∈ I, Try.prog.funcs[i.f]? = some i.fn ∧ (i.fn.name == "runtime.NumGoroutine") = false := by
  intro i hi
  simp only [I, List.mem_cons, List.not_mem_nil, or_false] at hi
  subst hi
  exact ⟨by kernel_rfl, by kernel_rfl⟩
theorem e (fuel : Nat) (p0 : List Int) (p1 : Int) : runF Try.prog X I 0 fuel 36 Try.f36 [.d (.ints .i64 p0), .d (.int .i64 p1)] =
  (bif (decide (((IntKind.wrap .i64 (p1 - ((p0.length : Nat) : Int))) : Int) < 0)) then
  some ([.one ((.int .i64 (-1)), false)], [])
  else
  some ([.one ((.int .i64 (IntKind.wrap .i64 (p1 - ((p0.length : Nat) : Int)))), false)], [])) := by kernel_rfl
end laws_szIntS
theorem laws_szIntS.ok_of (hX : ∀ E ∈ laws_szIntS.X, CallSpec Try.prog E) (h : ∀ (xs : List Int) (left : Int), (true) = true → ∃ fuel, runF Try.prog laws_szIntS.X laws_szIntS.I 0 fuel 36 Try.f36 [.d (.ints .i64 xs), .d (.int .i64 left)] = some ([.one ((.int .i64 (szI xs left)), false)], [])) : CallSpec Try.prog laws_szIntS.E :=
  callSpec_of (d := 0) hX (by kernel_rfl) laws_szIntS.I_ok (by kernel_rfl) (by kernel_rfl) (by kernel_rfl) (fun _ _ _ _ h => by dsimp only [laws_szIntS.E] at h; cases h) (fun xs hp => by
    dsimp only [laws_szIntS.E] at hp ⊢
    split at hp
    · exact h _ _ hp
    · cases hp)
theorem laws_szIntS.ok : CallSpec Try.prog laws_szIntS.E := laws_szIntS.ok_of (by simp [laws_szIntS.X]) fun xs left _ => ⟨0, by
  rw [laws_szIntS.e]
  unfold szI
  cases decide (IntKind.wrap .i64 (left - ((xs.length : Nat) : Int)) < 0) <;> rfl⟩

namespace laws_szTree
noncomputable def E : Entry := ⟨12, true, false, fun | [.d (.agg [(.int .i64 k), (.int .i64 s), (.int .i64 n), (.ints .i64 xs), (.seq 5 ks)]), .d (.int .i64 left)] => treesB ks && smlL (mkT k s n xs ks) && decide (0 ≤ left) && decide (left ≤ 1048576) | _ => false, fun | [.d (.agg [(.int .i64 k), (.int .i64 s), (.int .i64 n), (.ints .i64 xs), (.seq 5 ks)]), .d (.int .i64 left)] => ([.one ((.int .i64 (szT (mkT k s n xs ks) left)), false)], []) | _ => ([], []), fun _ => [], false, fun _ => none, none⟩
noncomputable def Ed (d : Nat) : Entry := ⟨12, true, false, fun | [.d (.agg [(.int .i64 k), (.int .i64 s), (.int .i64 n), (.ints .i64 xs), (.seq 5 ks)]), .d (.int .i64 left)] => (treesB ks && smlL (mkT k s n xs ks) && decide (0 ≤ left) && decide (left ≤ 1048576) && decide (hgtT (mkT k s n xs ks) < d)) | _ => false, fun | [.d (.agg [(.int .i64 k), (.int .i64 s), (.int .i64 n), (.ints .i64 xs), (.seq 5 ks)]), .d (.int .i64 left)] => ([.one ((.int .i64 (szT (mkT k s n xs ks) left)), false)], []) | _ => ([], []), fun _ => [], false, fun _ => none, none⟩
theorem Ed_zero : CallSpec Try.prog (Ed 0) := CallSpec.void ⟨Try.f12, by kernel_rfl, by kernel_rfl, by kernel_rfl⟩ (fun xs => by dsimp only [Ed]; split <;> simp) (fun _ => rfl)
theorem E_of (h : ∀ d, CallSpec Try.prog (Ed d)) : CallSpec Try.prog E := CallSpec.union Ed h (fun _ => rfl) (fun _ => rfl) (fun _ => rfl) fun xs hp => by
  dsimp only [E] at hp
  split at hp
  · rename_i k s n xs ks left
    refine ⟨hgtT (mkT k s n xs ks) + 1, ?_, rfl⟩
    show (_ && decide (_ < _)) = true
    rw [hp]
    exact decide_eq_true (Nat.lt_succ_self _)
  · cases hp
end laws_szTree
namespace laws_szTree
noncomputable def X (d : Nat) : List Entry := [laws_szIntS.E, laws_szTree.Ed d]
noncomputable def I : List Inl := [⟨12, Try.f12, ⟨[], [(4, [0, 3, 4, 5, 6, 7, 8, 9, 10, 11, 12, 13, 14, 15, 16, 17])], [], [], [], []⟩⟩, ⟨37, Try.f37, ⟨[], [(1000005, [2, 3, 4, 6, 7, 8, 9, 10, 11, 12, 13, 14, 15, 16, 17, 18, 19, 20, 21, 22, 23, 24, 25, 26])], [], [], [], []⟩⟩]
theorem I_ok : ∀ i ∈ I, Try.prog.funcs[i.f]? = some i.fn ∧ (i.fn.name == "runtime.NumGoroutine") = false := by
  intro i hi
  simp only [I, List.mem_cons, List.not_mem_nil, or_false] at hi
  rcases hi with rfl | rfl
  all_goals exact ⟨by kernel_rfl, by kernel_rfl⟩
noncomputable abbrev L0 (d : Nat) (fuel n : Nat) (s : St) (k : Kont) := lAt Try.prog (X d) I fuel true 3 false 37 (bodyOf Try.f37) [1, 1, 1, 0, 1, 0] n s k
noncomputable abbrev k0 (d : Nat)  (fuel : Nat) : Kont := (kAt Try.prog (X d) I fuel true 3 false 37 (bodyOf Try.f37) [1, 1, 1, 0, 1, 0] [] (endFn Try.prog Try.f37 18 (kOp Try.prog (X d) I fuel true 4 12 (cAt (bodyOf Try.f12) [1, 1, 1, 0]) 3 (kAt Try.prog (X d) I fuel true 4 false 12 (bodyOf Try.f12) [1, 1, 1, 0] [] (endK Try.prog Try.f12)))))
noncomputable def t0 (p0q4 : List D) (p0q0 : Int) (p0q1 : Int) (p0q2 : Int) (p0q3 : List Int) (p1 : Int) (x0q1 : Int) (x0q2 : Int) : St := ⟨[(.imm (.seq 5 p0q4)), (.imm (.int .i64 x0q1)), .dead, .dead, .dead, (.imm (.int .i64 x0q2)), .dead, .dead, .dead, .dead, .dead, .dead, .dead, .dead, .dead, .dead, .dead, .dead, .dead, .dead, .dead, .dead, .dead, .dead, .dead, .dead, .dead], hOf [(1000000000, (.box [(.imm (.int .i64 p0q0)), (.imm (.int .i64 p0q1)), (.imm (.int .i64 p0q2)), (.imm (.ints .i64 p0q3)), (.imm (.seq 5 p0q4))]))], [.dead, (.imm (.int .i64 (szI p0q3 p1))), (.ptr 1000000000 0 0), .dead, .dead, .dead, .dead, .dead, .dead, .dead, .dead, (.ptr 1000000000 0 4), (.imm (.seq 5 p0q4)), (.imm (.int .i64 (szI p0q3 p1))), .dead, .dead, .dead, .dead, (.tup [])], []⟩
theorem e (d : Nat) (fuel : Nat) (p0q0 : Int) (p0q1 : Int) (p0q2 : Int) (p0q3 : List Int) (p0q4 : List D) (p1 : Int) : runF Try.prog (X d) I 4 fuel 12 Try.f12 [.d (.agg [(.int .i64 p0q0), (.int .i64 p0q1), (.int .i64 p0q2), (.ints .i64 p0q3), (.seq 5 p0q4)]), .d (.int .i64 p1)] =
  (bif (decide (((szI p0q3 p1) : Int) < 0)) then
  some ([.one ((.int .i64 (-1)), false)], [])
  else
  (bif (decide (((IntKind.wrap .i64 ((szI p0q3 p1) - ((p0q4.length : Nat) : Int))) : Int) < 0)) then
  (bif (decide (((-1) : Int) < 0)) then
  some ([.one ((.int .i64 (-1)), false)], [])
  else
  some ([.one ((.int .i64 (-1)), false)], []))
  else
  L0 d fuel fuel (t0 p0q4 p0q0 p0q1 p0q2 p0q3 p1 ((IntKind.wrap .i64 ((szI p0q3 p1) - ((p0q4.length : Nat) : Int)))) 0) (k0 d  fuel))) := by kernel_rfl
theorem s0 (d : Nat) (fuel n0 : Nat) (p0q4 : List D) (p0q0 : Int) (p0q1 : Int) (p0q2 : Int) (p0q3 : List Int) (p1 : Int) (x0q1 : Int) (x0q2 : Int) : L0 d fuel (n0 + 1) (t0 p0q4 p0q0 p0q1 p0q2 p0q3 p1 x0q1 x0q2) (k0 d  fuel) =
  (bif (decide ((x0q2 : Int) < ((p0q4.length : Nat) : Int))) then
  (idx x0q2 p0q4.length).bind fun j3 =>
  (bif okS [.int .i64, .int .i64, .int .i64, .ints .i64, .seq 5] p0q4 j3 then
  (bif (treesB ((cellQ p0q4 j3 4)) && smlL (mkT ((cellI p0q4 j3 0)) ((cellI p0q4 j3 1)) ((cellI p0q4 j3 2)) ((cellL p0q4 j3 3)) ((cellQ p0q4 j3 4))) && decide (0 ≤ x0q1) && decide (x0q1 ≤ 1048576) && decide (hgtT (mkT ((cellI p0q4 j3 0)) ((cellI p0q4 j3 1)) ((cellI p0q4 j3 2)) ((cellL p0q4 j3 3)) ((cellQ p0q4 j3 4))) < d)) then
  (bif (decide (((szT (mkT ((cellI p0q4 j3 0)) ((cellI p0q4 j3 1)) ((cellI p0q4 j3 2)) ((cellL p0q4 j3 3)) ((cellQ p0q4 j3 4))) x0q1) : Int) < 0)) then
  (bif (decide (((-1) : Int) < 0)) then
  some ([.one ((.int .i64 (-1)), false)], [])
  else
  some ([.one ((.int .i64 (-1)), false)], []))
  else
  L0 d fuel n0 (t0 p0q4 p0q0 p0q1 p0q2 p0q3 p1 ((szT (mkT ((cellI p0q4 j3 0)) ((cellI p0q4 j3 1)) ((cellI p0q4 j3 2)) ((cellL p0q4 j3 3)) ((cellQ p0q4 j3 4))) x0q1)) ((IntKind.wrap .i64 (x0q2 + 1)))) (k0 d  fuel))
  else
  none)
  else
  none)
  else
  (bif (decide ((x0q1 : Int) < 0)) then
  some ([.one ((.int .i64 (-1)), false)], [])
  else
  some ([.one ((.int .i64 x0q1), false)], []))) := by kernel_rfl
end laws_szTree
theorem laws_szTree.ok_of (d : Nat) (hX : ∀ E ∈ laws_szTree.X d, CallSpec Try.prog E) (h : ∀ (k : Int) (s : Int) (n : Int) (xs : List Int) (ks : List D) (left : Int), ((treesB ks && smlL (mkT k s n xs ks) && decide (0 ≤ left) && decide (left ≤ 1048576)) && decide (hgtT (mkT k s n xs ks) < d + 1)) = true → ∃ fuel, runF Try.prog (laws_szTree.X d) laws_szTree.I 4 fuel 12 Try.f12 [.d (.agg [(.int .i64 k), (.int .i64 s), (.int .i64 n), (.ints .i64 xs), (.seq 5 ks)]), .d (.int .i64 left)] = some ([.one ((.int .i64 (szT (mkT k s n xs ks) left)), false)], [])) : CallSpec Try.prog (laws_szTree.Ed (d + 1)) :=
  callSpec_of (d := 4) hX (by kernel_rfl) laws_szTree.I_ok (by kernel_rfl) (by kernel_rfl) (by kernel_rfl) (fun _ _ _ _ h => by dsimp only [laws_szTree.Ed] at h; cases h) (fun xs hp => by
    dsimp only [laws_szTree.Ed] at hp ⊢
    split at hp
    · exact h _ _ _ _ _ _ hp
    · cases hp)
theorem laws_szTree.okd : ∀ d, CallSpec Try.prog (laws_szTree.Ed d)
  | 0 => laws_szTree.Ed_zero
  | d + 1 => laws_szTree.ok_of d (by simp [laws_szTree.X, laws_szTree.okd d, laws_szIntS.ok]) fun k s n xs ks left h => by
    simp only [Bool.and_eq_true, decide_eq_true_eq] at h
    obtain ⟨⟨⟨⟨ht, hs⟩, h0⟩, h1⟩, hd⟩ := h
    obtain ⟨ts, rfl⟩ := treesB_iff.1 ht
    rw [mkT_treeDs] at hs hd ⊢
    unfold smlL at hs
    simp only [smT, Bool.and_eq_true, decide_eq_true_eq] at hs
    obtain ⟨⟨hx, hk⟩, hks⟩ := hs
    simp only [hgtT] at hd
    refine ⟨ts.length + 1, ?_⟩
    rw [laws_szTree.e, treeDs_length, szT]
    by_cases g1 : szI xs left < 0
    · rw [decide_eq_true g1]; rfl
    obtain ⟨_, g2, g3⟩ := szI_sml hx h0 h1 g1
    rw [decide_eq_false g1, cond_false, cond_false]
    have hw : IntKind.wrap .i64 (szI xs left - ((ts.length : Nat) : Int)) = szI xs left - ts.length := wS (by omega) (by omega)
    rw [hw]
    by_cases g4 : szI xs left - (ts.length : Int) < 0
    · rw [decide_eq_true g4]; rfl
    rw [decide_eq_false g4, cond_false, cond_false]
    generalize hl0 : szI xs left - (ts.length : Int) = l0 at g4
    refine cnt_loop (σ := Int) (N := ts.length) (fun q j l => laws_szTree.L0 d (ts.length + 1) q (laws_szTree.t0 (treeDs ts) k s n xs left l (j : Int)) (laws_szTree.k0 d (ts.length + 1)))
      (fun j l => szTs ts l0 = szTs (ts.drop j) l ∧ 0 ≤ l ∧ l ≤ 1048576) ?_ ?_ (ts.length + 1) 0 l0 (by omega) (by omega) ⟨rfl, by omega, by omega⟩
    · rintro q l ⟨hI, hl, _⟩
      rw [laws_szTree.s0, treeDs_length, dge (by omega), cond_false, decide_eq_false (by omega), cond_false, hI, List.drop_length, szTs]
    · rintro q j l hj ⟨hI, hl, hl2⟩
      obtain ⟨v0, v1, v2, v3, v4, v5⟩ := tr_view hj
      have hsj := sm_get hj hks
      rw [laws_szTree.s0, treeDs_length, dlt hj, cond_true, idx_nat hj, Option.bind_some, v0, cond_true, tr_tb hj, tr_mk hj]
      rw [show smlL ts[j] = true from hsj, decide_eq_true (p := (0 : Int) ≤ l) hl, decide_eq_true (p := l ≤ 1048576) hl2, decide_eq_true (p := hgtT ts[j] < d) (by have := hgt_get hj; omega)]
      rw [szTs_drop hj] at hI
      rw [w1 (by omega)]
      by_cases g5 : szT ts[j] l < 0
      · rw [decide_eq_true g5] at hI ⊢
        exact .inl (by rw [hI]; rfl)
      · obtain ⟨_, g6, g7⟩ := szT_small ts[j] l hsj hl hl2 g5
        rw [decide_eq_false g5] at hI ⊢
        exact .inr ⟨szT ts[j] l, ⟨hI, g6, by omega⟩, rfl⟩
theorem laws_szTree.ok : CallSpec Try.prog laws_szTree.E := laws_szTree.E_of laws_szTree.okd

namespace laws_toIntS
noncomputable def E : Entry := ⟨39, false, false, fun | [.d (.ints .i64 xs)] => szB xs | _ => false, fun | [.d (.ints .i64 xs)] => ([.one ((.ints .i64 xs), true)], []) | _ => ([], []), fun _ => [], true, fun _ => none, none⟩
end laws_toIntS
namespace laws_toIntS
noncomputable def X : List Entry := []
noncomputable def I : List Inl := [⟨39, Try.f39, ⟨[], [(1000003, [1, 2, 5, 6, 7, 8, 9, 10, 11, 12, 13, 14, 15, 16, 17, 18, 19, 20, 21])], [], [], [], []⟩⟩]
theorem I_ok : ∀ i ∈ I, Try.prog.funcs[i.f]? = some i.fn ∧ (i.fn.name == "runtime.NumGoroutine") = false := by
  intro i hi
  simp only [I, List.mem_cons, List.not_mem_nil, or_false] at hi
  subst hi
  exact ⟨by kernel_rfl, by kernel_rfl⟩
noncomputable abbrev L0 (fuel n : Nat) (s : St) (k : Kont) := lAt Try.prog X I fuel true 0 false 39 (bodyOf Try.f39) [1, 1, 0, 1, 0] n s k
noncomputable abbrev k0  (fuel : Nat) : Kont := (kAt Try.prog X I fuel true 0 false 39 (bodyOf Try.f39) [1, 1, 0, 1, 0] [] (endK Try.prog Try.f39))
noncomputable def t0 (p0 : List Int) (x0q1 : Int) (x0q2 : List Int) : St := ⟨[(.imm (.ints .i64 p0)), .dead, .dead, (.all 1000000000 1), (.imm (.int .i64 x0q1)), .dead, .dead, .dead, .dead, .dead, .dead, .dead, .dead, .dead, .dead, .dead, .dead, .dead, .dead, .dead, .dead, .dead], hOf [(1000000000, (.ints .i64 x0q2))], [], []⟩
theorem e (fuel : Nat) (p0 : List Int) : runF Try.prog X I 0 fuel 39 Try.f39 [.d (.ints .i64 p0)] =
  (bif decide (0 ≤ (((p0.length : Nat) : Int) : Int)) && decide ((((p0.length : Nat) : Int) : Int) ≤ ((p0.length : Nat) : Int)) && decide ((((p0.length : Nat) : Int) : Int) ≤ 1152921504606846976) && decide (((8 : Nat) : Int) * ((p0.length : Nat) : Int) ≤ 281474976710656) then
  L0 fuel fuel (t0 p0 0 ((List.replicate (((p0.length : Nat) : Int)).toNat (0 : Int)))) (k0  fuel)
  else
  none) := by kernel_rfl
theorem s0 (fuel n0 : Nat) (p0 : List Int) (x0q1 : Int) (x0q2 : List Int) : L0 fuel (n0 + 1) (t0 p0 x0q1 x0q2) (k0  fuel) =
  (bif (decide ((x0q1 : Int) < ((p0.length : Nat) : Int))) then
  (idx x0q1 p0.length).bind fun j7 =>
  (p0[j7]?).bind fun v8 =>
  (idx x0q1 x0q2.length).bind fun j9 =>
  (bif decide (j9 < x0q2.length) then
  L0 fuel n0 (t0 p0 ((IntKind.wrap .i64 (x0q1 + 1))) ((x0q2.set j9 v8))) (k0  fuel)
  else
  none)
  else
  some ([.one ((.ints .i64 x0q2), true)], [])) := by kernel_rfl
end laws_toIntS
theorem laws_toIntS.ok_of (hX : ∀ E ∈ laws_toIntS.X, CallSpec Try.prog E) (h : ∀ (xs : List Int), (szB xs) = true → ∃ fuel, runF Try.prog laws_toIntS.X laws_toIntS.I 0 fuel 39 Try.f39 [.d (.ints .i64 xs)] = some ([.one ((.ints .i64 xs), true)], [])) : CallSpec Try.prog laws_toIntS.E :=
  callSpec_of (d := 0) hX (by kernel_rfl) laws_toIntS.I_ok (by kernel_rfl) (by kernel_rfl) (by kernel_rfl) (fun _ _ _ _ h => by dsimp only [laws_toIntS.E] at h; cases h) (fun xs hp => by
    dsimp only [laws_toIntS.E] at hp ⊢
    split at hp
    · exact h _ hp
    · cases hp)
theorem laws_toIntS.loop (fuel : Nat) (xs : List Int) (hx : xs.length < 9223372036854775808) : ∀ (m n j : Nat) (out : List Int), xs.length - j = m → m < n → j ≤ xs.length → out.length = xs.length → out.take j = xs.take j →
    laws_toIntS.L0 fuel n (laws_toIntS.t0 xs (j : Int) out) (laws_toIntS.k0 fuel) = some ([.one (.ints .i64 xs, true)], []) := by
  intro m
  induction m with
  | zero =>
    intro n j out h1 h2 h3 h4 h5
    obtain ⟨n, rfl⟩ : ∃ n', n = n' + 1 := ⟨n - 1, by omega⟩
    have hj : ¬ j < xs.length := by omega
    have : out = xs := by rw [List.take_of_length_le (by omega), List.take_of_length_le (by omega)] at h5; exact h5
    rw [laws_toIntS.s0, dge hj, this]
    rfl
  | succ m ih =>
    intro n j out h1 h2 h3 h4 h5
    obtain ⟨n, rfl⟩ : ∃ n', n = n' + 1 := ⟨n - 1, by omega⟩
    have hj : j < xs.length := by omega
    have hj2 : j < out.length := by omega
    rw [laws_toIntS.s0, dlt hj, idx_nat hj, idx_nat hj2, w1 (by omega)]
    simp only [cond_true, Option.bind_some, getS hj, hj2, decide_true]
    exact ih n (j + 1) _ (by omega) (by omega) (by omega) (by simpa using h4) (take_set_succ hj hj2 h5)

theorem laws_toIntS.ok : CallSpec Try.prog laws_toIntS.E := laws_toIntS.ok_of (by simp [laws_toIntS.X]) fun xs h => by
  have hx := szB_le h
  refine ⟨xs.length + 1, ?_⟩
  rw [laws_toIntS.e, mkOk (by omega) (by omega)]
  exact laws_toIntS.loop (xs.length + 1) xs (by omega) xs.length (xs.length + 1) 0 _ (by omega) (by omega) (by omega) (by simp) (by simp)

namespace laws_toTree
noncomputable def E : Entry := ⟨14, false, false, fun | [.d (.agg [(.int .i64 k), (.int .i64 s), (.int .i64 n), (.ints .i64 xs), (.seq 5 ks)])] => treesB ks && smallT (mkT k s n xs ks) | _ => false, fun | [.d (.agg [(.int .i64 k), (.int .i64 s), (.int .i64 n), (.ints .i64 xs), (.seq 5 ks)])] => ([.agg [((.int .i64 k), false), ((.int .i64 s), false), ((.int .i64 n), false), ((.ints .i64 xs), true), ((.seq 5 ks), true)]], []) | _ => ([], []), fun _ => [], true, fun _ => none, none⟩
noncomputable def Ed (d : Nat) : Entry := ⟨14, false, false, fun | [.d (.agg [(.int .i64 k), (.int .i64 s), (.int .i64 n), (.ints .i64 xs), (.seq 5 ks)])] => (treesB ks && smallT (mkT k s n xs ks) && decide (hgtT (mkT k s n xs ks) < d)) | _ => false, fun | [.d (.agg [(.int .i64 k), (.int .i64 s), (.int .i64 n), (.ints .i64 xs), (.seq 5 ks)])] => ([.agg [((.int .i64 k), false), ((.int .i64 s), false), ((.int .i64 n), false), ((.ints .i64 xs), true), ((.seq 5 ks), true)]], []) | _ => ([], []), fun _ => [], true, fun _ => none, none⟩
theorem Ed_zero : CallSpec Try.prog (Ed 0) := CallSpec.void ⟨Try.f14, by kernel_rfl, by kernel_rfl, by kernel_rfl⟩ (fun xs => by dsimp only [Ed]; split <;> simp) (fun _ => rfl)
theorem E_of (h : ∀ d, CallSpec Try.prog (Ed d)) : CallSpec Try.prog E := CallSpec.union Ed h (fun _ => rfl) (fun _ => rfl) (fun _ => rfl) fun xs hp => by
  dsimp only [E] at hp
  split at hp
  · rename_i k s n xs ks
    refine ⟨hgtT (mkT k s n xs ks) + 1, ?_, rfl⟩
    show (_ && decide (_ < _)) = true
    rw [hp]
    exact decide_eq_true (Nat.lt_succ_self _)
  · cases hp
end laws_toTree
namespace laws_toTree
noncomputable def X (d : Nat) : List Entry := [laws_toIntS.E, laws_toTree.Ed d]
noncomputable def I : List Inl := [⟨14, Try.f14, ⟨[15, 19], [(6, [0, 4, 5, 6, 7, 8, 9, 10, 11, 12, 13, 14, 15, 16, 17, 18, 19, 20, 21])], [], [], [], []⟩⟩, ⟨40, Try.f40, ⟨[], [(1000003, [1, 2, 5, 6, 7, 8, 9, 10, 11, 12, 13, 14, 15, 16, 17, 18, 19, 20, 21, 22])], [], [], [], []⟩⟩]
theorem I_ok : ∀ i ∈ I, Try.prog.funcs[i.f]? = some i.fn ∧ (i.fn.name == "runtime.NumGoroutine") = false := by
  intro i hi
  simp only [I, List.mem_cons, List.not_mem_nil, or_false] at hi
  rcases hi with rfl | rfl
  all_goals exact ⟨by kernel_rfl, by kernel_rfl⟩
noncomputable abbrev L0 (d : Nat) (fuel n : Nat) (s : St) (k : Kont) := lAt Try.prog (X d) I fuel true 3 false 40 (bodyOf Try.f40) [1, 1, 0, 1, 0] n s k
noncomputable abbrev k0 (d : Nat)  (fuel : Nat) : Kont := (kAt Try.prog (X d) I fuel true 3 false 40 (bodyOf Try.f40) [1, 1, 0, 1, 0] [] (endFn Try.prog Try.f40 22 (kOp Try.prog (X d) I fuel true 4 14 (cAt (bodyOf Try.f14) [1, 1, 1, 1, 1, 1, 0]) 2 (kAt Try.prog (X d) I fuel true 4 false 14 (bodyOf Try.f14) [1, 1, 1, 1, 1, 1, 0] [] (endK Try.prog Try.f14)))))
noncomputable def t0 (p0q4 : List D) (p0q0 : Int) (p0q1 : Int) (p0q2 : Int) (p0q3 : List Int) (x0q1 : Int) (x0q13 : List D) : St := ⟨[(.imm (.seq 5 p0q4)), .dead, .dead, (.all 1000000003 5), (.imm (.int .i64 x0q1)), .dead, .dead, .dead, .dead, .dead, .dead, .dead, .dead, .dead, .dead, .dead, .dead, .dead, .dead, .dead, .dead, .dead, .dead], hOf [(1000000000, (.box [(.imm (.int .i64 0)), (.imm (.int .i64 0)), (.imm (.int .i64 0)), (.imm .nils), (.imm .nils)])), (1000000001, (.box [(.imm (.int .i64 p0q0)), (.imm (.int .i64 p0q1)), (.imm (.int .i64 p0q2)), (.all 1000000004 1), (.imm .nils)])), (1000000002, (.box [(.imm (.int .i64 p0q0)), (.imm (.int .i64 p0q1)), (.imm (.int .i64 p0q2)), (.imm (.ints .i64 p0q3)), (.imm (.seq 5 p0q4))])), (1000000003, (.ds 5 x0q13)), (1000000004, (.ints .i64 p0q3))], [.dead, (.ptr 1000000002 0 0), (.ptr 1000000000 0 0), (.ptr 1000000001 0 0), .dead, .dead, .dead, .dead, .dead, .dead, .dead, .dead, .dead, .dead, .dead, .dead, .dead, (.ptr 1000000002 0 4), (.imm (.seq 5 p0q4)), .dead, .dead, .dead, (.tup [])], []⟩
theorem e (d : Nat) (fuel : Nat) (p0q0 : Int) (p0q1 : Int) (p0q2 : Int) (p0q3 : List Int) (p0q4 : List D) : runF Try.prog (X d) I 4 fuel 14 Try.f14 [.d (.agg [(.int .i64 p0q0), (.int .i64 p0q1), (.int .i64 p0q2), (.ints .i64 p0q3), (.seq 5 p0q4)])] =
  (bif szB p0q3 then
  (bif decide (0 ≤ (((p0q4.length : Nat) : Int) : Int)) && decide ((((p0q4.length : Nat) : Int) : Int) ≤ ((p0q4.length : Nat) : Int)) && decide ((((p0q4.length : Nat) : Int) : Int) ≤ 1152921504606846976) && decide (((72 : Nat) : Int) * ((p0q4.length : Nat) : Int) ≤ 281474976710656) then
  L0 d fuel fuel (t0 p0q4 p0q0 p0q1 p0q2 p0q3 0 ((List.replicate (((p0q4.length : Nat) : Int)).toNat ((.agg [(.int .i64 0), (.int .i64 0), (.int .i64 0), (.ints .i64 ([] : List Int)), (.seq 5 ([] : List D))]) : D)))) (k0 d  fuel)
  else
  none)
  else
  none) := by kernel_rfl
theorem s0 (d : Nat) (fuel n0 : Nat) (p0q4 : List D) (p0q0 : Int) (p0q1 : Int) (p0q2 : Int) (p0q3 : List Int) (x0q1 : Int) (x0q13 : List D) : L0 d fuel (n0 + 1) (t0 p0q4 p0q0 p0q1 p0q2 p0q3 x0q1 x0q13) (k0 d  fuel) =
  (bif (decide ((x0q1 : Int) < ((p0q4.length : Nat) : Int))) then
  (idx x0q1 p0q4.length).bind fun j5 =>
  (bif okS [.int .i64, .int .i64, .int .i64, .ints .i64, .seq 5] p0q4 j5 then
  (bif (treesB ((cellQ p0q4 j5 4)) && smallT (mkT ((cellI p0q4 j5 0)) ((cellI p0q4 j5 1)) ((cellI p0q4 j5 2)) ((cellL p0q4 j5 3)) ((cellQ p0q4 j5 4))) && decide (hgtT (mkT ((cellI p0q4 j5 0)) ((cellI p0q4 j5 1)) ((cellI p0q4 j5 2)) ((cellL p0q4 j5 3)) ((cellQ p0q4 j5 4))) < d)) then
  (idx x0q1 x0q13.length).bind fun j6 =>
  (bif decide (j6 < x0q13.length) then
  L0 d fuel n0 (t0 p0q4 p0q0 p0q1 p0q2 p0q3 ((IntKind.wrap .i64 (x0q1 + 1))) ((x0q13.set j6 (.agg [(.int .i64 ((cellI p0q4 j5 0))), (.int .i64 ((cellI p0q4 j5 1))), (.int .i64 ((cellI p0q4 j5 2))), (.ints .i64 ((cellL p0q4 j5 3))), (.seq 5 ((cellQ p0q4 j5 4)))])))) (k0 d  fuel)
  else
  none)
  else
  none)
  else
  none)
  else
  some ([.agg [((.int .i64 p0q0), false), ((.int .i64 p0q1), false), ((.int .i64 p0q2), false), ((.ints .i64 p0q3), true), ((.seq 5 x0q13), true)]], [])) := by kernel_rfl
end laws_toTree
theorem laws_toTree.ok_of (d : Nat) (hX : ∀ E ∈ laws_toTree.X d, CallSpec Try.prog E) (h : ∀ (k : Int) (s : Int) (n : Int) (xs : List Int) (ks : List D), ((treesB ks && smallT (mkT k s n xs ks)) && decide (hgtT (mkT k s n xs ks) < d + 1)) = true → ∃ fuel, runF Try.prog (laws_toTree.X d) laws_toTree.I 4 fuel 14 Try.f14 [.d (.agg [(.int .i64 k), (.int .i64 s), (.int .i64 n), (.ints .i64 xs), (.seq 5 ks)])] = some ([.agg [((.int .i64 k), false), ((.int .i64 s), false), ((.int .i64 n), false), ((.ints .i64 xs), true), ((.seq 5 ks), true)]], [])) : CallSpec Try.prog (laws_toTree.Ed (d + 1)) :=
  callSpec_of (d := 4) hX (by kernel_rfl) laws_toTree.I_ok (by kernel_rfl) (by kernel_rfl) (by kernel_rfl) (fun _ _ _ _ h => by dsimp only [laws_toTree.Ed] at h; cases h) (fun xs hp => by
    dsimp only [laws_toTree.Ed] at hp ⊢
    split at hp
    · exact h _ _ _ _ _ hp
    · cases hp)
theorem laws_toTree.okd : ∀ d, CallSpec Try.prog (laws_toTree.Ed d)
  | 0 => laws_toTree.Ed_zero
  | d + 1 => laws_toTree.ok_of d (by simp [laws_toTree.X, laws_toTree.okd d, laws_toIntS.ok]) fun k s n xs ks h => by
    simp only [Bool.and_eq_true, decide_eq_true_eq] at h
    obtain ⟨⟨ht, hs⟩, hd⟩ := h
    obtain ⟨ts, rfl⟩ := treesB_iff.1 ht
    rw [mkT_treeDs] at hs hd
    unfold smallT at hs
    simp only [smT, Bool.and_eq_true, decide_eq_true_eq] at hs
    obtain ⟨⟨hx, hk⟩, hks⟩ := hs
    simp only [hgtT] at hd
    refine ⟨ts.length + 1, ?_⟩
    rw [laws_toTree.e, treeDs_length, szB_of (by omega), cond_true]
    rw [decide_eq_true (p := (0 : Int) ≤ ((ts.length : Nat) : Int)) (by omega), decide_eq_true (p := ((ts.length : Nat) : Int) ≤ ((ts.length : Nat) : Int)) (by omega), decide_eq_true (p := ((ts.length : Nat) : Int) ≤ 1152921504606846976) (by omega), decide_eq_true (p := ((72 : Nat) : Int) * ((ts.length : Nat) : Int) ≤ 281474976710656) (by omega)]
    rw [Bool.and_self, Bool.and_self, Bool.and_self, cond_true, Int.toNat_natCast]
    generalize hz : (D.agg [.int .i64 0, .int .i64 0, .int .i64 0, .ints .i64 ([] : List Int), .seq 5 ([] : List D)]) = z
    have hpl := treeDs_length ts
    refine run_loop (σ := List D) (N := ts.length) (fun q j out => laws_toTree.L0 d (ts.length + 1) q (laws_toTree.t0 (treeDs ts) k s n xs (j : Int) out) (laws_toTree.k0 d (ts.length + 1)))
      (fun j out => out = partG (treeDs ts) z j) ?_ ?_ (ts.length + 1) 0 _ (by omega) (by omega) (by rw [partG_zero, hpl])
    · rintro q out hI
      rw [laws_toTree.s0, treeDs_length, dge (by omega), cond_false, hI, ← hpl, partG_all]
    · rintro q j out hj hI
      obtain ⟨v0, v1, v2, v3, v4, v5⟩ := tr_view hj
      have hol : out.length = ts.length := by rw [hI, partG_length (by omega), hpl]
      rw [laws_toTree.s0, treeDs_length, dlt hj, cond_true, idx_nat hj, Option.bind_some, v0, cond_true, tr_tb hj, tr_mk hj, tr_D hj]
      rw [show smallT ts[j] = true from sm_get hj hks, decide_eq_true (p := hgtT ts[j] < d) (by have := hgt_get hj; omega), Bool.and_self, Bool.and_self, cond_true]
      rw [hol, idx_nat hj, Option.bind_some, decide_eq_true (p := j < ts.length) hj, cond_true, w1 (by omega)]
      refine ⟨_, ?_, rfl⟩
      rw [hI]
      have e : (treeDs ts)[j]'(by omega) = treeD ts[j] := by simp only [treeDs_map, List.getElem_map]
      rw [← e]
      exact partG_set (by omega)
theorem laws_toTree.ok : CallSpec Try.prog laws_toTree.E := laws_toTree.E_of laws_toTree.okd

namespace spec_inRange
noncomputable def E : Entry := ⟨33, true, false, fun | [.d (.int .i64 v), .d (.int .i64 lo), .d (.int .i64 hi)] => true | _ => false, fun | [.d (.int .i64 v), .d (.int .i64 lo), .d (.int .i64 hi)] => ([.one ((.bool (decide (lo ≤ v) && decide (v ≤ hi))), false)], []) | _ => ([], []), fun _ => [], false, fun _ => none, none⟩
end spec_inRange
namespace spec_inRange
noncomputable def X : List Entry := []
noncomputable def I : List Inl := [⟨33, Try.f33, ⟨[], [], [], [], [], []⟩⟩]
theorem I_ok : ∀ i ∈ I, Try.prog.funcs[i.f]? = some i.fn ∧ (i.fn.name == "runtime.NumGoroutine") = false := by
  intro i hi
  simp only [I, List.mem_cons, List.not_mem_nil, or_false] at hi
  subst hi
  exact ⟨by kernel_rfl, by kernel_rfl⟩
theorem e (fuel : Nat) (p0 : Int) (p1 : Int) (p2 : Int) : runF Try.prog X I 0 fuel 33 Try.f33 [.d (.int .i64 p0), .d (.int .i64 p1), .d (.int .i64 p2)] =
  (bif (decide ((p1 : Int) ≤ p0)) then
  some ([.one ((.bool (decide ((p0 : Int) ≤ p2))), false)], [])
  else
  some ([.one ((.bool false), false)], [])) := by kernel_rfl
end spec_inRange
theorem spec_inRange.ok_of (hX : ∀ E ∈ spec_inRange.X, CallSpec Try.prog E) (h : ∀ (v : Int) (lo : Int) (hi : Int), (true) = true → ∃ fuel, runF Try.prog spec_inRange.X spec_inRange.I 0 fuel 33 Try.f33 [.d (.int .i64 v), .d (.int .i64 lo), .d (.int .i64 hi)] = some ([.one ((.bool (decide (lo ≤ v) && decide (v ≤ hi))), false)], [])) : CallSpec Try.prog spec_inRange.E :=
  callSpec_of (d := 0) hX (by kernel_rfl) spec_inRange.I_ok (by kernel_rfl) (by kernel_rfl) (by kernel_rfl) (fun _ _ _ _ h => by dsimp only [spec_inRange.E] at h; cases h) (fun xs hp => by
    dsimp only [spec_inRange.E] at hp ⊢
    split at hp
    · exact h _ _ _ hp
    · cases hp)
theorem spec_inRange.ok : CallSpec Try.prog spec_inRange.E := spec_inRange.ok_of (by simp [spec_inRange.X]) fun v lo hi _ => ⟨0, by
  rw [spec_inRange.e]
  cases decide (lo ≤ v) <;> rfl⟩

namespace spec_allIn
noncomputable def E : Entry := ⟨63, true, false, fun | [.d (.ints .i64 xs), .d (.int .i64 lo), .d (.int .i64 hi)] => decide (xs.length < 9223372036854775808) | _ => false, fun | [.d (.ints .i64 xs), .d (.int .i64 lo), .d (.int .i64 hi)] => ([.one ((.bool (allB xs lo hi)), false)], []) | _ => ([], []), fun _ => [], false, fun _ => none, none⟩
end spec_allIn
namespace spec_allIn
noncomputable def X : List Entry := [spec_inRange.E]
noncomputable def I : List Inl := [⟨63, Try.f63, ⟨[], [(1000002, [3, 4, 5, 6, 8, 9, 10, 11, 12, 13, 14, 15, 16, 17, 18, 19, 20, 21])], [], [], [], []⟩⟩]
theorem I_ok : ∀ i ∈ I, Try.prog.funcs[i.f]? = some i.fn ∧ (i.fn.name == "runtime.NumGoroutine") = false := by
  intro i hi
  simp only [I, List.mem_cons, List.not_mem_nil, or_false] at hi
  subst hi
  exact ⟨by kernel_rfl, by kernel_rfl⟩
noncomputable abbrev L0 (fuel n : Nat) (s : St) (k : Kont) := lAt Try.prog X I fuel true 0 false 63 (bodyOf Try.f63) [1, 0, 1, 0] n s k
noncomputable abbrev k0  (fuel : Nat) : Kont := (kAt Try.prog X I fuel true 0 false 63 (bodyOf Try.f63) [1, 0, 1, 0] [] (endK Try.prog Try.f63))
noncomputable def t0 (p0 : List Int) (p1 : Int) (p2 : Int) (x0q3 : Int) : St := ⟨[(.imm (.ints .i64 p0)), (.imm (.int .i64 p1)), (.imm (.int .i64 p2)), .dead, .dead, .dead, .dead, (.imm (.int .i64 x0q3)), .dead, .dead, .dead, .dead, .dead, .dead, .dead, .dead, .dead, .dead, .dead, .dead, .dead, .dead], hOf [], [], []⟩
theorem e (fuel : Nat) (p0 : List Int) (p1 : Int) (p2 : Int) : runF Try.prog X I 0 fuel 63 Try.f63 [.d (.ints .i64 p0), .d (.int .i64 p1), .d (.int .i64 p2)] =
  L0 fuel fuel (t0 p0 p1 p2 0) (k0  fuel) := by kernel_rfl
theorem s0 (fuel n0 : Nat) (p0 : List Int) (p1 : Int) (p2 : Int) (x0q3 : Int) : L0 fuel (n0 + 1) (t0 p0 p1 p2 x0q3) (k0  fuel) =
  (bif (decide ((x0q3 : Int) < ((p0.length : Nat) : Int))) then
  (idx x0q3 p0.length).bind fun j5 =>
  (p0[j5]?).bind fun v6 =>
  (bif (!(decide (p1 ≤ v6) && decide (v6 ≤ p2))) then
  some ([.one ((.bool false), false)], [])
  else
  L0 fuel n0 (t0 p0 p1 p2 ((IntKind.wrap .i64 (x0q3 + 1)))) (k0  fuel))
  else
  some ([.one ((.bool true), false)], [])) := by kernel_rfl
end spec_allIn
theorem spec_allIn.ok_of (hX : ∀ E ∈ spec_allIn.X, CallSpec Try.prog E) (h : ∀ (xs : List Int) (lo : Int) (hi : Int), (decide (xs.length < 9223372036854775808)) = true → ∃ fuel, runF Try.prog spec_allIn.X spec_allIn.I 0 fuel 63 Try.f63 [.d (.ints .i64 xs), .d (.int .i64 lo), .d (.int .i64 hi)] = some ([.one ((.bool (allB xs lo hi)), false)], [])) : CallSpec Try.prog spec_allIn.E :=
  callSpec_of (d := 0) hX (by kernel_rfl) spec_allIn.I_ok (by kernel_rfl) (by kernel_rfl) (by kernel_rfl) (fun _ _ _ _ h => by dsimp only [spec_allIn.E] at h; cases h) (fun xs hp => by
    dsimp only [spec_allIn.E] at hp ⊢
    split at hp
    · exact h _ _ _ hp
    · cases hp)
theorem spec_allIn.loop (fuel : Nat) (xs : List Int) (lo hi : Int) (hx : xs.length < 9223372036854775808) : ∀ (m n j : Nat), xs.length - j = m → m < n → j ≤ xs.length →
    spec_allIn.L0 fuel n (spec_allIn.t0 xs lo hi (j : Int)) (spec_allIn.k0 fuel) = some ([.one (.bool (allB (xs.drop j) lo hi), false)], []) := by
  intro m
  induction m with
  | zero =>
    intro n j h1 h2 h3
    obtain ⟨n, rfl⟩ : ∃ n', n = n' + 1 := ⟨n - 1, by omega⟩
    have hj : ¬ j < xs.length := by omega
    rw [spec_allIn.s0, dge hj, dropE hj]
    rfl
  | succ m ih =>
    intro n j h1 h2 h3
    obtain ⟨n, rfl⟩ : ∃ n', n = n' + 1 := ⟨n - 1, by omega⟩
    have hj : j < xs.length := by omega
    rw [spec_allIn.s0, dlt hj, idx_nat hj, w1 (by omega), dropS hj]
    simp only [cond_true, Option.bind_some, getS hj, allB_cons]
    rw [ih n (j + 1) (by omega) (by omega) (by omega)]
    cases decide (lo ≤ xs[j]) && decide (xs[j] ≤ hi) <;> rfl

theorem spec_allIn.ok : CallSpec Try.prog spec_allIn.E := spec_allIn.ok_of (by simp [spec_allIn.X, spec_inRange.ok]) fun xs lo hi h => by
  simp only [decide_eq_true_eq] at h
  refine ⟨xs.length + 1, ?_⟩
  rw [spec_allIn.e]
  exact spec_allIn.loop (xs.length + 1) xs lo hi h xs.length (xs.length + 1) 0 (by omega) (by omega) (by omega)

namespace spec_isOp
noncomputable def E : Entry := ⟨64, true, false, fun | [.d (.int .i64 s)] => true | _ => false, fun | [.d (.int .i64 s)] => ([.one ((.bool (sgOk s)), false)], []) | _ => ([], []), fun _ => [], false, fun _ => none, none⟩
end spec_isOp
namespace spec_isOp
noncomputable def X : List Entry := [spec_inRange.E]
noncomputable def I : List Inl := [⟨64, Try.f64, ⟨[], [], [], [], [], []⟩⟩]
theorem I_ok : ∀ i ∈ I, Try.prog.funcs[i.f]? = some i.fn ∧ (i.fn.name == "runtime.NumGoroutine") = false := by
  intro i hi
  simp only [I, List.mem_cons, List.not_mem_nil, or_false] at hi
  subst hi
  exact ⟨by kernel_rfl, by kernel_rfl⟩
theorem e (fuel : Nat) (p0 : Int) : runF Try.prog X I 0 fuel 64 Try.f64 [.d (.int .i64 p0)] =
  some ([.one ((.bool (decide (0 ≤ p0) && decide (p0 ≤ 7))), false)], []) := by kernel_rfl
end spec_isOp
theorem spec_isOp.ok_of (hX : ∀ E ∈ spec_isOp.X, CallSpec Try.prog E) (h : ∀ (s : Int), (true) = true → ∃ fuel, runF Try.prog spec_isOp.X spec_isOp.I 0 fuel 64 Try.f64 [.d (.int .i64 s)] = some ([.one ((.bool (sgOk s)), false)], [])) : CallSpec Try.prog spec_isOp.E :=
  callSpec_of (d := 0) hX (by kernel_rfl) spec_isOp.I_ok (by kernel_rfl) (by kernel_rfl) (by kernel_rfl) (fun _ _ _ _ h => by dsimp only [spec_isOp.E] at h; cases h) (fun xs hp => by
    dsimp only [spec_isOp.E] at hp ⊢
    split at hp
    · exact h _ hp
    · cases hp)
theorem spec_isOp.ok : CallSpec Try.prog spec_isOp.E := spec_isOp.ok_of (by simp [spec_isOp.X, spec_inRange.ok]) fun s _ => ⟨0, by rw [spec_isOp.e]; rfl⟩

namespace spec_validTree
noncomputable def E : Entry := ⟨38, true, false, fun | [.d (.agg [(.int .i64 k), (.int .i64 s), (.int .i64 n), (.ints .i64 xs), (.seq 5 ks)]), .d (.int .i64 dep)] => treesB ks && decide (0 ≤ dep) && decide (dep ≤ 8) | _ => false, fun | [.d (.agg [(.int .i64 k), (.int .i64 s), (.int .i64 n), (.ints .i64 xs), (.seq 5 ks)]), .d (.int .i64 dep)] => ([.one ((.bool (validT dep.toNat (mkT k s n xs ks))), false)], []) | _ => ([], []), fun _ => [], false, fun _ => none, none⟩
noncomputable def Ed (d : Nat) : Entry := ⟨38, true, false, fun | [.d (.agg [(.int .i64 k), (.int .i64 s), (.int .i64 n), (.ints .i64 xs), (.seq 5 ks)]), .d (.int .i64 dep)] => (treesB ks && decide (0 ≤ dep) && decide (dep ≤ 8) && decide (dep.toNat < d)) | _ => false, fun | [.d (.agg [(.int .i64 k), (.int .i64 s), (.int .i64 n), (.ints .i64 xs), (.seq 5 ks)]), .d (.int .i64 dep)] => ([.one ((.bool (validT dep.toNat (mkT k s n xs ks))), false)], []) | _ => ([], []), fun _ => [], false, fun _ => none, none⟩
theorem Ed_zero : CallSpec Try.prog (Ed 0) := CallSpec.void ⟨Try.f38, by kernel_rfl, by kernel_rfl, by kernel_rfl⟩ (fun xs => by dsimp only [Ed]; split <;> simp) (fun _ => rfl)
theorem E_of (h : ∀ d, CallSpec Try.prog (Ed d)) : CallSpec Try.prog E := CallSpec.union Ed h (fun _ => rfl) (fun _ => rfl) (fun _ => rfl) fun xs hp => by
  dsimp only [E] at hp
  split at hp
  · rename_i k s n xs ks dep
    refine ⟨dep.toNat + 1, ?_, rfl⟩
    show (_ && decide (_ < _)) = true
    rw [hp]
    exact decide_eq_true (Nat.lt_succ_self _)
  · cases hp
end spec_validTree
namespace spec_validTree
noncomputable def X (d : Nat) : List Entry := [spec_inRange.E, spec_validTree.Ed d, spec_allIn.E, spec_isOp.E]
noncomputable def I : List Inl := [⟨38, Try.f38, ⟨[], [(1000007, [0, 3, 4, 5, 7, 8, 9, 10, 11, 12, 13, 14, 15, 16, 17, 18, 19, 20, 21, 22, 23, 24, 25, 26, 27, 28, 29, 30, 31, 32, 33, 34, 35, 36, 37, 38, 39, 40, 41, 42, 43, 44, 45, 46, 47, 48, 49, 50, 51, 52, 53, 54, 55, 56, 57, 58, 59, 60, 61, 62, 63, 64, 65, 66, 67, 68, 69, 70, 71, 72, 73, 74, 75, 76, 77, 78, 79, 80, 81, 82, 83, 84, 85, 86, 87, 88, 89, 90, 91, 92, 93, 94, 95, 96, 97, 98, 99, 100, 101, 102, 103, 104, 105, 106, 107, 108, 109, 110, 111, 112, 113, 114, 115, 116, 117])], [], [(4, [0, 1, 2, 3, 4, 5, 8, 9, 6, 7, 10, 11, 12, 13, 14])], [], []⟩⟩]
theorem I_ok : ∀ i ∈ I, Try.prog.funcs[i.f]? = some i.fn ∧ (i.fn.name == "runtime.NumGoroutine") = false := by
  intro i hi
  simp only [I, List.mem_cons, List.not_mem_nil, or_false] at hi
  subst hi
  exact ⟨by kernel_rfl, by kernel_rfl⟩
noncomputable abbrev L0 (d : Nat) (fuel n : Nat) (s : St) (k : Kont) := lAt Try.prog (X d) I fuel true 0 false 38 (bodyOf Try.f38) [1, 1, 1, 1, 0, 1, 0] n s k
noncomputable abbrev k0 (d : Nat)  (fuel : Nat) : Kont := (kAt Try.prog (X d) I fuel true 0 false 38 (bodyOf Try.f38) [1, 1, 1, 1, 0, 1, 0] [] (endK Try.prog Try.f38))
noncomputable def t0 (p1 : Int) (p0q0 : Int) (p0q1 : Int) (p0q2 : Int) (p0q3 : List Int) (p0q4 : List D) (x0q1 : Int) : St := ⟨[.dead, (.imm (.int .i64 p1)), (.ptr 1000000000 0 0), .dead, .dead, .dead, (.imm (.int .i64 x0q1)), .dead, .dead, .dead, .dead, .dead, .dead, .dead, .dead, .dead, .dead, .dead, .dead, .dead, .dead, .dead, .dead, .dead, .dead, .dead, .dead, .dead, .dead, .dead, .dead, .dead, .dead, .dead, .dead, .dead, .dead, .dead, .dead, .dead, .dead, .dead, .dead, .dead, .dead, .dead, .dead, .dead, .dead, .dead, .dead, .dead, .dead, .dead, .dead, .dead, .dead, .dead, .dead, .dead, .dead, .dead, .dead, .dead, .dead, .dead, .dead, .dead, .dead, .dead, .dead, .dead, .dead, .dead, .dead, .dead, .dead, .dead, .dead, .dead, .dead, .dead, .dead, .dead, .dead, .dead, .dead, .dead, .dead, .dead, .dead, .dead, .dead, .dead, .dead, .dead, .dead, .dead, .dead, .dead, .dead, .dead, .dead, .dead, .dead, .dead, .dead, .dead, .dead, .dead, .dead, .dead, .dead, .dead, .dead, .dead, .dead, .dead], hOf [(1000000000, (.box [(.imm (.int .i64 p0q0)), (.imm (.int .i64 p0q1)), (.imm (.int .i64 p0q2)), (.imm (.ints .i64 p0q3)), (.imm (.seq 5 p0q4))]))], [], []⟩
theorem e (d : Nat) (fuel : Nat) (p0q0 : Int) (p0q1 : Int) (p0q2 : Int) (p0q3 : List Int) (p0q4 : List D) (p1 : Int) : runF Try.prog (X d) I 0 fuel 38 Try.f38 [.d (.agg [(.int .i64 p0q0), (.int .i64 p0q1), (.int .i64 p0q2), (.ints .i64 p0q3), (.seq 5 p0q4)]), .d (.int .i64 p1)] =
  (bif ((p1 : Int) == 0) then
  some ([.one ((.bool false), false)], [])
  else
  (bif ((p0q0 : Int) != 0) then
  (bif (decide ((((p0q3.length : Nat) : Int) : Int) > 0)) then
  some ([.one ((.bool false), false)], [])
  else
  (bif ((p0q0 : Int) != 1) then
  (bif ((p0q2 : Int) != 0) then
  some ([.one ((.bool false), false)], [])
  else
  (bif (decide ((p0q0 : Int) < 2)) then
  (bif ((p0q1 : Int) != 0) then
  some ([.one ((.bool false), false)], [])
  else
  (bif (!(decide (0 ≤ p0q0) && decide (p0q0 ≤ 4))) then
  some ([.one ((.bool false), false)], [])
  else
  (idx p0q0 [0, 0, 1, 2, 1].length).bind fun j1 =>
  ([0, 0, 1, 2, 1][j1]?).bind fun v2 =>
  (bif ((((p0q4.length : Nat) : Int) : Int) != v2) then
  some ([.one ((.bool false), false)], [])
  else
  L0 d fuel fuel (t0 p1 p0q0 p0q1 p0q2 p0q3 p0q4 0) (k0 d  fuel))))
  else
  (bif (!(decide (0 ≤ p0q0) && decide (p0q0 ≤ 4))) then
  some ([.one ((.bool false), false)], [])
  else
  (idx p0q0 [0, 0, 1, 2, 1].length).bind fun j6 =>
  ([0, 0, 1, 2, 1][j6]?).bind fun v7 =>
  (bif ((((p0q4.length : Nat) : Int) : Int) != v7) then
  some ([.one ((.bool false), false)], [])
  else
  L0 d fuel fuel (t0 p1 p0q0 p0q1 p0q2 p0q3 p0q4 0) (k0 d  fuel)))))
  else
  (bif (decide ((p0q0 : Int) < 2)) then
  (bif ((p0q1 : Int) != 0) then
  some ([.one ((.bool false), false)], [])
  else
  (bif (!(decide (0 ≤ p0q0) && decide (p0q0 ≤ 4))) then
  some ([.one ((.bool false), false)], [])
  else
  (idx p0q0 [0, 0, 1, 2, 1].length).bind fun j8 =>
  ([0, 0, 1, 2, 1][j8]?).bind fun v9 =>
  (bif ((((p0q4.length : Nat) : Int) : Int) != v9) then
  some ([.one ((.bool false), false)], [])
  else
  L0 d fuel fuel (t0 p1 p0q0 p0q1 p0q2 p0q3 p0q4 0) (k0 d  fuel))))
  else
  (bif (!(decide (0 ≤ p0q0) && decide (p0q0 ≤ 4))) then
  some ([.one ((.bool false), false)], [])
  else
  (idx p0q0 [0, 0, 1, 2, 1].length).bind fun j10 =>
  ([0, 0, 1, 2, 1][j10]?).bind fun v11 =>
  (bif ((((p0q4.length : Nat) : Int) : Int) != v11) then
  some ([.one ((.bool false), false)], [])
  else
  L0 d fuel fuel (t0 p1 p0q0 p0q1 p0q2 p0q3 p0q4 0) (k0 d  fuel))))))
  else
  (bif ((p0q0 : Int) != 1) then
  (bif ((p0q2 : Int) != 0) then
  some ([.one ((.bool false), false)], [])
  else
  (bif (decide ((p0q0 : Int) < 2)) then
  (bif ((p0q1 : Int) != 0) then
  some ([.one ((.bool false), false)], [])
  else
  (bif (!(decide (0 ≤ p0q0) && decide (p0q0 ≤ 4))) then
  some ([.one ((.bool false), false)], [])
  else
  (idx p0q0 [0, 0, 1, 2, 1].length).bind fun j12 =>
  ([0, 0, 1, 2, 1][j12]?).bind fun v13 =>
  (bif ((((p0q4.length : Nat) : Int) : Int) != v13) then
  some ([.one ((.bool false), false)], [])
  else
  L0 d fuel fuel (t0 p1 p0q0 p0q1 p0q2 p0q3 p0q4 0) (k0 d  fuel))))
  else
  (bif (!(decide (0 ≤ p0q0) && decide (p0q0 ≤ 4))) then
  some ([.one ((.bool false), false)], [])
  else
  (idx p0q0 [0, 0, 1, 2, 1].length).bind fun j14 =>
  ([0, 0, 1, 2, 1][j14]?).bind fun v15 =>
  (bif ((((p0q4.length : Nat) : Int) : Int) != v15) then
  some ([.one ((.bool false), false)], [])
  else
  L0 d fuel fuel (t0 p1 p0q0 p0q1 p0q2 p0q3 p0q4 0) (k0 d  fuel)))))
  else
  (bif (decide ((p0q0 : Int) < 2)) then
  (bif ((p0q1 : Int) != 0) then
  some ([.one ((.bool false), false)], [])
  else
  (bif (!(decide (0 ≤ p0q0) && decide (p0q0 ≤ 4))) then
  some ([.one ((.bool false), false)], [])
  else
  (idx p0q0 [0, 0, 1, 2, 1].length).bind fun j16 =>
  ([0, 0, 1, 2, 1][j16]?).bind fun v17 =>
  (bif ((((p0q4.length : Nat) : Int) : Int) != v17) then
  some ([.one ((.bool false), false)], [])
  else
  L0 d fuel fuel (t0 p1 p0q0 p0q1 p0q2 p0q3 p0q4 0) (k0 d  fuel))))
  else
  (bif (!(decide (0 ≤ p0q0) && decide (p0q0 ≤ 4))) then
  some ([.one ((.bool false), false)], [])
  else
  (idx p0q0 [0, 0, 1, 2, 1].length).bind fun j18 =>
  ([0, 0, 1, 2, 1][j18]?).bind fun v19 =>
  (bif ((((p0q4.length : Nat) : Int) : Int) != v19) then
  some ([.one ((.bool false), false)], [])
  else
  L0 d fuel fuel (t0 p1 p0q0 p0q1 p0q2 p0q3 p0q4 0) (k0 d  fuel))))))) := by kernel_rfl
theorem s0 (d : Nat) (fuel n0 : Nat) (p1 : Int) (p0q0 : Int) (p0q1 : Int) (p0q2 : Int) (p0q3 : List Int) (p0q4 : List D) (x0q1 : Int) : L0 d fuel (n0 + 1) (t0 p1 p0q0 p0q1 p0q2 p0q3 p0q4 x0q1) (k0 d  fuel) =
  (bif (decide ((x0q1 : Int) < ((p0q4.length : Nat) : Int))) then
  (idx x0q1 p0q4.length).bind fun j5 =>
  (bif okS [.int .i64, .int .i64, .int .i64, .ints .i64, .seq 5] p0q4 j5 then
  (bif (treesB ((cellQ p0q4 j5 4)) && decide (0 ≤ ((IntKind.wrap .i64 (p1 - 1)))) && decide (((IntKind.wrap .i64 (p1 - 1))) ≤ 8) && decide (((IntKind.wrap .i64 (p1 - 1))).toNat < d)) then
  (bif (!(validT ((IntKind.wrap .i64 (p1 - 1))).toNat (mkT ((cellI p0q4 j5 0)) ((cellI p0q4 j5 1)) ((cellI p0q4 j5 2)) ((cellL p0q4 j5 3)) ((cellQ p0q4 j5 4))))) then
  some ([.one ((.bool false), false)], [])
  else
  L0 d fuel n0 (t0 p1 p0q0 p0q1 p0q2 p0q3 p0q4 ((IntKind.wrap .i64 (x0q1 + 1)))) (k0 d  fuel))
  else
  none)
  else
  none)
  else
  (bif ((p0q0 : Int) == 0) then
  (bif (decide (1 ≤ (((p0q3.length : Nat) : Int))) && decide ((((p0q3.length : Nat) : Int)) ≤ 40)) then
  (bif decide (p0q3.length < 9223372036854775808) then
  some ([.one ((.bool (allB p0q3 ((-1000000)) 1000000)), false)], [])
  else
  none)
  else
  some ([.one ((.bool false), false)], []))
  else
  (bif ((p0q0 : Int) == 1) then
  some ([.one ((.bool (decide (0 ≤ p0q2) && decide (p0q2 ≤ 3))), false)], [])
  else
  (bif ((p0q0 : Int) == 2) then
  (bif ((p0q1 : Int) == 1) then
  some ([.one ((.bool true), false)], [])
  else
  some ([.one ((.bool (decide (8 ≤ p0q1) && decide (p0q1 ≤ 10))), false)], []))
  else
  (bif ((p0q0 : Int) == 3) then
  (bif (sgOk p0q1) then
  some ([.one ((.bool true), false)], [])
  else
  (bif ((p0q1 : Int) == 8) then
  some ([.one ((.bool true), false)], [])
  else
  some ([.one ((.bool (decide (10 ≤ p0q1) && decide (p0q1 ≤ 11))), false)], [])))
  else
  some ([.one ((.bool (sgOk p0q1)), false)], [])))))) := by kernel_rfl
end spec_validTree
theorem spec_validTree.ok_of (d : Nat) (hX : ∀ E ∈ spec_validTree.X d, CallSpec Try.prog E) (h : ∀ (k : Int) (s : Int) (n : Int) (xs : List Int) (ks : List D) (dep : Int), ((treesB ks && decide (0 ≤ dep) && decide (dep ≤ 8)) && decide (dep.toNat < d + 1)) = true → ∃ fuel, runF Try.prog (spec_validTree.X d) spec_validTree.I 0 fuel 38 Try.f38 [.d (.agg [(.int .i64 k), (.int .i64 s), (.int .i64 n), (.ints .i64 xs), (.seq 5 ks)]), .d (.int .i64 dep)] = some ([.one ((.bool (validT dep.toNat (mkT k s n xs ks))), false)], [])) : CallSpec Try.prog (spec_validTree.Ed (d + 1)) :=
  callSpec_of (d := 0) hX (by kernel_rfl) spec_validTree.I_ok (by kernel_rfl) (by kernel_rfl) (by kernel_rfl) (fun _ _ _ _ h => by dsimp only [spec_validTree.Ed] at h; cases h) (fun xs hp => by
    dsimp only [spec_validTree.Ed] at hp ⊢
    split at hp
    · exact h _ _ _ _ _ _ hp
    · cases hp)
theorem spec_validTree.loop (d F m : Nat) (k s n : Int) (xs : List Int) (ts : List Tr) (hts : ts.length < 9223372036854775807) (hF : ts.length < F) (hm : m < 9) (hmd : m < d) (h0 : 0 ≤ k) (h4 : k ≤ 4) :
    spec_validTree.L0 d F F (spec_validTree.t0 ((m + 1 : Nat) : Int) k s n xs (treeDs ts) 0) (spec_validTree.k0 d F) = some ([.one (.bool (partOk k s n xs && ts.all (validT m)), false)], []) := by
  refine cnt_loop (σ := Unit) (N := ts.length) (fun q j _ => spec_validTree.L0 d F q (spec_validTree.t0 ((m + 1 : Nat) : Int) k s n xs (treeDs ts) (j : Int)) (spec_validTree.k0 d F))
    (fun j _ => ts.all (validT m) = (ts.drop j).all (validT m)) ?_ ?_ F 0 () (by omega) (by omega) (by rfl)
  · intro q _ hI
    rw [spec_validTree.s0, treeDs_length, dge (by omega), cond_false, hI, List.drop_length, List.all_nil, Bool.and_true]
    have ea : allB xs (-1000000) 1000000 = xs.all numB := rfl
    rw [ea]
    have e1 : decide ((1 : Int) ≤ ((xs.length : Nat) : Int)) = decide (1 ≤ xs.length) := decide_eq_decide.2 (by omega)
    have e2 : decide (((xs.length : Nat) : Int) ≤ 40) = decide (xs.length ≤ 40) := decide_eq_decide.2 (by omega)
    rw [e1, e2]
    obtain rfl | rfl | rfl | rfl | rfl : k = 0 ∨ k = 1 ∨ k = 2 ∨ k = 3 ∨ k = 4 := by omega
    · show (bif decide (1 ≤ xs.length) && decide (xs.length ≤ 40) then (bif decide (xs.length < 9223372036854775808) then _ else _) else _) = (some ([.one (.bool (decide (1 ≤ xs.length) && decide (xs.length ≤ 40) && xs.all numB), false)], []) : Option Ret)
      by_cases h : xs.length ≤ 40
      · rw [lt_of (by omega)]
        cases decide (1 ≤ xs.length) <;> cases decide (xs.length ≤ 40) <;> rfl
      · rw [decide_eq_false h]
        cases decide (1 ≤ xs.length) <;> rfl
    · show (some ([.one (.bool (decide (0 ≤ n) && decide (n ≤ 3)), false)], []) : Option Ret) = some ([.one (.bool (decide (0 ≤ n) && decide (n < 4)), false)], [])
      have : decide (n ≤ 3) = decide (n < 4) := decide_eq_decide.2 (by omega)
      rw [this]
    · show (bif s == 1 then _ else (some ([.one (.bool (decide (8 ≤ s) && decide (s ≤ 10)), false)], []) : Option Ret)) = some ([.one (.bool (s == 1 || s == 8 || s == 9 || s == 10), false)], [])
      have : (decide (8 ≤ s) && decide (s ≤ 10)) = (s == 8 || s == 9 || s == 10) := by
        rw [Bool.eq_iff_iff]
        simp
        omega
      rw [this]
      cases s == 1 <;> simp
    · show (bif sgOk s then _ else (bif s == 8 then _ else (some ([.one (.bool (decide (10 ≤ s) && decide (s ≤ 11)), false)], []) : Option Ret))) = some ([.one (.bool (s == 8 || s == 10 || s == 11 || sgOk s), false)], [])
      have : (decide (10 ≤ s) && decide (s ≤ 11)) = (s == 10 || s == 11) := by
        rw [Bool.eq_iff_iff]
        simp
        omega
      rw [this]
      cases sgOk s <;> cases s == 8 <;> cases s == 10 <;> cases s == 11 <;> rfl
    · rfl
  · intro q j _ hj hI
    obtain ⟨v0, v1, v2, v3, v4, v5⟩ := tr_view hj
    rw [spec_validTree.s0, treeDs_length, dlt hj, idx_nat hj, w1 (by omega)]
    simp only [cond_true, Option.bind_some]
    rw [v0, tr_tb hj, tr_mk hj]
    have ew : IntKind.wrap .i64 (((m + 1 : Nat) : Int) - 1) = (m : Int) := by rw [wS (by omega) (by omega)]; omega
    rw [ew, Int.toNat_natCast, decide_eq_true (p := (0 : Int) ≤ (m : Int)) (by omega), decide_eq_true hmd, decide_eq_true (p := (m : Int) ≤ 8) (by omega)]
    simp only [cond_true, Bool.and_self]
    rw [List.drop_eq_getElem_cons hj, List.all_cons] at hI
    cases hv : validT m ts[j] with
    | true => exact .inr ⟨(), by rw [hI, hv, Bool.true_and], rfl⟩
    | false => exact .inl (by rw [hI, hv, Bool.false_and, Bool.and_false]; rfl)

theorem spec_validTree.okd : ∀ d, CallSpec Try.prog (spec_validTree.Ed d)
  | 0 => spec_validTree.Ed_zero
  | d + 1 => spec_validTree.ok_of d (by simp [spec_validTree.X, spec_validTree.okd d, spec_inRange.ok, spec_allIn.ok, spec_isOp.ok]) fun k s n xs ks dep h => by
    simp only [Bool.and_eq_true, decide_eq_true_eq] at h
    obtain ⟨⟨⟨ht, h0⟩, h8⟩, hd⟩ := h
    obtain ⟨ts, rfl⟩ := treesB_iff.1 ht
    refine ⟨ts.length + 4, ?_⟩
    rw [spec_validTree.e, mkT_treeDs]
    by_cases hz : dep = 0
    · subst hz; rfl
    obtain ⟨m, rfl⟩ : ∃ m : Nat, dep = ((m + 1 : Nat) : Int) := ⟨dep.toNat - 1, by omega⟩
    rw [beq_eq_false_iff_ne.2 hz, cond_false, treeDs_length, Int.toNat_natCast, validT]
    have eA : decide (((xs.length : Nat) : Int) > 0) = !decide (xs.length = 0) := by rw [← decide_not]; exact decide_eq_decide.2 (by omega)
    have eT : ∀ v : Nat, (((ts.length : Nat) : Int) == (v : Int)) = decide (ts.length = v) := fun v => by by_cases h : ts.length = v <;> simp [h]; omega
    simp only [bne, eA, bareT]
    by_cases hk : 0 ≤ k ∧ k ≤ 4
    · have hL : (decide (ts.length = kidN k)) = true → spec_validTree.L0 d (ts.length + 4) (ts.length + 4) (spec_validTree.t0 ((m + 1 : Nat) : Int) k s n xs (treeDs ts) 0) (spec_validTree.k0 d (ts.length + 4)) = some ([.one (.bool (partOk k s n xs && ts.all (validT m)), false)], []) := fun hl => by
        have := of_decide_eq_true hl
        have hk2 := kidN_le k
        exact spec_validTree.loop d _ m k s n xs ts (by omega) (by omega) (by simp at hd; omega) (by simp at hd; omega) hk.1 hk.2
      generalize hb1 : decide (xs.length = 0) = b1
      generalize hb2 : (n == 0) = b2
      generalize hb3 : (s == 0) = b3
      obtain rfl | rfl | rfl | rfl | rfl : k = 0 ∨ k = 1 ∨ k = 2 ∨ k = 3 ∨ k = 4 := by omega
      · have e1 : ∀ G : Int → Option Ret, ((idx 0 ([0, 0, 1, 2, 1] : List Nat).length).bind fun j => (([0, 0, 1, 2, 1] : List Int)[j]?).bind G) = G ((0 : Nat) : Int) := fun G => rfl
        have c1 : ((0 : Int) == 0) = true := rfl
        have c2 : ((0 : Int) == 1) = false := rfl
        have c3 : decide ((0 : Int) < 2) = true := rfl
        have c4 : (decide ((0 : Int) ≤ 0) && decide ((0 : Int) ≤ 4)) = true := rfl
        have hK : kidN 0 = 0 := rfl
        rw [hK] at hL ⊢
        generalize hr : (_ && ts.all (validT m)) = r
        rw [c1, Bool.not_true, cond_false, c2, Bool.not_false, cond_true, c3, cond_true, c4, Bool.not_true, cond_false, e1, eT]
        subst hr
        cases hb4 : decide (ts.length = 0) with
        | false => cases b1 <;> cases b2 <;> cases b3 <;> rfl
        | true =>
          rw [hL hb4]
          cases b1 <;> cases b2 <;> cases b3 <;> rfl
      · have e1 : ∀ G : Int → Option Ret, ((idx 1 ([0, 0, 1, 2, 1] : List Nat).length).bind fun j => (([0, 0, 1, 2, 1] : List Int)[j]?).bind G) = G ((0 : Nat) : Int) := fun G => rfl
        have c1 : ((1 : Int) == 0) = false := rfl
        have c2 : ((1 : Int) == 1) = true := rfl
        have c3 : decide ((1 : Int) < 2) = true := rfl
        have c4 : (decide ((0 : Int) ≤ 1) && decide ((1 : Int) ≤ 4)) = true := rfl
        have hK : kidN 1 = 0 := rfl
        rw [hK] at hL ⊢
        generalize hr : (_ && ts.all (validT m)) = r
        rw [c1, Bool.not_false, cond_true, c2, Bool.not_true, cond_false, c3, cond_true, c4, Bool.not_true, cond_false, e1, eT]
        subst hr
        cases hb4 : decide (ts.length = 0) with
        | false => cases b1 <;> cases b2 <;> cases b3 <;> rfl
        | true =>
          rw [hL hb4]
          cases b1 <;> cases b2 <;> cases b3 <;> rfl
      · have e1 : ∀ G : Int → Option Ret, ((idx 2 ([0, 0, 1, 2, 1] : List Nat).length).bind fun j => (([0, 0, 1, 2, 1] : List Int)[j]?).bind G) = G ((1 : Nat) : Int) := fun G => rfl
        have c1 : ((2 : Int) == 0) = false := rfl
        have c2 : ((2 : Int) == 1) = false := rfl
        have c3 : decide ((2 : Int) < 2) = false := rfl
        have c4 : (decide ((0 : Int) ≤ 2) && decide ((2 : Int) ≤ 4)) = true := rfl
        have hK : kidN 2 = 1 := rfl
        rw [hK] at hL ⊢
        generalize hr : (_ && ts.all (validT m)) = r
        rw [c1, Bool.not_false, cond_true, c2, Bool.not_false, cond_true, c3, cond_false, c4, Bool.not_true, cond_false, e1, eT]
        subst hr
        cases hb4 : decide (ts.length = 1) with
        | false => cases b1 <;> cases b2 <;> cases b3 <;> rfl
        | true =>
          rw [hL hb4]
          cases b1 <;> cases b2 <;> cases b3 <;> rfl
      · have e1 : ∀ G : Int → Option Ret, ((idx 3 ([0, 0, 1, 2, 1] : List Nat).length).bind fun j => (([0, 0, 1, 2, 1] : List Int)[j]?).bind G) = G ((2 : Nat) : Int) := fun G => rfl
        have c1 : ((3 : Int) == 0) = false := rfl
        have c2 : ((3 : Int) == 1) = false := rfl
        have c3 : decide ((3 : Int) < 2) = false := rfl
        have c4 : (decide ((0 : Int) ≤ 3) && decide ((3 : Int) ≤ 4)) = true := rfl
        have hK : kidN 3 = 2 := rfl
        rw [hK] at hL ⊢
        generalize hr : (_ && ts.all (validT m)) = r
        rw [c1, Bool.not_false, cond_true, c2, Bool.not_false, cond_true, c3, cond_false, c4, Bool.not_true, cond_false, e1, eT]
        subst hr
        cases hb4 : decide (ts.length = 2) with
        | false => cases b1 <;> cases b2 <;> cases b3 <;> rfl
        | true =>
          rw [hL hb4]
          cases b1 <;> cases b2 <;> cases b3 <;> rfl
      · have e1 : ∀ G : Int → Option Ret, ((idx 4 ([0, 0, 1, 2, 1] : List Nat).length).bind fun j => (([0, 0, 1, 2, 1] : List Int)[j]?).bind G) = G ((1 : Nat) : Int) := fun G => rfl
        have c1 : ((4 : Int) == 0) = false := rfl
        have c2 : ((4 : Int) == 1) = false := rfl
        have c3 : decide ((4 : Int) < 2) = false := rfl
        have c4 : (decide ((0 : Int) ≤ 4) && decide ((4 : Int) ≤ 4)) = true := rfl
        have hK : kidN 4 = 1 := rfl
        rw [hK] at hL ⊢
        generalize hr : (_ && ts.all (validT m)) = r
        rw [c1, Bool.not_false, cond_true, c2, Bool.not_false, cond_true, c3, cond_false, c4, Bool.not_true, cond_false, e1, eT]
        subst hr
        cases hb4 : decide (ts.length = 1) with
        | false => cases b1 <;> cases b2 <;> cases b3 <;> rfl
        | true =>
          rw [hL hb4]
          cases b1 <;> cases b2 <;> cases b3 <;> rfl
    · have hp : partOk k s n xs = false := by
        unfold partOk
        rw [beq_eq_false_iff_ne.2 (by omega), beq_eq_false_iff_ne.2 (by omega), beq_eq_false_iff_ne.2 (by omega), beq_eq_false_iff_ne.2 (by omega), beq_eq_false_iff_ne.2 (by omega)]
        rfl
      have hr : (decide (0 ≤ k) && decide (k ≤ 4)) = false := by
        by_cases h : 0 ≤ k
        · rw [decide_eq_false (p := k ≤ 4) (by omega), Bool.and_false]
        · rw [decide_eq_false h, Bool.false_and]
      rw [hp, hr, Bool.and_false, Bool.false_and]
      cases k == 0 <;> cases decide (xs.length = 0) <;> cases k == 1 <;> cases n == 0 <;> cases decide (k < 2) <;> cases s == 0 <;> rfl
theorem spec_validTree.ok : CallSpec Try.prog spec_validTree.E := spec_validTree.E_of spec_validTree.okd

namespace spec_ValidTree
noncomputable def E : Entry := ⟨13, true, false, fun | [.d (.agg [(.int .i64 k), (.int .i64 s), (.int .i64 n), (.ints .i64 xs), (.seq 5 ks)])] => treesB ks | _ => false, fun | [.d (.agg [(.int .i64 k), (.int .i64 s), (.int .i64 n), (.ints .i64 xs), (.seq 5 ks)])] => ([.one ((.bool (validT 8 (mkT k s n xs ks))), false)], []) | _ => ([], []), fun _ => [], false, fun _ => none, none⟩
end spec_ValidTree
namespace spec_ValidTree
noncomputable def X : List Entry := [spec_validTree.E]
noncomputable def I : List Inl := [⟨13, Try.f13, ⟨[], [], [], [], [], []⟩⟩]
theorem I_ok : ∀ i ∈ I, Try.prog.funcs[i.f]? = some i.fn ∧ (i.fn.name == "runtime.NumGoroutine") = false := by
  intro i hi
  simp only [I, List.mem_cons, List.not_mem_nil, or_false] at hi
  subst hi
  exact ⟨by kernel_rfl, by kernel_rfl⟩
theorem e (fuel : Nat) (p0q0 : Int) (p0q1 : Int) (p0q2 : Int) (p0q3 : List Int) (p0q4 : List D) : runF Try.prog X I 0 fuel 13 Try.f13 [.d (.agg [(.int .i64 p0q0), (.int .i64 p0q1), (.int .i64 p0q2), (.ints .i64 p0q3), (.seq 5 p0q4)])] =
  (bif treesB p0q4 && decide (0 ≤ 8) && decide (8 ≤ 8) then
  some ([.one ((.bool (validT (8 : Int).toNat (mkT p0q0 p0q1 p0q2 p0q3 p0q4))), false)], [])
  else
  none) := by kernel_rfl
end spec_ValidTree
theorem spec_ValidTree.ok_of (hX : ∀ E ∈ spec_ValidTree.X, CallSpec Try.prog E) (h : ∀ (k : Int) (s : Int) (n : Int) (xs : List Int) (ks : List D), (treesB ks) = true → ∃ fuel, runF Try.prog spec_ValidTree.X spec_ValidTree.I 0 fuel 13 Try.f13 [.d (.agg [(.int .i64 k), (.int .i64 s), (.int .i64 n), (.ints .i64 xs), (.seq 5 ks)])] = some ([.one ((.bool (validT 8 (mkT k s n xs ks))), false)], [])) : CallSpec Try.prog spec_ValidTree.E :=
  callSpec_of (d := 0) hX (by kernel_rfl) spec_ValidTree.I_ok (by kernel_rfl) (by kernel_rfl) (by kernel_rfl) (fun _ _ _ _ h => by dsimp only [spec_ValidTree.E] at h; cases h) (fun xs hp => by
    dsimp only [spec_ValidTree.E] at hp ⊢
    split at hp
    · exact h _ _ _ _ _ hp
    · cases hp)
theorem spec_ValidTree.ok : CallSpec Try.prog spec_ValidTree.E := spec_ValidTree.ok_of (by simp [spec_ValidTree.X, spec_validTree.ok]) fun k s n xs ks h => ⟨0, by
  rw [spec_ValidTree.e, h]
  rfl⟩

namespace impl_kidsOf
noncomputable def E : Entry := ⟨65, true, false, fun | [.d (.int .i64 k)] => true | _ => false, fun | [.d (.int .i64 k)] => ([.one ((.int .i64 ((kidN k : Nat) : Int)), false)], []) | _ => ([], []), fun _ => [], false, fun _ => none, none⟩
end impl_kidsOf
namespace impl_kidsOf
noncomputable def X : List Entry := []
noncomputable def I : List Inl := [⟨65, Try.f65, ⟨[], [], [], [], [], []⟩⟩]
theorem I_ok : ∀ i ∈ I, Try.prog.funcs[i.f]? = some i.fn ∧ (i.fn.name == "runtime.NumGoroutine") = false := by
  intro i hi
  simp only [I, List.mem_cons, List.not_mem_nil, or_false] at hi
  subst hi
  exact ⟨by kernel_rfl, by kernel_rfl⟩
theorem e (fuel : Nat) (p0 : Int) : runF Try.prog X I 0 fuel 65 Try.f65 [.d (.int .i64 p0)] =
  (bif ((p0 : Int) == 2) then
  some ([.one ((.int .i64 1), false)], [])
  else
  (bif ((p0 : Int) == 4) then
  some ([.one ((.int .i64 1), false)], [])
  else
  (bif ((p0 : Int) == 3) then
  some ([.one ((.int .i64 2), false)], [])
  else
  some ([.one ((.int .i64 0), false)], [])))) := by kernel_rfl
end impl_kidsOf
theorem impl_kidsOf.ok_of (hX : ∀ E ∈ impl_kidsOf.X, CallSpec Try.prog E) (h : ∀ (k : Int), (true) = true → ∃ fuel, runF Try.prog impl_kidsOf.X impl_kidsOf.I 0 fuel 65 Try.f65 [.d (.int .i64 k)] = some ([.one ((.int .i64 ((kidN k : Nat) : Int)), false)], [])) : CallSpec Try.prog impl_kidsOf.E :=
  callSpec_of (d := 0) hX (by kernel_rfl) impl_kidsOf.I_ok (by kernel_rfl) (by kernel_rfl) (by kernel_rfl) (fun _ _ _ _ h => by dsimp only [impl_kidsOf.E] at h; cases h) (fun xs hp => by
    dsimp only [impl_kidsOf.E] at hp ⊢
    split at hp
    · exact h _ hp
    · cases hp)
theorem impl_kidsOf.ok : CallSpec Try.prog impl_kidsOf.E := impl_kidsOf.ok_of (by simp [impl_kidsOf.X]) fun k _ => ⟨0, by
  rw [impl_kidsOf.e]
  unfold kidN
  by_cases h1 : k = 2
  · subst h1; rfl
  by_cases h2 : k = 4
  · subst h2; rfl
  by_cases h3 : k = 3
  · subst h3; rfl
  rw [beq_eq_false_iff_ne.2 h1, beq_eq_false_iff_ne.2 h2, beq_eq_false_iff_ne.2 h3, if_neg (by omega), if_neg h3]
  rfl⟩

namespace impl_isBare
noncomputable def E : Entry := ⟨66, true, false, fun | [.d (.agg [(.int .i64 k), (.int .i64 s), (.int .i64 n), (.ints .i64 xs), (.seq 5 ks)])] => treesB ks | _ => false, fun | [.d (.agg [(.int .i64 k), (.int .i64 s), (.int .i64 n), (.ints .i64 xs), (.seq 5 ks)])] => ([.one ((.bool (bareT k s n xs)), false)], []) | _ => ([], []), fun _ => [], false, fun _ => none, none⟩
end impl_isBare
namespace impl_isBare
noncomputable def X : List Entry := []
noncomputable def I : List Inl := [⟨66, Try.f66, ⟨[], [], [], [], [], []⟩⟩]
theorem I_ok : ∀ i ∈ I, Try.prog.funcs[i.f]? = some i.fn ∧ (i.fn.name == "runtime.NumGoroutine") = false := by
  intro i hi
  simp only [I, List.mem_cons, List.not_mem_nil, or_false] at hi
  subst hi
  exact ⟨by kernel_rfl, by kernel_rfl⟩
theorem e (fuel : Nat) (p0q0 : Int) (p0q1 : Int) (p0q2 : Int) (p0q3 : List Int) (p0q4 : List D) : runF Try.prog X I 0 fuel 66 Try.f66 [.d (.agg [(.int .i64 p0q0), (.int .i64 p0q1), (.int .i64 p0q2), (.ints .i64 p0q3), (.seq 5 p0q4)])] =
  (bif ((p0q0 : Int) == 0) then
  (bif ((p0q1 : Int) == 0) then
  some ([.one ((.bool ((p0q2 : Int) == 0)), false)], [])
  else
  some ([.one ((.bool false), false)], []))
  else
  (bif ((p0q0 : Int) == 1) then
  (bif ((p0q1 : Int) == 0) then
  some ([.one ((.bool ((((p0q3.length : Nat) : Int) : Int) == 0)), false)], [])
  else
  some ([.one ((.bool false), false)], []))
  else
  (bif ((p0q2 : Int) == 0) then
  some ([.one ((.bool ((((p0q3.length : Nat) : Int) : Int) == 0)), false)], [])
  else
  some ([.one ((.bool false), false)], [])))) := by kernel_rfl
end impl_isBare
theorem impl_isBare.ok_of (hX : ∀ E ∈ impl_isBare.X, CallSpec Try.prog E) (h : ∀ (k : Int) (s : Int) (n : Int) (xs : List Int) (ks : List D), (treesB ks) = true → ∃ fuel, runF Try.prog impl_isBare.X impl_isBare.I 0 fuel 66 Try.f66 [.d (.agg [(.int .i64 k), (.int .i64 s), (.int .i64 n), (.ints .i64 xs), (.seq 5 ks)])] = some ([.one ((.bool (bareT k s n xs)), false)], [])) : CallSpec Try.prog impl_isBare.E :=
  callSpec_of (d := 0) hX (by kernel_rfl) impl_isBare.I_ok (by kernel_rfl) (by kernel_rfl) (by kernel_rfl) (fun _ _ _ _ h => by dsimp only [impl_isBare.E] at h; cases h) (fun xs hp => by
    dsimp only [impl_isBare.E] at hp ⊢
    split at hp
    · exact h _ _ _ _ _ hp
    · cases hp)
theorem impl_isBare.ok : CallSpec Try.prog impl_isBare.E := impl_isBare.ok_of (by simp [impl_isBare.X]) fun k s n xs ks _ => ⟨0, by
  rw [impl_isBare.e]
  unfold bareT
  have e : (((xs.length : Nat) : Int) == 0) = decide (xs.length = 0) := by
    by_cases h : xs.length = 0 <;> simp [h]
  rw [e]
  cases k == 0 <;> cases k == 1 <;> cases s == 0 <;> cases n == 0 <;> rfl⟩

namespace impl_isNumber
noncomputable def E : Entry := ⟨81, true, false, fun | [.d (.int .i64 v)] => true | _ => false, fun | [.d (.int .i64 v)] => ([.one ((.bool (numB v)), false)], []) | _ => ([], []), fun _ => [], false, fun _ => none, none⟩
end impl_isNumber
namespace impl_isNumber
noncomputable def X : List Entry := []
noncomputable def I : List Inl := [⟨81, Try.f81, ⟨[], [], [], [], [], []⟩⟩]
theorem I_ok : ∀ i ∈ I, Try.prog.funcs[i.f]? = some i.fn ∧ (i.fn.name == "runtime.NumGoroutine") = false := by
  intro i hi
  simp only [I, List.mem_cons, List.not_mem_nil, or_false] at hi
  subst hi
  exact ⟨by kernel_rfl, by kernel_rfl⟩
theorem e (fuel : Nat) (p0 : Int) : runF Try.prog X I 0 fuel 81 Try.f81 [.d (.int .i64 p0)] =
  (bif (decide (((-1000000) : Int) ≤ p0)) then
  some ([.one ((.bool (decide ((p0 : Int) ≤ 1000000))), false)], [])
  else
  some ([.one ((.bool false), false)], [])) := by kernel_rfl
end impl_isNumber
theorem impl_isNumber.ok_of (hX : ∀ E ∈ impl_isNumber.X, CallSpec Try.prog E) (h : ∀ (v : Int), (true) = true → ∃ fuel, runF Try.prog impl_isNumber.X impl_isNumber.I 0 fuel 81 Try.f81 [.d (.int .i64 v)] = some ([.one ((.bool (numB v)), false)], [])) : CallSpec Try.prog impl_isNumber.E :=
  callSpec_of (d := 0) hX (by kernel_rfl) impl_isNumber.I_ok (by kernel_rfl) (by kernel_rfl) (by kernel_rfl) (fun _ _ _ _ h => by dsimp only [impl_isNumber.E] at h; cases h) (fun xs hp => by
    dsimp only [impl_isNumber.E] at hp ⊢
    split at hp
    · exact h _ hp
    · cases hp)
theorem impl_isNumber.ok : CallSpec Try.prog impl_isNumber.E := impl_isNumber.ok_of (by simp [impl_isNumber.X]) fun v _ => ⟨0, by
  rw [impl_isNumber.e]
  unfold numB
  cases decide (-1000000 ≤ v) <;> rfl⟩

namespace impl_numsNode_fits_1
noncomputable def E : Entry := ⟨108, true, false, fun | [.d (.int .i64 n)] => true | _ => false, fun | [.d (.int .i64 n)] => ([.one ((.bool (!(numB n))), false)], []) | _ => ([], []), fun _ => [], false, fun _ => none, none⟩
end impl_numsNode_fits_1
namespace impl_numsNode_fits_1
noncomputable def X : List Entry := [impl_isNumber.E]
noncomputable def I : List Inl := [⟨108, Try.f108, ⟨[], [], [], [], [], []⟩⟩]
theorem I_ok : ∀ i ∈ I, Try.prog.funcs[i.f]? = some i.fn ∧ (i.fn.name == "runtime.NumGoroutine") = false := by
  intro i hi
  simp only [I, List.mem_cons, List.not_mem_nil, or_false] at hi
  subst hi
  exact ⟨by kernel_rfl, by kernel_rfl⟩
theorem e (fuel : Nat) (p0 : Int) : runF Try.prog X I 0 fuel 108 Try.f108 [.d (.int .i64 p0)] =
  some ([.one ((.bool (!(numB p0))), false)], []) := by kernel_rfl
end impl_numsNode_fits_1
theorem impl_numsNode_fits_1.ok_of (hX : ∀ E ∈ impl_numsNode_fits_1.X, CallSpec Try.prog E) (h : ∀ (n : Int), (true) = true → ∃ fuel, runF Try.prog impl_numsNode_fits_1.X impl_numsNode_fits_1.I 0 fuel 108 Try.f108 [.d (.int .i64 n)] = some ([.one ((.bool (!(numB n))), false)], [])) : CallSpec Try.prog impl_numsNode_fits_1.E :=
  callSpec_of (d := 0) hX (by kernel_rfl) impl_numsNode_fits_1.I_ok (by kernel_rfl) (by kernel_rfl) (by kernel_rfl) (fun _ _ _ _ h => by dsimp only [impl_numsNode_fits_1.E] at h; cases h) (fun xs hp => by
    dsimp only [impl_numsNode_fits_1.E] at hp ⊢
    split at hp
    · exact h _ hp
    · cases hp)
theorem impl_numsNode_fits_1.ok : CallSpec Try.prog impl_numsNode_fits_1.E := impl_numsNode_fits_1.ok_of (by simp [impl_numsNode_fits_1.X, impl_isNumber.ok]) fun n _ => ⟨0, by rw [impl_numsNode_fits_1.e]⟩

namespace slices_IndexFunc_int_int
noncomputable def E : Entry := ⟨110, true, false, fun | [.d (.ints .i64 xs), .d (.clo 108 [])] => decide (xs.length < 9223372036854775808) | _ => false, fun | [.d (.ints .i64 xs), .d (.clo 108 [])] => ([.one ((.int .i64 (badI xs)), false)], []) | _ => ([], []), fun _ => [], false, fun _ => none, none⟩
end slices_IndexFunc_int_int
namespace slices_IndexFunc_int_int
noncomputable def X : List Entry := [impl_numsNode_fits_1.E]
noncomputable def I : List Inl := [⟨110, Try.f110, ⟨[], [(1000002, [2, 3, 4, 5, 6, 9, 10, 11, 12, 13, 14, 15, 16, 17, 18])], [], [], [], []⟩⟩]
theorem I_ok : ∀ i ∈ I, Try.prog.funcs[i.f]? = some i.fn ∧ (i.fn.name == "runtime.NumGoroutine") = false := by
  intro i hi
  simp only [I, List.mem_cons, List.not_mem_nil, or_false] at hi
  subst hi
  exact ⟨by kernel_rfl, by kernel_rfl⟩
noncomputable abbrev L0 (fuel n : Nat) (s : St) (k : Kont) := lAt Try.prog X I fuel true 0 false 110 (bodyOf Try.f110) [1, 0, 1, 0] n s k
noncomputable abbrev k0  (fuel : Nat) : Kont := (kAt Try.prog X I fuel true 0 false 110 (bodyOf Try.f110) [1, 0, 1, 0] [] (endK Try.prog Try.f110))
noncomputable def t0 (p0 : List Int) (x0q2 : Int) : St := ⟨[(.imm (.ints .i64 p0)), (.imm (.clo 108 [])), .dead, .dead, .dead, .dead, .dead, (.imm (.int .i64 ((p0.length : Nat) : Int))), (.imm (.int .i64 x0q2)), .dead, .dead, .dead, .dead, .dead, .dead, .dead, .dead, .dead, .dead], hOf [], [], []⟩
theorem e (fuel : Nat) (p0 : List Int) : runF Try.prog X I 0 fuel 110 Try.f110 [.d (.ints .i64 p0), .d (.clo 108 [])] =
  L0 fuel fuel (t0 p0 0) (k0  fuel) := by kernel_rfl
theorem s0 (fuel n0 : Nat) (p0 : List Int) (x0q2 : Int) : L0 fuel (n0 + 1) (t0 p0 x0q2) (k0  fuel) =
  (bif (decide ((x0q2 : Int) < ((p0.length : Nat) : Int))) then
  (idx x0q2 p0.length).bind fun j5 =>
  (p0[j5]?).bind fun v6 =>
  (bif (!(numB v6)) then
  some ([.one ((.int .i64 x0q2), false)], [])
  else
  L0 fuel n0 (t0 p0 ((IntKind.wrap .i64 (x0q2 + 1)))) (k0  fuel))
  else
  some ([.one ((.int .i64 (-1)), false)], [])) := by kernel_rfl
end slices_IndexFunc_int_int
theorem slices_IndexFunc_int_int.ok_of (hX : ∀ E ∈ slices_IndexFunc_int_int.X, CallSpec Try.prog E) (h : ∀ (xs : List Int), (decide (xs.length < 9223372036854775808)) = true → ∃ fuel, runF Try.prog slices_IndexFunc_int_int.X slices_IndexFunc_int_int.I 0 fuel 110 Try.f110 [.d (.ints .i64 xs), .d (.clo 108 [])] = some ([.one ((.int .i64 (badI xs)), false)], [])) : CallSpec Try.prog slices_IndexFunc_int_int.E :=
  callSpec_of (d := 0) hX (by kernel_rfl) slices_IndexFunc_int_int.I_ok (by kernel_rfl) (by kernel_rfl) (by kernel_rfl) (fun _ _ _ _ h => by dsimp only [slices_IndexFunc_int_int.E] at h; cases h) (fun xs hp => by
    dsimp only [slices_IndexFunc_int_int.E] at hp ⊢
    split at hp
    · exact h _ hp
    · cases hp)
theorem slices_IndexFunc_int_int.ok : CallSpec Try.prog slices_IndexFunc_int_int.E := slices_IndexFunc_int_int.ok_of (by simp [slices_IndexFunc_int_int.X, impl_numsNode_fits_1.ok]) fun xs h => by
  simp only [decide_eq_true_eq] at h
  refine ⟨xs.length + 1, ?_⟩
  rw [slices_IndexFunc_int_int.e]
  refine cnt_loop (σ := Unit) (N := xs.length) (fun n j _ => slices_IndexFunc_int_int.L0 (xs.length + 1) n (slices_IndexFunc_int_int.t0 xs (j : Int)) (slices_IndexFunc_int_int.k0 (xs.length + 1)))
    (fun j _ => badFrom (xs.drop j) j = badI xs) ?_ ?_ (xs.length + 1) 0 () (by omega) (by omega) (by rfl)
  · intro n _ hI
    rw [slices_IndexFunc_int_int.s0, dge (by omega), cond_false]
    rw [List.drop_length] at hI
    rw [← hI]
    rfl
  · intro n j _ hj hI
    rw [slices_IndexFunc_int_int.s0, dlt hj, idx_nat hj, w1 (by omega)]
    simp only [cond_true, Option.bind_some, getS hj]
    rw [dropS hj, badFrom] at hI
    cases hb : numB xs[j] with
    | true =>
      rw [hb, cond_true] at hI
      exact .inr ⟨(), hI, rfl⟩
    | false =>
      rw [hb, cond_false] at hI
      exact .inl (by rw [← hI]; rfl)

namespace slices_ContainsFunc_int_int
noncomputable def E : Entry := ⟨109, true, false, fun | [.d (.ints .i64 xs), .d (.clo 108 [])] => decide (xs.length < 9223372036854775808) | _ => false, fun | [.d (.ints .i64 xs), .d (.clo 108 [])] => ([.one ((.bool (!(xs.all numB))), false)], []) | _ => ([], []), fun _ => [], false, fun _ => none, none⟩
end slices_ContainsFunc_int_int
namespace slices_ContainsFunc_int_int
noncomputable def X : List Entry := [slices_IndexFunc_int_int.E]
noncomputable def I : List Inl := [⟨109, Try.f109, ⟨[], [], [], [], [], []⟩⟩]
theorem I_ok : ∀ i ∈ I, Try.prog.funcs[i.f]? = some i.fn ∧ (i.fn.name == "runtime.NumGoroutine") = false := by
  intro i hi
  simp only [I, List.mem_cons, List.not_mem_nil, or_false] at hi
  subst hi
  exact ⟨by kernel_rfl, by kernel_rfl⟩
theorem e (fuel : Nat) (p0 : List Int) : runF Try.prog X I 0 fuel 109 Try.f109 [.d (.ints .i64 p0), .d (.clo 108 [])] =
  (bif decide (p0.length < 9223372036854775808) then
  some ([.one ((.bool (decide (((badI p0) : Int) ≥ 0))), false)], [])
  else
  none) := by kernel_rfl
end slices_ContainsFunc_int_int
theorem slices_ContainsFunc_int_int.ok_of (hX : ∀ E ∈ slices_ContainsFunc_int_int.X, CallSpec Try.prog E) (h : ∀ (xs : List Int), (decide (xs.length < 9223372036854775808)) = true → ∃ fuel, runF Try.prog slices_ContainsFunc_int_int.X slices_ContainsFunc_int_int.I 0 fuel 109 Try.f109 [.d (.ints .i64 xs), .d (.clo 108 [])] = some ([.one ((.bool (!(xs.all numB))), false)], [])) : CallSpec Try.prog slices_ContainsFunc_int_int.E :=
  callSpec_of (d := 0) hX (by kernel_rfl) slices_ContainsFunc_int_int.I_ok (by kernel_rfl) (by kernel_rfl) (by kernel_rfl) (fun _ _ _ _ h => by dsimp only [slices_ContainsFunc_int_int.E] at h; cases h) (fun xs hp => by
    dsimp only [slices_ContainsFunc_int_int.E] at hp ⊢
    split at hp
    · exact h _ hp
    · cases hp)
theorem slices_ContainsFunc_int_int.ok : CallSpec Try.prog slices_ContainsFunc_int_int.E := slices_ContainsFunc_int_int.ok_of (by simp [slices_ContainsFunc_int_int.X, slices_IndexFunc_int_int.ok]) fun xs h => ⟨0, by
  rw [slices_ContainsFunc_int_int.e, h, cond_true]
  rw [show decide (badI xs ≥ 0) = !(xs.all numB) from badFrom_neg xs 0]⟩

namespace impl_numsNode_fits
noncomputable def E : Entry := ⟨106, true, false, fun | [.d (.agg [(.ints .i64 xs)])] => true | _ => false, fun | [.d (.agg [(.ints .i64 xs)])] => ([.one ((.bool (decide (1 ≤ xs.length) && decide (xs.length ≤ 40) && xs.all numB)), false)], []) | _ => ([], []), fun _ => [], false, fun _ => none, none⟩
end impl_numsNode_fits
namespace impl_numsNode_fits
noncomputable def X : List Entry := [slices_ContainsFunc_int_int.E]
noncomputable def I : List Inl := [⟨106, Try.f106, ⟨[], [], [], [], [], []⟩⟩]
theorem I_ok : ∀ i ∈ I, Try.prog.funcs[i.f]? = some i.fn ∧ (i.fn.name == "runtime.NumGoroutine") = false := by
  intro i hi
  simp only [I, List.mem_cons, List.not_mem_nil, or_false] at hi
  subst hi
  exact ⟨by kernel_rfl, by kernel_rfl⟩
theorem e (fuel : Nat) (p0q0 : List Int) : runF Try.prog X I 0 fuel 106 Try.f106 [.d (.agg [(.ints .i64 p0q0)])] =
  (bif (decide ((1 : Int) ≤ ((p0q0.length : Nat) : Int))) then
  (bif (decide ((((p0q0.length : Nat) : Int) : Int) ≤ 40)) then
  (bif decide (p0q0.length < 9223372036854775808) then
  some ([.one ((.bool (!(!(p0q0.all numB)))), false)], [])
  else
  none)
  else
  some ([.one ((.bool false), false)], []))
  else
  some ([.one ((.bool false), false)], [])) := by kernel_rfl
end impl_numsNode_fits
theorem impl_numsNode_fits.ok_of (hX : ∀ E ∈ impl_numsNode_fits.X, CallSpec Try.prog E) (h : ∀ (xs : List Int), (true) = true → ∃ fuel, runF Try.prog impl_numsNode_fits.X impl_numsNode_fits.I 0 fuel 106 Try.f106 [.d (.agg [(.ints .i64 xs)])] = some ([.one ((.bool (decide (1 ≤ xs.length) && decide (xs.length ≤ 40) && xs.all numB)), false)], [])) : CallSpec Try.prog impl_numsNode_fits.E :=
  callSpec_of (d := 0) hX (by kernel_rfl) impl_numsNode_fits.I_ok (by kernel_rfl) (by kernel_rfl) (by kernel_rfl) (fun _ _ _ _ h => by dsimp only [impl_numsNode_fits.E] at h; cases h) (fun xs hp => by
    dsimp only [impl_numsNode_fits.E] at hp ⊢
    split at hp
    · exact h _ hp
    · cases hp)
theorem impl_numsNode_fits.ok : CallSpec Try.prog impl_numsNode_fits.E := impl_numsNode_fits.ok_of (by simp [impl_numsNode_fits.X, slices_ContainsFunc_int_int.ok]) fun xs _ => ⟨0, by
  rw [impl_numsNode_fits.e]
  by_cases h1 : 1 ≤ xs.length
  · rw [decide_eq_true (p := (1:Int) ≤ _) (by omega), decide_eq_true h1]
    by_cases h2 : xs.length ≤ 40
    · rw [decide_eq_true (p := ((xs.length : Nat) : Int) ≤ 40) (by omega), decide_eq_true h2, lt_of (by omega), Bool.not_not]
      simp only [cond_true, Bool.true_and]
    · rw [decide_eq_false (p := ((xs.length : Nat) : Int) ≤ 40) (by omega), decide_eq_false h2]
      rfl
  · rw [decide_eq_false (p := (1:Int) ≤ _) (by omega), decide_eq_false h1]
    rfl⟩

namespace impl_nameNode_fits
noncomputable def E : Entry := ⟨111, true, false, fun | [.d (.agg [(.int .i64 n)])] => true | _ => false, fun | [.d (.agg [(.int .i64 n)])] => ([.one ((.bool (decide (0 ≤ n) && decide (n < 4))), false)], []) | _ => ([], []), fun _ => [], false, fun _ => none, none⟩
end impl_nameNode_fits
namespace impl_nameNode_fits
noncomputable def X : List Entry := []
noncomputable def I : List Inl := [⟨111, Try.f111, ⟨[], [], [], [], [], []⟩⟩]
theorem I_ok : ∀ i ∈ I, Try.prog.funcs[i.f]? = some i.fn ∧ (i.fn.name == "runtime.NumGoroutine") = false := by
  intro i hi
  simp only [I, List.mem_cons, List.not_mem_nil, or_false] at hi
  subst hi
  exact ⟨by kernel_rfl, by kernel_rfl⟩
theorem e (fuel : Nat) (p0q0 : Int) : runF Try.prog X I 0 fuel 111 Try.f111 [.d (.agg [(.int .i64 p0q0)])] =
  (bif (decide ((0 : Int) ≤ p0q0)) then
  some ([.one ((.bool (decide ((p0q0 : Int) < 4))), false)], [])
  else
  some ([.one ((.bool false), false)], [])) := by kernel_rfl
end impl_nameNode_fits
theorem impl_nameNode_fits.ok_of (hX : ∀ E ∈ impl_nameNode_fits.X, CallSpec Try.prog E) (h : ∀ (n : Int), (true) = true → ∃ fuel, runF Try.prog impl_nameNode_fits.X impl_nameNode_fits.I 0 fuel 111 Try.f111 [.d (.agg [(.int .i64 n)])] = some ([.one ((.bool (decide (0 ≤ n) && decide (n < 4))), false)], [])) : CallSpec Try.prog impl_nameNode_fits.E :=
  callSpec_of (d := 0) hX (by kernel_rfl) impl_nameNode_fits.I_ok (by kernel_rfl) (by kernel_rfl) (by kernel_rfl) (fun _ _ _ _ h => by dsimp only [impl_nameNode_fits.E] at h; cases h) (fun xs hp => by
    dsimp only [impl_nameNode_fits.E] at hp ⊢
    split at hp
    · exact h _ hp
    · cases hp)
theorem impl_nameNode_fits.ok : CallSpec Try.prog impl_nameNode_fits.E := impl_nameNode_fits.ok_of (by simp [impl_nameNode_fits.X]) fun n _ => ⟨0, by
  rw [impl_nameNode_fits.e]
  cases decide (0 ≤ n) <;> rfl⟩

namespace impl_oneNode_fits
noncomputable def E : Entry := ⟨113, true, false, fun | [.d (.agg [(.int .i64 s), (.iface ty d)])] => true | _ => false, fun | [.d (.agg [(.int .i64 s), (.iface ty d)])] => ([.one ((.bool (oneOk s)), false)], []) | _ => ([], []), fun _ => [], false, fun _ => none, none⟩
end impl_oneNode_fits
namespace impl_oneNode_fits
noncomputable def X : List Entry := []
noncomputable def I : List Inl := [⟨113, Try.f113, ⟨[], [], [], [], [], []⟩⟩]
theorem I_ok : ∀ i ∈ I, Try.prog.funcs[i.f]? = some i.fn ∧ (i.fn.name == "runtime.NumGoroutine") = false := by
  intro i hi
  simp only [I, List.mem_cons, List.not_mem_nil, or_false] at hi
  subst hi
  exact ⟨by kernel_rfl, by kernel_rfl⟩
theorem e (fuel : Nat) (p0q0 : Int) (p0q1t : Nat) (p0q1d : D) : runF Try.prog X I 0 fuel 113 Try.f113 [.d (.agg [(.int .i64 p0q0), (.iface p0q1t p0q1d)])] =
  (bif ((p0q0 : Int) == 1) then
  some ([.one ((.bool true), false)], [])
  else
  (bif ((p0q0 : Int) == 8) then
  some ([.one ((.bool true), false)], [])
  else
  (bif ((p0q0 : Int) == 9) then
  some ([.one ((.bool true), false)], [])
  else
  (bif ((p0q0 : Int) == 10) then
  some ([.one ((.bool true), false)], [])
  else
  some ([.one ((.bool false), false)], []))))) := by kernel_rfl
end impl_oneNode_fits
theorem impl_oneNode_fits.ok_of (hX : ∀ E ∈ impl_oneNode_fits.X, CallSpec Try.prog E) (h : ∀ (s : Int) (ty : Nat) (d : D), (true) = true → ∃ fuel, runF Try.prog impl_oneNode_fits.X impl_oneNode_fits.I 0 fuel 113 Try.f113 [.d (.agg [(.int .i64 s), (.iface ty d)])] = some ([.one ((.bool (oneOk s)), false)], [])) : CallSpec Try.prog impl_oneNode_fits.E :=
  callSpec_of (d := 0) hX (by kernel_rfl) impl_oneNode_fits.I_ok (by kernel_rfl) (by kernel_rfl) (by kernel_rfl) (fun _ _ _ _ h => by dsimp only [impl_oneNode_fits.E] at h; cases h) (fun xs hp => by
    dsimp only [impl_oneNode_fits.E] at hp ⊢
    split at hp
    · exact h _ _ _ hp
    · cases hp)
theorem impl_oneNode_fits.ok : CallSpec Try.prog impl_oneNode_fits.E := impl_oneNode_fits.ok_of (by simp [impl_oneNode_fits.X]) fun s ty d _ => ⟨0, by
  rw [impl_oneNode_fits.e]
  unfold oneOk
  cases s == 1 <;> cases s == 8 <;> cases s == 9 <;> cases s == 10 <;> rfl⟩

namespace impl_isFunctionSign
noncomputable def E : Entry := ⟨120, true, false, fun | [.d (.int .i64 s)] => true | _ => false, fun | [.d (.int .i64 s)] => ([.one ((.bool (sgOk s)), false)], []) | _ => ([], []), fun _ => [], false, fun _ => none, none⟩
end impl_isFunctionSign
namespace impl_isFunctionSign
noncomputable def X : List Entry := []
noncomputable def I : List Inl := [⟨120, Try.f120, ⟨[], [], [], [], [], []⟩⟩]
theorem I_ok : ∀ i ∈ I, Try.prog.funcs[i.f]? = some i.fn ∧ (i.fn.name == "runtime.NumGoroutine") = false := by
  intro i hi
  simp only [I, List.mem_cons, List.not_mem_nil, or_false] at hi
  subst hi
  exact ⟨by kernel_rfl, by kernel_rfl⟩
theorem e (fuel : Nat) (p0 : Int) : runF Try.prog X I 0 fuel 120 Try.f120 [.d (.int .i64 p0)] =
  (bif (decide ((0 : Int) ≤ p0)) then
  some ([.one ((.bool (decide ((p0 : Int) ≤ 7))), false)], [])
  else
  some ([.one ((.bool false), false)], [])) := by kernel_rfl
end impl_isFunctionSign
theorem impl_isFunctionSign.ok_of (hX : ∀ E ∈ impl_isFunctionSign.X, CallSpec Try.prog E) (h : ∀ (s : Int), (true) = true → ∃ fuel, runF Try.prog impl_isFunctionSign.X impl_isFunctionSign.I 0 fuel 120 Try.f120 [.d (.int .i64 s)] = some ([.one ((.bool (sgOk s)), false)], [])) : CallSpec Try.prog impl_isFunctionSign.E :=
  callSpec_of (d := 0) hX (by kernel_rfl) impl_isFunctionSign.I_ok (by kernel_rfl) (by kernel_rfl) (by kernel_rfl) (fun _ _ _ _ h => by dsimp only [impl_isFunctionSign.E] at h; cases h) (fun xs hp => by
    dsimp only [impl_isFunctionSign.E] at hp ⊢
    split at hp
    · exact h _ hp
    · cases hp)
theorem impl_isFunctionSign.ok : CallSpec Try.prog impl_isFunctionSign.E := impl_isFunctionSign.ok_of (by simp [impl_isFunctionSign.X]) fun s _ => ⟨0, by
  rw [impl_isFunctionSign.e]
  unfold sgOk
  cases decide (0 ≤ s) <;> rfl⟩

namespace impl_twoNode_fits
noncomputable def E : Entry := ⟨118, true, false, fun | [.d (.agg [(.int .i64 s), (.iface ty d), (.iface ty2 d2)])] => true | _ => false, fun | [.d (.agg [(.int .i64 s), (.iface ty d), (.iface ty2 d2)])] => ([.one ((.bool (twoOk s)), false)], []) | _ => ([], []), fun _ => [], false, fun _ => none, none⟩
end impl_twoNode_fits
namespace impl_twoNode_fits
noncomputable def X : List Entry := [impl_isFunctionSign.E]
noncomputable def I : List Inl := [⟨118, Try.f118, ⟨[], [], [], [], [], []⟩⟩]
theorem I_ok : ∀ i ∈ I, Try.prog.funcs[i.f]? = some i.fn ∧ (i.fn.name == "runtime.NumGoroutine") = false := by
  intro i hi
  simp only [I, List.mem_cons, List.not_mem_nil, or_false] at hi
  subst hi
  exact ⟨by kernel_rfl, by kernel_rfl⟩
theorem e (fuel : Nat) (p0q0 : Int) (p0q1t : Nat) (p0q1d : D) (p0q2t : Nat) (p0q2d : D) : runF Try.prog X I 0 fuel 118 Try.f118 [.d (.agg [(.int .i64 p0q0), (.iface p0q1t p0q1d), (.iface p0q2t p0q2d)])] =
  (bif ((p0q0 : Int) == 8) then
  some ([.one ((.bool true), false)], [])
  else
  (bif ((p0q0 : Int) == 10) then
  some ([.one ((.bool true), false)], [])
  else
  (bif ((p0q0 : Int) == 11) then
  some ([.one ((.bool true), false)], [])
  else
  some ([.one ((.bool (sgOk p0q0)), false)], [])))) := by kernel_rfl
end impl_twoNode_fits
theorem impl_twoNode_fits.ok_of (hX : ∀ E ∈ impl_twoNode_fits.X, CallSpec Try.prog E) (h : ∀ (s : Int) (ty : Nat) (d : D) (ty2 : Nat) (d2 : D), (true) = true → ∃ fuel, runF Try.prog impl_twoNode_fits.X impl_twoNode_fits.I 0 fuel 118 Try.f118 [.d (.agg [(.int .i64 s), (.iface ty d), (.iface ty2 d2)])] = some ([.one ((.bool (twoOk s)), false)], [])) : CallSpec Try.prog impl_twoNode_fits.E :=
  callSpec_of (d := 0) hX (by kernel_rfl) impl_twoNode_fits.I_ok (by kernel_rfl) (by kernel_rfl) (by kernel_rfl) (fun _ _ _ _ h => by dsimp only [impl_twoNode_fits.E] at h; cases h) (fun xs hp => by
    dsimp only [impl_twoNode_fits.E] at hp ⊢
    split at hp
    · exact h _ _ _ _ _ hp
    · cases hp)
theorem impl_twoNode_fits.ok : CallSpec Try.prog impl_twoNode_fits.E := impl_twoNode_fits.ok_of (by simp [impl_twoNode_fits.X, impl_isFunctionSign.ok]) fun s ty d ty2 d2 _ => ⟨0, by
  rw [impl_twoNode_fits.e]
  unfold twoOk
  cases s == 8 <;> cases s == 10 <;> cases s == 11 <;> rfl⟩

namespace impl_reduceNode_fits
noncomputable def E : Entry := ⟨122, true, false, fun | [.d (.agg [(.int .i64 s), (.iface ty d)])] => true | _ => false, fun | [.d (.agg [(.int .i64 s), (.iface ty d)])] => ([.one ((.bool (sgOk s)), false)], []) | _ => ([], []), fun _ => [], false, fun _ => none, none⟩
end impl_reduceNode_fits
namespace impl_reduceNode_fits
noncomputable def X : List Entry := [impl_isFunctionSign.E]
noncomputable def I : List Inl := [⟨122, Try.f122, ⟨[], [], [], [], [], []⟩⟩]
theorem I_ok : ∀ i ∈ I, Try.prog.funcs[i.f]? = some i.fn ∧ (i.fn.name == "runtime.NumGoroutine") = false := by
  intro i hi
  simp only [I, List.mem_cons, List.not_mem_nil, or_false] at hi
  subst hi
  exact ⟨by kernel_rfl, by kernel_rfl⟩
theorem e (fuel : Nat) (p0q0 : Int) (p0q1t : Nat) (p0q1d : D) : runF Try.prog X I 0 fuel 122 Try.f122 [.d (.agg [(.int .i64 p0q0), (.iface p0q1t p0q1d)])] =
  some ([.one ((.bool (sgOk p0q0)), false)], []) := by kernel_rfl
end impl_reduceNode_fits
theorem impl_reduceNode_fits.ok_of (hX : ∀ E ∈ impl_reduceNode_fits.X, CallSpec Try.prog E) (h : ∀ (s : Int) (ty : Nat) (d : D), (true) = true → ∃ fuel, runF Try.prog impl_reduceNode_fits.X impl_reduceNode_fits.I 0 fuel 122 Try.f122 [.d (.agg [(.int .i64 s), (.iface ty d)])] = some ([.one ((.bool (sgOk s)), false)], [])) : CallSpec Try.prog impl_reduceNode_fits.E :=
  callSpec_of (d := 0) hX (by kernel_rfl) impl_reduceNode_fits.I_ok (by kernel_rfl) (by kernel_rfl) (by kernel_rfl) (fun _ _ _ _ h => by dsimp only [impl_reduceNode_fits.E] at h; cases h) (fun xs hp => by
    dsimp only [impl_reduceNode_fits.E] at hp ⊢
    split at hp
    · exact h _ _ _ hp
    · cases hp)
theorem impl_reduceNode_fits.ok : CallSpec Try.prog impl_reduceNode_fits.E := impl_reduceNode_fits.ok_of (by simp [impl_reduceNode_fits.X, impl_isFunctionSign.ok]) fun s ty d _ => ⟨0, by rw [impl_reduceNode_fits.e]⟩

namespace node_fits
noncomputable def E : Entry := ⟨0, true, false, fun | [.d (.iface ty d)] => nodeP nodeIds ty d | _ => false, fun | [.d (.iface ty d)] => ([.one ((.bool (fitsN nodeIds ty d)), false)], []) | _ => ([], []), fun _ => [], false, fun _ => none, (some "loop.example/arraylanguage/impl.fits")⟩
end node_fits
theorem node_fits.ok : CallSpec Try.prog node_fits.E := CallSpec.meth rfl (fun _ => rfl) fun xs h => by
  dsimp only [node_fits.E] at h ⊢
  split at h
  case h_2 => cases h
  rename_i ty d
  simp only [nodeP, Bool.or_eq_true, Bool.and_eq_true, decide_eq_true_eq] at h
  rcases h with (((⟨rfl, h⟩ | ⟨rfl, h⟩) | ⟨rfl, h⟩) | ⟨rfl, h⟩) | ⟨rfl, h⟩
  · unfold isNumsD at h
    split at h
    case h_2 => cases h
    exact ⟨_, _, [], _, rfl, impl_numsNode_fits.ok, rfl, by kernel_rfl, rfl, rfl⟩
  · unfold isNameD at h
    split at h
    case h_2 => cases h
    exact ⟨_, _, [], _, rfl, impl_nameNode_fits.ok, rfl, by kernel_rfl, rfl, rfl⟩
  · unfold isOneD at h
    split at h
    case h_2 => cases h
    exact ⟨_, _, [], _, rfl, impl_oneNode_fits.ok, rfl, by kernel_rfl, rfl, rfl⟩
  · unfold isTwoD at h
    split at h
    case h_2 => cases h
    exact ⟨_, _, [], _, rfl, impl_twoNode_fits.ok, rfl, by kernel_rfl, rfl, rfl⟩
  · unfold isOneD at h
    split at h
    case h_2 => cases h
    exact ⟨_, _, [], _, rfl, impl_reduceNode_fits.ok, rfl, by kernel_rfl, rfl, rfl⟩

namespace impl_nodeOf
noncomputable def E : Entry := ⟨41, true, false, fun | [.d (.agg [(.int .i64 k), (.int .i64 s), (.int .i64 n), (.ints .i64 xs), (.seq 5 ks)]), .d (.int .i64 lv)] => treesB ks && decide (0 ≤ lv) && decide (lv ≤ 8) | _ => false, fun | [.d (.agg [(.int .i64 k), (.int .i64 s), (.int .i64 n), (.ints .i64 xs), (.seq 5 ks)]), .d (.int .i64 lv)] => ([.one (.nili, false), .one ((.bool false), false)], []) | _ => ([], []), fun | [.d (.agg [(.int .i64 k), (.int .i64 s), (.int .i64 n), (.ints .i64 xs), (.seq 5 ks)]), .d (.int .i64 lv)] => [(validT lv.toNat (mkT k s n xs ks), ([.one ((.iface (tyN nodeIds k) (payT nodeIds (mkT k s n xs ks))), false), .one ((.bool true), false)], []))] | _ => [], false, fun _ => none, none⟩
noncomputable def Ed (d : Nat) : Entry := ⟨41, true, false, fun | [.d (.agg [(.int .i64 k), (.int .i64 s), (.int .i64 n), (.ints .i64 xs), (.seq 5 ks)]), .d (.int .i64 lv)] => (treesB ks && decide (0 ≤ lv) && decide (lv ≤ 8) && decide (lv.toNat < d)) | _ => false, fun | [.d (.agg [(.int .i64 k), (.int .i64 s), (.int .i64 n), (.ints .i64 xs), (.seq 5 ks)]), .d (.int .i64 lv)] => ([.one (.nili, false), .one ((.bool false), false)], []) | _ => ([], []), fun | [.d (.agg [(.int .i64 k), (.int .i64 s), (.int .i64 n), (.ints .i64 xs), (.seq 5 ks)]), .d (.int .i64 lv)] => [(validT lv.toNat (mkT k s n xs ks), ([.one ((.iface (tyN nodeIds k) (payT nodeIds (mkT k s n xs ks))), false), .one ((.bool true), false)], []))] | _ => [], false, fun _ => none, none⟩
theorem Ed_zero : CallSpec Try.prog (Ed 0) := CallSpec.void ⟨Try.f41, by kernel_rfl, by kernel_rfl, by kernel_rfl⟩ (fun xs => by dsimp only [Ed]; split <;> simp) (fun _ => rfl)
theorem E_of (h : ∀ d, CallSpec Try.prog (Ed d)) : CallSpec Try.prog E := CallSpec.union Ed h (fun _ => rfl) (fun _ => rfl) (fun _ => rfl) fun xs hp => by
  dsimp only [E] at hp
  split at hp
  · rename_i k s n xs ks lv
    refine ⟨lv.toNat + 1, ?_, rfl⟩
    show (_ && decide (_ < _)) = true
    rw [hp]
    exact decide_eq_true (Nat.lt_succ_self _)
  · cases hp
end impl_nodeOf
namespace impl_nodeOf
noncomputable def X (d : Nat) : List Entry := [impl_kidsOf.E, impl_isBare.E, impl_nodeOf.Ed d, node_fits.E]
noncomputable def I : List Inl := [⟨41, Try.f41, ⟨[], [(12, [0, 1, 3, 4, 5, 7, 8, 9, 10, 11, 12, 13, 14, 15, 16, 17, 18, 19, 20, 21, 22, 23, 24, 25, 26, 27, 28, 29, 30, 31, 32, 33, 34, 35, 36, 37, 38, 39, 40, 41, 42, 43, 44, 45, 46, 47, 48, 49, 50, 51, 52, 53, 54, 55, 56, 57, 58, 59, 60, 61, 62, 63, 64]), (1000005, [0, 3, 4, 5, 7, 8, 9, 10, 11, 12, 13, 14, 15, 16, 17, 18, 19, 20, 21, 22, 23, 24, 25, 26, 27, 28, 29, 30, 31, 32, 36, 37, 38, 39, 40, 41, 42, 43, 44, 45, 46, 47, 48, 49, 50, 51, 52, 53, 54, 55, 56, 57, 58, 59, 60, 61, 62, 63, 64])], [], [(1, [0, 1, 2, 3, 6, 4, 5, 7, 8, 9, 10, 11, 12, 13, 14, 15])], [], []⟩⟩, ⟨67, Try.f67, ⟨[], [], [], [(8, [0, 2, 1, 3, 4, 5, 6, 7]), (10, [0, 2, 5, 1, 3, 4, 6, 7, 8, 9, 10]), (12, [0, 2, 1, 3, 4, 5, 6, 7])], [], []⟩⟩]
theorem I_ok : ∀ i ∈ I, Try.prog.funcs[i.f]? = some i.fn ∧ (i.fn.name == "runtime.NumGoroutine") = false := by
  intro i hi
  simp only [I, List.mem_cons, List.not_mem_nil, or_false] at hi
  rcases hi with rfl | rfl
  all_goals exact ⟨by kernel_rfl, by kernel_rfl⟩
noncomputable abbrev L0 (d : Nat) (fuel n : Nat) (s : St) (k : Kont) := lAt Try.prog (X d) I fuel true 4 false 41 (bodyOf Try.f41) [1, 1, 1, 0, 1, 0] n s k
noncomputable abbrev k0 (d : Nat)  (fuel : Nat) : Kont := (kAt Try.prog (X d) I fuel true 4 false 41 (bodyOf Try.f41) [1, 1, 1, 0, 1, 0] [] (endK Try.prog Try.f41))
noncomputable def t0 (p1 : Int) (p0q4 : List D) (p0q0 : Int) (p0q1 : Int) (p0q2 : Int) (p0q3 : List Int) (x0q3 : Int) (x0q9 : List D) : St := ⟨[.dead, (.imm (.int .i64 p1)), (.ptr 1000000000 0 0), .dead, .dead, .dead, (.all 1000000001 1), .dead, .dead, .dead, .dead, .dead, .dead, .dead, .dead, .dead, .dead, .dead, .dead, .dead, .dead, .dead, .dead, .dead, .dead, .dead, .dead, .dead, .dead, .dead, .dead, .dead, .dead, (.imm (.seq 5 p0q4)), (.imm (.int .i64 ((p0q4.length : Nat) : Int))), (.imm (.int .i64 x0q3)), .dead, .dead, .dead, .dead, .dead, .dead, .dead, .dead, .dead, .dead, .dead, .dead, .dead, .dead, .dead, .dead, .dead, .dead, .dead, .dead, .dead, .dead, .dead, .dead, .dead, .dead, .dead, .dead, .dead], hOf [(1000000000, (.box [(.imm (.int .i64 p0q0)), (.imm (.int .i64 p0q1)), (.imm (.int .i64 p0q2)), (.imm (.ints .i64 p0q3)), (.imm (.seq 5 p0q4))])), (1000000001, (.ds 1 x0q9))], [], []⟩
theorem e (d : Nat) (fuel : Nat) (p0q0 : Int) (p0q1 : Int) (p0q2 : Int) (p0q3 : List Int) (p0q4 : List D) (p1 : Int) : runF Try.prog (X d) I 4 fuel 41 Try.f41 [.d (.agg [(.int .i64 p0q0), (.int .i64 p0q1), (.int .i64 p0q2), (.ints .i64 p0q3), (.seq 5 p0q4)]), .d (.int .i64 p1)] =
  (bif ((p1 : Int) == 0) then
  some ([.one (.nili, false), .one ((.bool false), false)], [])
  else
  (bif ((((p0q4.length : Nat) : Int) : Int) != ((kidN p0q0 : Nat) : Int)) then
  some ([.one (.nili, false), .one ((.bool false), false)], [])
  else
  (bif treesB p0q4 then
  (bif (!(bareT p0q0 p0q1 p0q2 p0q3)) then
  some ([.one (.nili, false), .one ((.bool false), false)], [])
  else
  (bif decide (0 ≤ (((p0q4.length : Nat) : Int) : Int)) && decide ((((p0q4.length : Nat) : Int) : Int) ≤ ((p0q4.length : Nat) : Int)) && decide ((((p0q4.length : Nat) : Int) : Int) ≤ 1152921504606846976) && decide (((16 : Nat) : Int) * ((p0q4.length : Nat) : Int) ≤ 281474976710656) then
  L0 d fuel fuel (t0 p1 p0q4 p0q0 p0q1 p0q2 p0q3 0 ((List.replicate (((p0q4.length : Nat) : Int)).toNat (.nili : D)))) (k0 d  fuel)
  else
  none))
  else
  none))) := by kernel_rfl
theorem s0 (d : Nat) (fuel n0 : Nat) (p1 : Int) (p0q4 : List D) (p0q0 : Int) (p0q1 : Int) (p0q2 : Int) (p0q3 : List Int) (x0q3 : Int) (x0q9 : List D) : L0 d fuel (n0 + 1) (t0 p1 p0q4 p0q0 p0q1 p0q2 p0q3 x0q3 x0q9) (k0 d  fuel) =
  (bif (decide ((x0q3 : Int) < ((p0q4.length : Nat) : Int))) then
  (idx x0q3 p0q4.length).bind fun j13 =>
  (bif okS [.int .i64, .int .i64, .int .i64, .ints .i64, .seq 5] p0q4 j13 then
  (bif (treesB ((cellQ p0q4 j13 4)) && decide (0 ≤ ((IntKind.wrap .i64 (p1 - 1)))) && decide (((IntKind.wrap .i64 (p1 - 1))) ≤ 8) && decide (((IntKind.wrap .i64 (p1 - 1))).toNat < d)) then
  (bif validT ((IntKind.wrap .i64 (p1 - 1))).toNat (mkT ((cellI p0q4 j13 0)) ((cellI p0q4 j13 1)) ((cellI p0q4 j13 2)) ((cellL p0q4 j13 3)) ((cellQ p0q4 j13 4))) then
  (idx x0q3 x0q9.length).bind fun j14 =>
  (bif decide (j14 < x0q9.length) then
  L0 d fuel n0 (t0 p1 p0q4 p0q0 p0q1 p0q2 p0q3 ((IntKind.wrap .i64 (x0q3 + 1))) ((x0q9.set j14 (.iface (tyN nodeIds ((cellI p0q4 j13 0))) (payT nodeIds (mkT ((cellI p0q4 j13 0)) ((cellI p0q4 j13 1)) ((cellI p0q4 j13 2)) ((cellL p0q4 j13 3)) ((cellQ p0q4 j13 4)))))))) (k0 d  fuel)
  else
  none)
  else
  some ([.one (.nili, false), .one ((.bool false), false)], []))
  else
  none)
  else
  none)
  else
  (bif ((p0q0 : Int) == 0) then
  (bif nodeP nodeIds 117 ((.agg [(.ints .i64 p0q3)])) then
  (bif (!(fitsN nodeIds 117 ((.agg [(.ints .i64 p0q3)])))) then
  some ([.one (.nili, false), .one ((.bool false), false)], [])
  else
  some ([.one ((.iface 117 (.agg [(.ints .i64 p0q3)])), false), .one ((.bool true), false)], []))
  else
  none)
  else
  (bif ((p0q0 : Int) == 1) then
  (bif nodeP nodeIds 119 ((.agg [(.int .i64 p0q2)])) then
  (bif (!(fitsN nodeIds 119 ((.agg [(.int .i64 p0q2)])))) then
  some ([.one (.nili, false), .one ((.bool false), false)], [])
  else
  some ([.one ((.iface 119 (.agg [(.int .i64 p0q2)])), false), .one ((.bool true), false)], []))
  else
  none)
  else
  (bif ((p0q0 : Int) == 2) then
  (idx 0 x0q9.length).bind fun j15 =>
  (bif okC (.ifc) x0q9 j15 0 then
  (bif nodeP nodeIds 121 ((.agg [(.int .i64 p0q1), (.iface (cellT x0q9 j15 0) (cellP x0q9 j15 0))])) then
  (bif (!(fitsN nodeIds 121 ((.agg [(.int .i64 p0q1), (.iface (cellT x0q9 j15 0) (cellP x0q9 j15 0))])))) then
  some ([.one (.nili, false), .one ((.bool false), false)], [])
  else
  some ([.one ((.iface 121 (.agg [(.int .i64 p0q1), (.iface (cellT x0q9 j15 0) (cellP x0q9 j15 0))])), false), .one ((.bool true), false)], []))
  else
  none)
  else
  none)
  else
  (bif ((p0q0 : Int) == 3) then
  (idx 0 x0q9.length).bind fun j16 =>
  (bif okC (.ifc) x0q9 j16 0 then
  (idx 1 x0q9.length).bind fun j17 =>
  (bif okC (.ifc) x0q9 j17 0 then
  (bif nodeP nodeIds 123 ((.agg [(.int .i64 p0q1), (.iface (cellT x0q9 j16 0) (cellP x0q9 j16 0)), (.iface (cellT x0q9 j17 0) (cellP x0q9 j17 0))])) then
  (bif (!(fitsN nodeIds 123 ((.agg [(.int .i64 p0q1), (.iface (cellT x0q9 j16 0) (cellP x0q9 j16 0)), (.iface (cellT x0q9 j17 0) (cellP x0q9 j17 0))])))) then
  some ([.one (.nili, false), .one ((.bool false), false)], [])
  else
  some ([.one ((.iface 123 (.agg [(.int .i64 p0q1), (.iface (cellT x0q9 j16 0) (cellP x0q9 j16 0)), (.iface (cellT x0q9 j17 0) (cellP x0q9 j17 0))])), false), .one ((.bool true), false)], []))
  else
  none)
  else
  none)
  else
  none)
  else
  (bif ((p0q0 : Int) == 4) then
  (idx 0 x0q9.length).bind fun j18 =>
  (bif okC (.ifc) x0q9 j18 0 then
  (bif nodeP nodeIds 124 ((.agg [(.int .i64 p0q1), (.iface (cellT x0q9 j18 0) (cellP x0q9 j18 0))])) then
  (bif (!(fitsN nodeIds 124 ((.agg [(.int .i64 p0q1), (.iface (cellT x0q9 j18 0) (cellP x0q9 j18 0))])))) then
  some ([.one (.nili, false), .one ((.bool false), false)], [])
  else
  some ([.one ((.iface 124 (.agg [(.int .i64 p0q1), (.iface (cellT x0q9 j18 0) (cellP x0q9 j18 0))])), false), .one ((.bool true), false)], []))
  else
  none)
  else
  none)
  else
  some ([.one (.nili, false), .one ((.bool false), false)], []))))))) := by kernel_rfl
end impl_nodeOf
theorem impl_nodeOf.ok_of (d : Nat) (hX : ∀ E ∈ impl_nodeOf.X d, CallSpec Try.prog E) (h : ∀ (k : Int) (s : Int) (n : Int) (xs : List Int) (ks : List D) (lv : Int), ((treesB ks && decide (0 ≤ lv) && decide (lv ≤ 8)) && decide (lv.toNat < d + 1)) = true → ∃ fuel, runF Try.prog (impl_nodeOf.X d) impl_nodeOf.I 4 fuel 41 Try.f41 [.d (.agg [(.int .i64 k), (.int .i64 s), (.int .i64 n), (.ints .i64 xs), (.seq 5 ks)]), .d (.int .i64 lv)] = some (bif validT lv.toNat (mkT k s n xs ks) then ([.one ((.iface (tyN nodeIds k) (payT nodeIds (mkT k s n xs ks))), false), .one ((.bool true), false)], []) else ([.one (.nili, false), .one ((.bool false), false)], []))) : CallSpec Try.prog (impl_nodeOf.Ed (d + 1)) :=
  callSpec_of (d := 4) hX (by kernel_rfl) impl_nodeOf.I_ok (by kernel_rfl) (by kernel_rfl) (by kernel_rfl) (fun _ _ _ _ h => by dsimp only [impl_nodeOf.Ed] at h; cases h) (fun xs hp => by
    dsimp only [impl_nodeOf.Ed] at hp ⊢
    split at hp
    · exact h _ _ _ _ _ _ hp
    · cases hp)
theorem impl_nodeOf.fin (k s n : Int) (xs : List Int) (ts : List Tr) (m : Nat) (hb : bareT k s n xs = true) (hl : ts.length = kidN k) (ha : ts.all (validT m) = true) (ty : Nat) (pay : D) (c : Bool) (hc : partOk k s n xs = c) (ht : tyN nodeIds k = ty) (hp : payT nodeIds (.mk k s n xs ts) = pay) :
    (bif validT (m + 1) (.mk k s n xs ts) then ([.one (.iface (tyN nodeIds k) (payT nodeIds (.mk k s n xs ts)), false), .one (.bool true, false)], []) else ([.one (.nili, false), .one (.bool false, false)], []) : Ret) =
      (bif !c then ([.one (.nili, false), .one (.bool false, false)], []) else ([.one (.iface ty pay, false), .one (.bool true, false)], [])) := by
  rw [validT, hb, decide_eq_true hl, hc, ha, ht, hp]
  cases c <;> rfl

theorem impl_nodeOf.loop (d F m : Nat) (k s n : Int) (xs : List Int) (ts : List Tr) (hF : ts.length < F) (hm : m < 9) (hmd : m < d) (hb : bareT k s n xs = true) (hl : ts.length = kidN k) :
    impl_nodeOf.L0 d F F (impl_nodeOf.t0 ((m + 1 : Nat) : Int) (treeDs ts) k s n xs 0 (List.replicate ts.length .nili)) (impl_nodeOf.k0 d F) =
      some (bif validT (m + 1) (.mk k s n xs ts) then ([.one (.iface (tyN nodeIds k) (payT nodeIds (.mk k s n xs ts)), false), .one (.bool true, false)], []) else ([.one (.nili, false), .one (.bool false, false)], [])) := by
  have hl2 := kidN_le k
  have hpl : (payTs nodeIds ts).length = ts.length := by rw [payTs_map]; simp
  refine cnt_loop (σ := List D) (N := ts.length) (fun q j out => impl_nodeOf.L0 d F q (impl_nodeOf.t0 ((m + 1 : Nat) : Int) (treeDs ts) k s n xs (j : Int) out) (impl_nodeOf.k0 d F))
    (fun j out => out = partG (payTs nodeIds ts) .nili j ∧ ts.all (validT m) = (ts.drop j).all (validT m)) ?_ ?_ F 0 _ (by omega) (by omega) ⟨by rw [partG_zero, hpl], rfl⟩
  · rintro q out ⟨hI, hA⟩
    rw [impl_nodeOf.s0, treeDs_length, dge (by omega), cond_false]
    rw [List.drop_length, List.all_nil] at hA
    rw [← hpl, partG_all] at hI
    subst hI
    by_cases h0 : k = 0
    · subst h0
      have hp : payT nodeIds (.mk 0 s n xs ts) = .agg [.ints .i64 xs] := by rw [payT, if_pos rfl]
      rw [impl_nodeOf.fin 0 s n xs ts m hb hl hA _ _ (numsOk xs) rfl rfl hp]
      have h2 : fitsN nodeIds nodeIds.n0 (.agg [.ints .i64 xs]) = numsOk xs := rfl
      show (bif !(fitsN nodeIds nodeIds.n0 (.agg [.ints .i64 xs])) then _ else _) = _
      rw [h2]
      cases numsOk xs <;> rfl
    by_cases h1 : k = 1
    · subst h1
      have hp : payT nodeIds (.mk 1 s n xs ts) = .agg [.int .i64 n] := by rw [payT, if_neg (by decide), if_pos rfl]
      rw [impl_nodeOf.fin 1 s n xs ts m hb hl hA _ _ (nameOk n) rfl rfl hp]
      have h2 : fitsN nodeIds nodeIds.n1 (.agg [.int .i64 n]) = nameOk n := rfl
      show (bif !(fitsN nodeIds nodeIds.n1 (.agg [.int .i64 n])) then _ else _) = _
      rw [h2]
      cases nameOk n <;> rfl
    by_cases h2 : k = 2
    · subst h2
      obtain ⟨a, rfl⟩ : ∃ a, ts = [a] := List.length_eq_one_iff.1 hl
      have hp : payT nodeIds (.mk 2 s n xs [a]) = .agg [.int .i64 s, .iface (tyN nodeIds a.k) (payT nodeIds a)] := by rw [payT, if_neg (by decide), if_neg (by decide), payTs, payTs]
      rw [impl_nodeOf.fin 2 s n xs [a] m hb hl hA _ _ (oneOk s) rfl rfl hp, payTs, payTs]
      generalize tyN nodeIds a.k = ty
      generalize payT nodeIds a = pa
      have h2 : fitsN nodeIds nodeIds.n2 (.agg [.int .i64 s, .iface ty pa]) = oneOk s := rfl
      show (bif !(fitsN nodeIds nodeIds.n2 (.agg [.int .i64 s, .iface ty pa])) then _ else _) = _
      rw [h2]
      cases oneOk s <;> rfl
    by_cases h3 : k = 3
    · subst h3
      obtain ⟨a, b, rfl⟩ : ∃ a b, ts = [a, b] := by match ts, hl with | [a, b], _ => exact ⟨a, b, rfl⟩
      have hp : payT nodeIds (.mk 3 s n xs [a, b]) = .agg [.int .i64 s, .iface (tyN nodeIds a.k) (payT nodeIds a), .iface (tyN nodeIds b.k) (payT nodeIds b)] := by rw [payT, if_neg (by decide), if_neg (by decide), payTs, payTs, payTs]
      rw [impl_nodeOf.fin 3 s n xs [a, b] m hb hl hA _ _ (twoOk s) rfl rfl hp, payTs, payTs, payTs]
      generalize tyN nodeIds a.k = ty
      generalize payT nodeIds a = pa
      generalize tyN nodeIds b.k = ty2
      generalize payT nodeIds b = pa2
      have h2 : fitsN nodeIds nodeIds.n3 (.agg [.int .i64 s, .iface ty pa, .iface ty2 pa2]) = twoOk s := rfl
      show (bif !(fitsN nodeIds nodeIds.n3 (.agg [.int .i64 s, .iface ty pa, .iface ty2 pa2])) then _ else _) = _
      rw [h2]
      cases twoOk s <;> rfl
    by_cases h4 : k = 4
    · subst h4
      obtain ⟨a, rfl⟩ : ∃ a, ts = [a] := List.length_eq_one_iff.1 hl
      have hp : payT nodeIds (.mk 4 s n xs [a]) = .agg [.int .i64 s, .iface (tyN nodeIds a.k) (payT nodeIds a)] := by rw [payT, if_neg (by decide), if_neg (by decide), payTs, payTs]
      rw [impl_nodeOf.fin 4 s n xs [a] m hb hl hA _ _ (sgOk s) rfl rfl hp, payTs, payTs]
      generalize tyN nodeIds a.k = ty
      generalize payT nodeIds a = pa
      have h2 : fitsN nodeIds nodeIds.n4 (.agg [.int .i64 s, .iface ty pa]) = sgOk s := rfl
      show (bif !(fitsN nodeIds nodeIds.n4 (.agg [.int .i64 s, .iface ty pa])) then _ else _) = _
      rw [h2]
      cases sgOk s <;> rfl
    · have hp : partOk k s n xs = false := by
        unfold partOk
        rw [beq_eq_false_iff_ne.2 h0, beq_eq_false_iff_ne.2 h1, beq_eq_false_iff_ne.2 h2, beq_eq_false_iff_ne.2 h3, beq_eq_false_iff_ne.2 h4]
        rfl
      rw [validT, hp, Bool.and_false, Bool.false_and, beq_eq_false_iff_ne.2 h0, beq_eq_false_iff_ne.2 h1, beq_eq_false_iff_ne.2 h2, beq_eq_false_iff_ne.2 h3, beq_eq_false_iff_ne.2 h4]
      rfl
  · rintro q j out hj ⟨hI, hA⟩
    obtain ⟨v0, v1, v2, v3, v4, v5⟩ := tr_view hj
    have hol : out.length = ts.length := by rw [hI, partG_length (by omega), hpl]
    rw [impl_nodeOf.s0, treeDs_length, dlt hj, cond_true, idx_nat hj, Option.bind_some, v0, cond_true, tr_tb hj, tr_mk hj]
    have ew : IntKind.wrap .i64 (((m + 1 : Nat) : Int) - 1) = (m : Int) := by rw [wS (by omega) (by omega)]; omega
    rw [ew, Int.toNat_natCast, decide_eq_true (p := (0 : Int) ≤ (m : Int)) (by omega), decide_eq_true (p := (m : Int) ≤ 8) (by omega), decide_eq_true hmd]
    rw [List.drop_eq_getElem_cons hj, List.all_cons] at hA
    cases hv : validT m ts[j] with
    | true =>
      rw [hol, idx_nat hj, w1 (by omega), v1]
      refine .inr ⟨out.set j (.iface (tyN nodeIds ts[j].k) (payT nodeIds ts[j])), ⟨?_, by rw [hA, hv, Bool.true_and]⟩, ?_⟩
      · rw [hI]
        have e : (payTs nodeIds ts)[j]'(by omega) = .iface (tyN nodeIds ts[j].k) (payT nodeIds ts[j]) := by simp only [payTs_map, List.getElem_map]
        rw [← e]
        exact partG_set (by omega)
      · rw [Option.bind_some, decide_eq_true (by omega)]
        rfl
    | false =>
      refine .inl ?_
      rw [validT, hA, hv, Bool.false_and, Bool.and_false]
      rfl

theorem impl_nodeOf.okd : ∀ d, CallSpec Try.prog (impl_nodeOf.Ed d)
  | 0 => impl_nodeOf.Ed_zero
  | d + 1 => impl_nodeOf.ok_of d (by simp [impl_nodeOf.X, impl_nodeOf.okd d, impl_kidsOf.ok, impl_isBare.ok, node_fits.ok]) fun k s n xs ks lv h => by
    simp only [Bool.and_eq_true, decide_eq_true_eq] at h
    obtain ⟨⟨⟨ht, h0⟩, h8⟩, hd⟩ := h
    obtain ⟨ts, rfl⟩ := treesB_iff.1 ht
    refine ⟨ts.length + 4, ?_⟩
    rw [impl_nodeOf.e, mkT_treeDs]
    by_cases hz : lv = 0
    · subst hz; rfl
    obtain ⟨m, rfl⟩ : ∃ m : Nat, lv = ((m + 1 : Nat) : Int) := ⟨lv.toNat - 1, by omega⟩
    have eT : (((ts.length : Nat) : Int) != ((kidN k : Nat) : Int)) = !decide (ts.length = kidN k) := by
      by_cases h : ts.length = kidN k <;> simp [h]; omega
    rw [beq_eq_false_iff_ne.2 hz, cond_false, treeDs_length, Int.toNat_natCast (m + 1), ht, eT]
    cases hl : decide (ts.length = kidN k) with
    | false =>
      rw [validT, hl, Bool.and_false, Bool.false_and, Bool.false_and]
      rfl
    | true =>
    rw [Bool.not_true, cond_false, cond_true]
    cases hb : bareT k s n xs with
    | false =>
      rw [validT, hb, Bool.false_and, Bool.false_and, Bool.false_and]
      rfl
    | true =>
    have hl' := of_decide_eq_true hl
    have hk2 := kidN_le k
    rw [Bool.not_true, cond_false, decide_eq_true (p := (0 : Int) ≤ ((ts.length : Nat) : Int)) (by omega), decide_eq_true (p := ((ts.length : Nat) : Int) ≤ ((ts.length : Nat) : Int)) (by omega), decide_eq_true (p := ((ts.length : Nat) : Int) ≤ 1152921504606846976) (by omega), decide_eq_true (p := ((16 : Nat) : Int) * ((ts.length : Nat) : Int) ≤ 281474976710656) (by omega)]
    rw [Bool.and_self, Bool.and_self, Bool.and_self, cond_true, Int.toNat_natCast ts.length]
    exact impl_nodeOf.loop d _ m k s n xs ts (by omega) (by omega) (by omega) hb hl'
theorem impl_nodeOf.ok : CallSpec Try.prog impl_nodeOf.E := impl_nodeOf.E_of impl_nodeOf.okd

namespace impl_ValidTree
noncomputable def E : Entry := ⟨15, true, false, fun | [.d (.agg [(.int .i64 k), (.int .i64 s), (.int .i64 n), (.ints .i64 xs), (.seq 5 ks)])] => treesB ks | _ => false, fun | [.d (.agg [(.int .i64 k), (.int .i64 s), (.int .i64 n), (.ints .i64 xs), (.seq 5 ks)])] => ([.one ((.bool (validT 8 (mkT k s n xs ks))), false)], []) | _ => ([], []), fun _ => [], false, fun _ => none, none⟩
end impl_ValidTree
namespace impl_ValidTree
noncomputable def X : List Entry := [impl_nodeOf.E]
noncomputable def I : List Inl := [⟨15, Try.f15, ⟨[], [], [], [], [], []⟩⟩]
theorem I_ok : ∀ i ∈ I, Try.prog.funcs[i.f]? = some i.fn ∧ (i.fn.name == "runtime.NumGoroutine") = false := by
  intro i hi
  simp only [I, List.mem_cons, List.not_mem_nil, or_false] at hi
  subst hi
  exact ⟨by kernel_rfl, by kernel_rfl⟩
theorem e (fuel : Nat) (p0q0 : Int) (p0q1 : Int) (p0q2 : Int) (p0q3 : List Int) (p0q4 : List D) : runF Try.prog X I 0 fuel 15 Try.f15 [.d (.agg [(.int .i64 p0q0), (.int .i64 p0q1), (.int .i64 p0q2), (.ints .i64 p0q3), (.seq 5 p0q4)])] =
  (bif treesB p0q4 && decide (0 ≤ 8) && decide (8 ≤ 8) then
  (bif validT (8 : Int).toNat (mkT p0q0 p0q1 p0q2 p0q3 p0q4) then
  some ([.one ((.bool true), false)], [])
  else
  some ([.one ((.bool false), false)], []))
  else
  none) := by kernel_rfl
end impl_ValidTree
theorem impl_ValidTree.ok_of (hX : ∀ E ∈ impl_ValidTree.X, CallSpec Try.prog E) (h : ∀ (k : Int) (s : Int) (n : Int) (xs : List Int) (ks : List D), (treesB ks) = true → ∃ fuel, runF Try.prog impl_ValidTree.X impl_ValidTree.I 0 fuel 15 Try.f15 [.d (.agg [(.int .i64 k), (.int .i64 s), (.int .i64 n), (.ints .i64 xs), (.seq 5 ks)])] = some ([.one ((.bool (validT 8 (mkT k s n xs ks))), false)], [])) : CallSpec Try.prog impl_ValidTree.E :=
  callSpec_of (d := 0) hX (by kernel_rfl) impl_ValidTree.I_ok (by kernel_rfl) (by kernel_rfl) (by kernel_rfl) (fun _ _ _ _ h => by dsimp only [impl_ValidTree.E] at h; cases h) (fun xs hp => by
    dsimp only [impl_ValidTree.E] at hp ⊢
    split at hp
    · exact h _ _ _ _ _ hp
    · cases hp)
theorem impl_ValidTree.ok : CallSpec Try.prog impl_ValidTree.E := impl_ValidTree.ok_of (by simp [impl_ValidTree.X, impl_nodeOf.ok]) fun k s n xs ks h => ⟨0, by
  rw [impl_ValidTree.e, h]
  show (bif validT 8 (mkT k s n xs ks) then _ else _) = _
  cases validT 8 (mkT k s n xs ks) <;> rfl⟩

namespace laws_eqIntS
noncomputable def E : Entry := ⟨42, true, false, fun | [.d (.ints .i64 xs), .d (.ints .i64 ys)] => decide (xs.length < 9223372036854775808) && decide (ys.length < 9223372036854775808) | _ => false, fun | [.d (.ints .i64 xs), .d (.ints .i64 ys)] => ([.one ((.bool (decide (xs = ys))), false)], []) | _ => ([], []), fun _ => [], false, fun _ => none, none⟩
end laws_eqIntS
namespace laws_eqIntS
noncomputable def X : List Entry := []
noncomputable def I : List Inl := [⟨42, Try.f42, ⟨[], [(1000004, [2, 3, 4, 6, 7, 8, 9, 10, 11, 12, 13, 14, 15, 16, 17, 18, 19, 20, 21, 22, 23, 24, 25])], [], [(6, [0, 1, 4, 5, 2, 3, 6, 7, 8])], [], []⟩⟩]
theorem I_ok : ∀ i ∈ I, Try.prog.funcs[i.f]? = some i.fn ∧ (i.fn.name == "runtime.NumGoroutine") = false := by
  intro i hi
  simp only [I, List.mem_cons, List.not_mem_nil, or_false] at hi
  subst hi
  exact ⟨by kernel_rfl, by kernel_rfl⟩
noncomputable abbrev L0 (fuel n : Nat) (s : St) (k : Kont) := lAt Try.prog X I fuel true 0 false 42 (bodyOf Try.f42) [1, 1, 0, 1, 0] n s k
noncomputable abbrev k0  (fuel : Nat) : Kont := (kAt Try.prog X I fuel true 0 false 42 (bodyOf Try.f42) [1, 1, 0, 1, 0] [] (endK Try.prog Try.f42))
noncomputable def t0 (p0 : List Int) (p1 : List Int) (x0q2 : Int) : St := ⟨[(.imm (.ints .i64 p0)), (.imm (.ints .i64 p1)), .dead, .dead, .dead, (.imm (.int .i64 x0q2)), .dead, .dead, .dead, .dead, .dead, .dead, .dead, .dead, .dead, .dead, .dead, .dead, .dead, .dead, .dead, .dead, .dead, .dead, .dead, .dead], hOf [], [], []⟩
theorem e (fuel : Nat) (p0 : List Int) (p1 : List Int) : runF Try.prog X I 0 fuel 42 Try.f42 [.d (.ints .i64 p0), .d (.ints .i64 p1)] =
  (bif ((((p0.length : Nat) : Int) : Int) != ((p1.length : Nat) : Int)) then
  some ([.one ((.bool false), false)], [])
  else
  L0 fuel fuel (t0 p0 p1 0) (k0  fuel)) := by kernel_rfl
theorem s0 (fuel n0 : Nat) (p0 : List Int) (p1 : List Int) (x0q2 : Int) : L0 fuel (n0 + 1) (t0 p0 p1 x0q2) (k0  fuel) =
  (bif (decide ((x0q2 : Int) < ((p0.length : Nat) : Int))) then
  (idx x0q2 p0.length).bind fun j9 =>
  (p0[j9]?).bind fun v10 =>
  (idx x0q2 p1.length).bind fun j11 =>
  (p1[j11]?).bind fun v12 =>
  (bif ((v10 : Int) != v12) then
  some ([.one ((.bool false), false)], [])
  else
  L0 fuel n0 (t0 p0 p1 ((IntKind.wrap .i64 (x0q2 + 1)))) (k0  fuel))
  else
  some ([.one ((.bool true), false)], [])) := by kernel_rfl
end laws_eqIntS
theorem laws_eqIntS.ok_of (hX : ∀ E ∈ laws_eqIntS.X, CallSpec Try.prog E) (h : ∀ (xs : List Int) (ys : List Int), (decide (xs.length < 9223372036854775808) && decide (ys.length < 9223372036854775808)) = true → ∃ fuel, runF Try.prog laws_eqIntS.X laws_eqIntS.I 0 fuel 42 Try.f42 [.d (.ints .i64 xs), .d (.ints .i64 ys)] = some ([.one ((.bool (decide (xs = ys))), false)], [])) : CallSpec Try.prog laws_eqIntS.E :=
  callSpec_of (d := 0) hX (by kernel_rfl) laws_eqIntS.I_ok (by kernel_rfl) (by kernel_rfl) (by kernel_rfl) (fun _ _ _ _ h => by dsimp only [laws_eqIntS.E] at h; cases h) (fun xs hp => by
    dsimp only [laws_eqIntS.E] at hp ⊢
    split at hp
    · exact h _ _ hp
    · cases hp)
theorem laws_eqIntS.loop (fuel : Nat) (xs ys : List Int) (hl : xs.length = ys.length) (hx : xs.length < 9223372036854775808) : ∀ (m n j : Nat), xs.length - j = m → m < n → j ≤ xs.length →
    laws_eqIntS.L0 fuel n (laws_eqIntS.t0 xs ys (j : Int)) (laws_eqIntS.k0 fuel) = some ([.one (.bool (decide (xs.drop j = ys.drop j)), false)], []) := by
  intro m
  induction m with
  | zero =>
    intro n j h1 h2 h3
    obtain ⟨n, rfl⟩ : ∃ n', n = n' + 1 := ⟨n - 1, by omega⟩
    have hj : ¬ j < xs.length := by omega
    rw [laws_eqIntS.s0, dge hj, dropE hj, dropE (xs := ys) (by omega)]
    rfl
  | succ m ih =>
    intro n j h1 h2 h3
    obtain ⟨n, rfl⟩ : ∃ n', n = n' + 1 := ⟨n - 1, by omega⟩
    have hj : j < xs.length := by omega
    have hj2 : j < ys.length := by omega
    rw [laws_eqIntS.s0, dlt hj, idx_nat hj, idx_nat hj2, w1 (by omega), dropS hj, dropS hj2]
    simp only [cond_true, Option.bind_some, getS hj, getS hj2]
    rw [ih n (j + 1) (by omega) (by omega) (by omega)]
    by_cases hv : xs[j] = ys[j]
    · rw [hv]
      simp only [bne_self_eq_false, cond_false, List.cons.injEq, true_and]
    · have : (xs[j] != ys[j]) = true := by simp [hv]
      rw [this]
      simp only [cond_true, List.cons.injEq, hv, false_and, decide_false]

theorem laws_eqIntS.ok : CallSpec Try.prog laws_eqIntS.E := laws_eqIntS.ok_of (by simp [laws_eqIntS.X]) fun xs ys h => by
  simp only [Bool.and_eq_true, decide_eq_true_eq] at h
  refine ⟨xs.length + 1, ?_⟩
  rw [laws_eqIntS.e]
  by_cases hl : xs.length = ys.length
  · have := laws_eqIntS.loop (xs.length + 1) xs ys hl h.1 xs.length (xs.length + 1) 0 (by omega) (by omega) (by omega)
    simp only [List.drop_zero] at this
    simp only [hl, bne_self_eq_false, cond_false]
    rw [← hl]
    exact this
  · have hne : xs ≠ ys := fun e => hl (e ▸ rfl)
    have : (((xs.length : Nat) : Int) != ((ys.length : Nat) : Int)) = true := by simp; omega
    rw [this]
    simp [hne]

namespace laws_eqTree
noncomputable def E : Entry := ⟨16, true, false, fun | [.d (.agg [(.int .i64 k), (.int .i64 s), (.int .i64 n), (.ints .i64 xs), (.seq 5 ks)]), .d (.agg [(.int .i64 k2), (.int .i64 s2), (.int .i64 n2), (.ints .i64 xs2), (.seq 5 ks2)])] => treesB ks && treesB ks2 && smallT (mkT k s n xs ks) && smallT (mkT k2 s2 n2 xs2 ks2) | _ => false, fun | [.d (.agg [(.int .i64 k), (.int .i64 s), (.int .i64 n), (.ints .i64 xs), (.seq 5 ks)]), .d (.agg [(.int .i64 k2), (.int .i64 s2), (.int .i64 n2), (.ints .i64 xs2), (.seq 5 ks2)])] => ([.one ((.bool (Tr.beq (mkT k s n xs ks) (mkT k2 s2 n2 xs2 ks2))), false)], []) | _ => ([], []), fun _ => [], false, fun _ => none, none⟩
noncomputable def Ed (d : Nat) : Entry := ⟨16, true, false, fun | [.d (.agg [(.int .i64 k), (.int .i64 s), (.int .i64 n), (.ints .i64 xs), (.seq 5 ks)]), .d (.agg [(.int .i64 k2), (.int .i64 s2), (.int .i64 n2), (.ints .i64 xs2), (.seq 5 ks2)])] => (treesB ks && treesB ks2 && smallT (mkT k s n xs ks) && smallT (mkT k2 s2 n2 xs2 ks2) && decide (hgtT (mkT k s n xs ks) < d)) | _ => false, fun | [.d (.agg [(.int .i64 k), (.int .i64 s), (.int .i64 n), (.ints .i64 xs), (.seq 5 ks)]), .d (.agg [(.int .i64 k2), (.int .i64 s2), (.int .i64 n2), (.ints .i64 xs2), (.seq 5 ks2)])] => ([.one ((.bool (Tr.beq (mkT k s n xs ks) (mkT k2 s2 n2 xs2 ks2))), false)], []) | _ => ([], []), fun _ => [], false, fun _ => none, none⟩
theorem Ed_zero : CallSpec Try.prog (Ed 0) := CallSpec.void ⟨Try.f16, by kernel_rfl, by kernel_rfl, by kernel_rfl⟩ (fun xs => by dsimp only [Ed]; split <;> simp) (fun _ => rfl)
theorem E_of (h : ∀ d, CallSpec Try.prog (Ed d)) : CallSpec Try.prog E := CallSpec.union Ed h (fun _ => rfl) (fun _ => rfl) (fun _ => rfl) fun xs hp => by
  dsimp only [E] at hp
  split at hp
  · rename_i k s n xs ks k2 s2 n2 xs2 ks2
    refine ⟨hgtT (mkT k s n xs ks) + 1, ?_, rfl⟩
    show (_ && decide (_ < _)) = true
    rw [hp]
    exact decide_eq_true (Nat.lt_succ_self _)
  · cases hp
end laws_eqTree
namespace laws_eqTree
noncomputable def X (d : Nat) : List Entry := [laws_eqIntS.E, laws_eqTree.Ed d]
noncomputable def I : List Inl := [⟨16, Try.f16, ⟨[], [(9, [0, 1, 4, 5, 6, 7, 8, 9, 10, 11, 12, 13, 14, 15, 16, 17, 18, 19, 20, 21, 22, 23, 24, 25, 26, 27, 28, 29, 30, 31])], [], [], [], []⟩⟩, ⟨43, Try.f43, ⟨[], [(1000004, [2, 3, 4, 6, 7, 8, 9, 10, 11, 12, 13, 14, 15, 16, 17, 18, 19, 20, 21, 22, 23, 24, 25, 26])], [], [(6, [0, 1, 4, 5, 2, 3, 6, 7, 8, 9])], [], []⟩⟩]
theorem I_ok : ∀ i ∈ I, Try.prog.funcs[i.f]? = some i.fn ∧ (i.fn.name == "runtime.NumGoroutine") = false := by
  intro i hi
  simp only [I, List.mem_cons, List.not_mem_nil, or_false] at hi
  rcases hi with rfl | rfl
  all_goals exact ⟨by kernel_rfl, by kernel_rfl⟩
noncomputable abbrev L0 (d : Nat) (fuel n : Nat) (s : St) (k : Kont) := lAt Try.prog (X d) I fuel true 3 false 43 (bodyOf Try.f43) [1, 1, 0, 1, 0] n s k
noncomputable abbrev k0 (d : Nat)  (fuel : Nat) : Kont := (kAt Try.prog (X d) I fuel true 3 false 43 (bodyOf Try.f43) [1, 1, 0, 1, 0] [] (endFn Try.prog Try.f43 32 (kOp Try.prog (X d) I fuel true 4 16 (cAt (bodyOf Try.f16) [1, 1, 1, 1, 1, 0, 0]) 4 (kAt Try.prog (X d) I fuel true 4 false 16 (bodyOf Try.f16) [1, 1, 1, 1, 1, 0, 0] [] (endK Try.prog Try.f16)))))
noncomputable def t0 (p0q4 : List D) (p1q4 : List D) (p0q0 : Int) (p0q1 : Int) (p0q2 : Int) (p0q3 : List Int) (p1q0 : Int) (p1q1 : Int) (p1q2 : Int) (p1q3 : List Int) (x0q2 : Int) : St := ⟨[(.imm (.seq 5 p0q4)), (.imm (.seq 5 p1q4)), .dead, .dead, .dead, (.imm (.int .i64 x0q2)), .dead, .dead, .dead, .dead, .dead, .dead, .dead, .dead, .dead, .dead, .dead, .dead, .dead, .dead, .dead, .dead, .dead, .dead, .dead, .dead, .dead], hOf [(1000000000, (.box [(.imm (.int .i64 p0q0)), (.imm (.int .i64 p0q1)), (.imm (.int .i64 p0q2)), (.imm (.ints .i64 p0q3)), (.imm (.seq 5 p0q4))])), (1000000001, (.box [(.imm (.int .i64 p1q0)), (.imm (.int .i64 p1q1)), (.imm (.int .i64 p1q2)), (.imm (.ints .i64 p1q3)), (.imm (.seq 5 p1q4))]))], [.dead, .dead, (.ptr 1000000000 0 0), (.ptr 1000000001 0 0), .dead, .dead, .dead, .dead, .dead, .dead, .dead, .dead, .dead, .dead, .dead, .dead, .dead, .dead, .dead, .dead, .dead, .dead, .dead, .dead, .dead, .dead, (.ptr 1000000000 0 4), (.imm (.seq 5 p0q4)), (.ptr 1000000001 0 4), (.imm (.seq 5 p1q4)), .dead, .dead, (.tup [])], []⟩
theorem e (d : Nat) (fuel : Nat) (p0q0 : Int) (p0q1 : Int) (p0q2 : Int) (p0q3 : List Int) (p0q4 : List D) (p1q0 : Int) (p1q1 : Int) (p1q2 : Int) (p1q3 : List Int) (p1q4 : List D) : runF Try.prog (X d) I 4 fuel 16 Try.f16 [.d (.agg [(.int .i64 p0q0), (.int .i64 p0q1), (.int .i64 p0q2), (.ints .i64 p0q3), (.seq 5 p0q4)]), .d (.agg [(.int .i64 p1q0), (.int .i64 p1q1), (.int .i64 p1q2), (.ints .i64 p1q3), (.seq 5 p1q4)])] =
  (bif ((p0q0 : Int) != p1q0) then
  some ([.one ((.bool false), false)], [])
  else
  (bif ((p0q1 : Int) != p1q1) then
  some ([.one ((.bool false), false)], [])
  else
  (bif ((p0q2 : Int) != p1q2) then
  some ([.one ((.bool false), false)], [])
  else
  (bif decide (p0q3.length < 9223372036854775808) && decide (p1q3.length < 9223372036854775808) then
  (bif (!(decide (p0q3 = p1q3))) then
  some ([.one ((.bool false), false)], [])
  else
  (bif ((((p0q4.length : Nat) : Int) : Int) != ((p1q4.length : Nat) : Int)) then
  some ([.one ((.bool false), false)], [])
  else
  L0 d fuel fuel (t0 p0q4 p1q4 p0q0 p0q1 p0q2 p0q3 p1q0 p1q1 p1q2 p1q3 0) (k0 d  fuel)))
  else
  none)))) := by kernel_rfl
theorem s0 (d : Nat) (fuel n0 : Nat) (p0q4 : List D) (p1q4 : List D) (p0q0 : Int) (p0q1 : Int) (p0q2 : Int) (p0q3 : List Int) (p1q0 : Int) (p1q1 : Int) (p1q2 : Int) (p1q3 : List Int) (x0q2 : Int) : L0 d fuel (n0 + 1) (t0 p0q4 p1q4 p0q0 p0q1 p0q2 p0q3 p1q0 p1q1 p1q2 p1q3 x0q2) (k0 d  fuel) =
  (bif (decide ((x0q2 : Int) < ((p0q4.length : Nat) : Int))) then
  (idx x0q2 p0q4.length).bind fun j5 =>
  (bif okS [.int .i64, .int .i64, .int .i64, .ints .i64, .seq 5] p0q4 j5 then
  (idx x0q2 p1q4.length).bind fun j6 =>
  (bif okS [.int .i64, .int .i64, .int .i64, .ints .i64, .seq 5] p1q4 j6 then
  (bif (treesB ((cellQ p0q4 j5 4)) && treesB ((cellQ p1q4 j6 4)) && smallT (mkT ((cellI p0q4 j5 0)) ((cellI p0q4 j5 1)) ((cellI p0q4 j5 2)) ((cellL p0q4 j5 3)) ((cellQ p0q4 j5 4))) && smallT (mkT ((cellI p1q4 j6 0)) ((cellI p1q4 j6 1)) ((cellI p1q4 j6 2)) ((cellL p1q4 j6 3)) ((cellQ p1q4 j6 4))) && decide (hgtT (mkT ((cellI p0q4 j5 0)) ((cellI p0q4 j5 1)) ((cellI p0q4 j5 2)) ((cellL p0q4 j5 3)) ((cellQ p0q4 j5 4))) < d)) then
  (bif (!(Tr.beq (mkT ((cellI p0q4 j5 0)) ((cellI p0q4 j5 1)) ((cellI p0q4 j5 2)) ((cellL p0q4 j5 3)) ((cellQ p0q4 j5 4))) (mkT ((cellI p1q4 j6 0)) ((cellI p1q4 j6 1)) ((cellI p1q4 j6 2)) ((cellL p1q4 j6 3)) ((cellQ p1q4 j6 4))))) then
  some ([.one ((.bool false), false)], [])
  else
  L0 d fuel n0 (t0 p0q4 p1q4 p0q0 p0q1 p0q2 p0q3 p1q0 p1q1 p1q2 p1q3 ((IntKind.wrap .i64 (x0q2 + 1)))) (k0 d  fuel))
  else
  none)
  else
  none)
  else
  none)
  else
  some ([.one ((.bool true), false)], [])) := by kernel_rfl
end laws_eqTree
theorem laws_eqTree.ok_of (d : Nat) (hX : ∀ E ∈ laws_eqTree.X d, CallSpec Try.prog E) (h : ∀ (k : Int) (s : Int) (n : Int) (xs : List Int) (ks : List D) (k2 : Int) (s2 : Int) (n2 : Int) (xs2 : List Int) (ks2 : List D), ((treesB ks && treesB ks2 && smallT (mkT k s n xs ks) && smallT (mkT k2 s2 n2 xs2 ks2)) && decide (hgtT (mkT k s n xs ks) < d + 1)) = true → ∃ fuel, runF Try.prog (laws_eqTree.X d) laws_eqTree.I 4 fuel 16 Try.f16 [.d (.agg [(.int .i64 k), (.int .i64 s), (.int .i64 n), (.ints .i64 xs), (.seq 5 ks)]), .d (.agg [(.int .i64 k2), (.int .i64 s2), (.int .i64 n2), (.ints .i64 xs2), (.seq 5 ks2)])] = some ([.one ((.bool (Tr.beq (mkT k s n xs ks) (mkT k2 s2 n2 xs2 ks2))), false)], [])) : CallSpec Try.prog (laws_eqTree.Ed (d + 1)) :=
  callSpec_of (d := 4) hX (by kernel_rfl) laws_eqTree.I_ok (by kernel_rfl) (by kernel_rfl) (by kernel_rfl) (fun _ _ _ _ h => by dsimp only [laws_eqTree.Ed] at h; cases h) (fun xs hp => by
    dsimp only [laws_eqTree.Ed] at hp ⊢
    split at hp
    · exact h _ _ _ _ _ _ _ _ _ _ hp
    · cases hp)
theorem laws_eqTree.okd : ∀ d, CallSpec Try.prog (laws_eqTree.Ed d)
  | 0 => laws_eqTree.Ed_zero
  | d + 1 => laws_eqTree.ok_of d (by simp [laws_eqTree.X, laws_eqTree.okd d, laws_eqIntS.ok]) fun k s n xs ks k2 s2 n2 xs2 ks2 h => by
    simp only [Bool.and_eq_true, decide_eq_true_eq] at h
    obtain ⟨⟨⟨⟨ht, hu⟩, hs⟩, hs2⟩, hd⟩ := h
    obtain ⟨ts, rfl⟩ := treesB_iff.1 ht
    obtain ⟨us, rfl⟩ := treesB_iff.1 hu
    rw [mkT_treeDs] at hs hs2 hd ⊢
    rw [mkT_treeDs]
    unfold smallT at hs hs2
    simp only [smT, Bool.and_eq_true, decide_eq_true_eq] at hs hs2
    obtain ⟨⟨hx, hk⟩, hks⟩ := hs
    obtain ⟨⟨hx2, hk2⟩, hks2⟩ := hs2
    simp only [hgtT] at hd
    refine ⟨ts.length + 1, ?_⟩
    have eT : (((ts.length : Nat) : Int) != ((us.length : Nat) : Int)) = !decide (ts.length = us.length) := by
      by_cases h : ts.length = us.length <;> simp [h]; omega
    rw [laws_eqTree.e, treeDs_length, treeDs_length, lt_of (by omega), lt_of (by omega), eT, Tr.beq, bne, bne, bne]
    cases k == k2 with
    | false => rfl
    | true =>
    cases s == s2 with
    | false => rfl
    | true =>
    cases n == n2 with
    | false => rfl
    | true =>
    rw [Bool.not_true, cond_false, cond_false, cond_false, Bool.and_self, cond_true]
    cases decide (xs = xs2) with
    | false => rfl
    | true =>
    rw [Bool.not_true, cond_false]
    by_cases hl : ts.length = us.length
    case neg =>
      rw [decide_eq_false hl, Tr.beqs_len hl]
      rfl
    rw [decide_eq_true hl, Bool.not_true, cond_false, Bool.and_self, Bool.and_self, Bool.true_and]
    refine cnt_loop (σ := Unit) (N := ts.length) (fun q j _ => laws_eqTree.L0 d (ts.length + 1) q (laws_eqTree.t0 (treeDs ts) (treeDs us) k s n xs k2 s2 n2 xs2 (j : Int)) (laws_eqTree.k0 d (ts.length + 1)))
      (fun j _ => Tr.beqs ts us = Tr.beqs (ts.drop j) (us.drop j)) ?_ ?_ (ts.length + 1) 0 () (by omega) (by omega) rfl
    · intro q _ hI
      rw [laws_eqTree.s0, treeDs_length, dge (by omega), cond_false, hI, List.drop_length, hl, List.drop_length]
      rfl
    · intro q j _ hj hI
      have hj2 : j < us.length := by omega
      have v0 := (tr_view hj).1
      have u0 := (tr_view hj2).1
      rw [laws_eqTree.s0, treeDs_length, treeDs_length, dlt hj, cond_true, idx_nat hj, Option.bind_some, v0, cond_true, idx_nat hj2, Option.bind_some, u0, cond_true, tr_tb hj, tr_tb hj2, tr_mk hj, tr_mk hj2]
      rw [show smallT ts[j] = true from sm_get hj hks, show smallT us[j] = true from sm_get hj2 hks2, decide_eq_true (p := hgtT ts[j] < d) (by have := hgt_get hj; omega), w1 (by omega)]
      rw [Tr.beqs_drop hl hj] at hI
      cases hb : Tr.beq ts[j] us[j] with
      | true => exact .inr ⟨(), by rw [hI, hb, Bool.true_and], rfl⟩
      | false => exact .inl (by rw [hI, hb, Bool.false_and]; rfl)
theorem laws_eqTree.ok : CallSpec Try.prog laws_eqTree.E := laws_eqTree.E_of laws_eqTree.okd

namespace laws_FnExactValidTree
noncomputable def E : Entry := ⟨5, true, false, fun | [.d (.agg [(.int .i64 k), (.int .i64 s), (.int .i64 n), (.ints .i64 xs), (.seq 5 ks)])] => treesB ks && smlL (mkT k s n xs ks) | _ => false, fun | [.d (.agg [(.int .i64 k), (.int .i64 s), (.int .i64 n), (.ints .i64 xs), (.seq 5 ks)])] => ([.one ((.bool true), false)], []) | _ => ([], []), fun _ => [], false, fun _ => none, none⟩
end laws_FnExactValidTree
namespace laws_FnExactValidTree
noncomputable def X : List Entry := [laws_szTree.E, laws_toTree.E, spec_ValidTree.E, impl_ValidTree.E, laws_eqTree.E]
noncomputable def I : List Inl := [⟨5, Try.f5, ⟨[13, 16, 24], [], [], [], [], []⟩⟩]
theorem I_ok : ∀ i ∈ I, Try.prog.funcs[i.f]? = some i.fn ∧ (i.fn.name == "runtime.NumGoroutine") = false := by
  intro i hi
  simp only [I, List.mem_cons, List.not_mem_nil, or_false] at hi
  subst hi
  exact ⟨by kernel_rfl, by kernel_rfl⟩
theorem e (fuel : Nat) (p0q0 : Int) (p0q1 : Int) (p0q2 : Int) (p0q3 : List Int) (p0q4 : List D) : runF Try.prog X I 0 fuel 5 Try.f5 [.d (.agg [(.int .i64 p0q0), (.int .i64 p0q1), (.int .i64 p0q2), (.ints .i64 p0q3), (.seq 5 p0q4)])] =
  (bif treesB p0q4 && smlL (mkT p0q0 p0q1 p0q2 p0q3 p0q4) && decide (0 ≤ 1048576) && decide (1048576 ≤ 1048576) then
  (bif (decide (((szT (mkT p0q0 p0q1 p0q2 p0q3 p0q4) 1048576) : Int) < 0)) then
  some ([.one ((.bool true), false)], [])
  else
  (bif treesB p0q4 && smallT (mkT p0q0 p0q1 p0q2 p0q3 p0q4) then
  (bif treesB p0q4 then
  (bif treesB p0q4 && smallT (mkT p0q0 p0q1 p0q2 p0q3 p0q4) then
  (bif treesB p0q4 then
  (bif (!((validT 8 (mkT p0q0 p0q1 p0q2 p0q3 p0q4)) == (validT 8 (mkT p0q0 p0q1 p0q2 p0q3 p0q4)))) then
  some ([.one ((.bool false), false)], [])
  else
  (bif treesB p0q4 && smallT (mkT p0q0 p0q1 p0q2 p0q3 p0q4) then
  (bif treesB p0q4 && treesB p0q4 && smallT (mkT p0q0 p0q1 p0q2 p0q3 p0q4) && smallT (mkT p0q0 p0q1 p0q2 p0q3 p0q4) then
  (bif (!(Tr.beq (mkT p0q0 p0q1 p0q2 p0q3 p0q4) (mkT p0q0 p0q1 p0q2 p0q3 p0q4))) then
  some ([.one ((.bool false), false)], [])
  else
  some ([.one ((.bool true), false)], []))
  else
  none)
  else
  none))
  else
  none)
  else
  none)
  else
  none)
  else
  none))
  else
  none) := by kernel_rfl
end laws_FnExactValidTree
theorem laws_FnExactValidTree.ok_of (hX : ∀ E ∈ laws_FnExactValidTree.X, CallSpec Try.prog E) (h : ∀ (k : Int) (s : Int) (n : Int) (xs : List Int) (ks : List D), (treesB ks && smlL (mkT k s n xs ks)) = true → ∃ fuel, runF Try.prog laws_FnExactValidTree.X laws_FnExactValidTree.I 0 fuel 5 Try.f5 [.d (.agg [(.int .i64 k), (.int .i64 s), (.int .i64 n), (.ints .i64 xs), (.seq 5 ks)])] = some ([.one ((.bool true), false)], [])) : CallSpec Try.prog laws_FnExactValidTree.E :=
  callSpec_of (d := 0) hX (by kernel_rfl) laws_FnExactValidTree.I_ok (by kernel_rfl) (by kernel_rfl) (by kernel_rfl) (fun _ _ _ _ h => by dsimp only [laws_FnExactValidTree.E] at h; cases h) (fun xs hp => by
    dsimp only [laws_FnExactValidTree.E] at hp ⊢
    split at hp
    · exact h _ _ _ _ _ hp
    · cases hp)
theorem laws_FnExactValidTree.ok : CallSpec Try.prog laws_FnExactValidTree.E := laws_FnExactValidTree.ok_of (by simp [laws_FnExactValidTree.X, laws_szTree.ok, laws_toTree.ok, spec_ValidTree.ok, impl_ValidTree.ok, laws_eqTree.ok]) fun k s n xs ks h => ⟨0, by
  simp only [Bool.and_eq_true] at h
  obtain ⟨ht, hs⟩ := h
  rw [laws_FnExactValidTree.e, ht, hs]
  by_cases hg : szT (mkT k s n xs ks) 1048576 < 0
  · rw [decide_eq_true hg]; rfl
  · obtain ⟨hz, _⟩ := szT_small _ _ hs (by decide) (by decide) hg
    rw [decide_eq_false hg, show smallT (mkT k s n xs ks) = true from hz, Tr.beq_self, beq_self_eq_true]
    rfl⟩

end Go.Ab
