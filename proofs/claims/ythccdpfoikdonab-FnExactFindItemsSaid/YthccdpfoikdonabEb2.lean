import Derived.Test.YthccdpfoikdonabEb1
import Derived.Test.YthccdpfoikdonabProg
import Derived.Test.YthccdpfoikdonabChecked
open Go Go.Ab Go.Proofs
set_option maxRecDepth 100000
set_option linter.unusedVariables false
set_option linter.unusedSimpArgs false
namespace Go.Ab
namespace impl_view_copied
noncomputable def E : Entry := ⟨59, false, false, fun | [.d (.agg [(.ints .i64 sh), (.ints .i64 da), (.int .i64 k), (.int .i64 len), (.fn false dom G)])] => axB sh da k && domB len dom | _ => false, fun | [.d (.agg [(.ints .i64 sh), (.ints .i64 da), (.int .i64 k), (.int .i64 len), (.fn false dom G)])] => ([.agg [((.ints .i64 (cpS sh k len)), true), ((.ints .i64 (cpD sh da k len G)), true)], .one ((.bool (cpB sh k len)), false)], []) | _ => ([], []), fun _ => [], true, fun _ => none⟩
end impl_view_copied
namespace impl_view_copied
noncomputable def X : List Entry := [impl_copyList.E, impl_layoutOf_j.E]
noncomputable def I : List Inl := [⟨59, Try.f59, ⟨[17, 26], [(1000009, [0, 3, 5, 6, 10, 11, 12, 13, 14, 15, 16, 17, 18, 19, 20, 21, 22, 23, 24, 25, 26, 27, 28, 29, 30, 31, 32, 33, 34, 35, 36, 37, 38, 39, 40, 41, 42, 43, 44, 45, 46, 47, 50, 51, 52, 53, 54, 55, 56, 57, 58, 59, 60, 61, 62, 63, 64, 65, 66, 67, 68, 69, 70, 71, 72, 73, 74, 75, 76, 77, 78, 79, 80, 81, 82, 83, 84, 85, 86, 87, 88, 89, 90, 91, 92, 93, 94, 95])], [], [(7, [0, 2, 5, 6, 8, 1, 3, 4, 12, 7, 9, 10, 11, 13]), (12, [0, 2, 3, 1, 4, 5, 6, 7]), (14, [0, 1, 2, 3, 5, 6, 9, 11, 13, 15, 4, 7, 8, 10, 12, 14, 16, 17, 18, 19, 20])], [], []⟩⟩]
theorem I_ok : ∀ i ∈ I, Try.prog.funcs[i.f]? = some i.fn ∧ (i.fn.name == "runtime.NumGoroutine") = false := by
  intro i hi
  simp only [I, List.mem_cons, List.not_mem_nil, or_false] at hi
  subst hi
  exact ⟨by kernel_rfl, by kernel_rfl⟩
noncomputable abbrev L0 (fuel n : Nat) (s : St) (k : Kont) := lAt Try.prog X I fuel true 0 false 59 (bodyOf Try.f59) [1, 1, 1, 1, 1, 1, 1, 0, 1, 0] n s k
noncomputable abbrev k0  (fuel : Nat) : Kont := (kAt Try.prog X I fuel true 0 false 59 (bodyOf Try.f59) [1, 1, 1, 1, 1, 1, 1, 0, 1, 0] [] (endK Try.prog Try.f59))
noncomputable def t0 (p0q0 : List Int) (j1 : Nat) (p0q3 : Int) (p0q1 : List Int) (p0q2 : Int) (p0q4d : List Q → Bool) (p0q4g : List Q → Int) (x0q0 : Int) (x0q1 : Int) (x0q3 : Int) (x0q11 : List Int) : St := ⟨[.dead, (.ptr 1000000000 0 0), (.ptr 1000000001 0 0), .dead, (.all 1000000002 1), .dead, .dead, (.all 1000000003 1), (.imm (.int .i64 x0q0)), (.imm (.int .i64 x0q1)), .dead, .dead, .dead, .dead, .dead, .dead, .dead, .dead, .dead, .dead, .dead, .dead, .dead, .dead, .dead, .dead, .dead, .dead, .dead, .dead, .dead, .dead, .dead, .dead, .dead, .dead, .dead, .dead, .dead, .dead, .dead, .dead, .dead, .dead, .dead, .dead, .dead, .dead, (.imm (.int .i64 (((List.replicate ((volW ((p0q0.set j1 p0q3)))).toNat (0 : Int)).length : Nat) : Int))), (.imm (.int .i64 x0q3)), .dead, .dead, .dead, .dead, .dead, .dead, .dead, .dead, .dead, .dead, .dead, .dead, .dead, .dead, .dead, .dead, .dead, .dead, .dead, .dead, .dead, .dead, .dead, .dead, .dead, .dead, .dead, .dead, .dead, .dead, .dead, .dead, .dead, .dead, .dead, .dead, .dead, .dead, .dead, .dead, .dead, .dead, .dead, .dead, .dead, .dead], hOf [(1000000000, (.box [(.imm (.ints .i64 p0q0)), (.imm (.ints .i64 p0q1)), (.imm (.int .i64 p0q2)), (.imm (.int .i64 p0q3)), (.imm (.fn false p0q4d p0q4g))])), (1000000001, (.box [(.imm .nils), (.imm .nils)])), (1000000002, (.ints .i64 (p0q0.set j1 p0q3))), (1000000003, (.ints .i64 x0q11))], [], []⟩
theorem e (fuel : Nat) (p0q0 : List Int) (p0q1 : List Int) (p0q2 : Int) (p0q3 : Int) (p0q4d : List Q → Bool) (p0q4g : List Q → Int) : runF Try.prog X I 0 fuel 59 Try.f59 [.d (.agg [(.ints .i64 p0q0), (.ints .i64 p0q1), (.int .i64 p0q2), (.int .i64 p0q3), (.fn false p0q4d p0q4g)])] =
  (bif szB p0q0 then
  (idx p0q2 p0q0.length).bind fun j1 =>
  (bif decide (j1 < p0q0.length) then
  (bif decide (((p0q0.set j1 p0q3)).length < 9223372036854775808) then
  (bif validS ((p0q0.set j1 p0q3)) then
  (bif decide (0 ≤ ((volW ((p0q0.set j1 p0q3))) : Int)) && decide (((volW ((p0q0.set j1 p0q3))) : Int) ≤ (volW ((p0q0.set j1 p0q3)))) && decide (((volW ((p0q0.set j1 p0q3))) : Int) ≤ 1152921504606846976) && decide (((8 : Nat) : Int) * (volW ((p0q0.set j1 p0q3))) ≤ 281474976710656) then
  (bif decide (p0q2 = ((0 : Nat) : Int)) then
  (idx p0q2 p0q0.length).bind fun j12 =>
  (p0q0[j12]?).bind fun v13 =>
  L0 fuel fuel (t0 p0q0 j1 p0q3 p0q1 p0q2 p0q4d p0q4g ((strd ((p0q0.set j1 p0q3)) 0)) v13 0 ((List.replicate ((volW ((p0q0.set j1 p0q3)))).toNat (0 : Int)))) (k0  fuel)
  else
  (bif decide (p0q2 = ((1 : Nat) : Int)) then
  (idx p0q2 p0q0.length).bind fun j10 =>
  (p0q0[j10]?).bind fun v11 =>
  L0 fuel fuel (t0 p0q0 j1 p0q3 p0q1 p0q2 p0q4d p0q4g ((strd ((p0q0.set j1 p0q3)) 1)) v11 0 ((List.replicate ((volW ((p0q0.set j1 p0q3)))).toNat (0 : Int)))) (k0  fuel)
  else
  (bif decide (p0q2 = ((2 : Nat) : Int)) then
  (idx p0q2 p0q0.length).bind fun j2 =>
  (p0q0[j2]?).bind fun v3 =>
  L0 fuel fuel (t0 p0q0 j1 p0q3 p0q1 p0q2 p0q4d p0q4g ((strd ((p0q0.set j1 p0q3)) 2)) v3 0 ((List.replicate ((volW ((p0q0.set j1 p0q3)))).toNat (0 : Int)))) (k0  fuel)
  else
  none)))
  else
  none)
  else
  some ([.agg [((.ints .i64 []), true), ((.ints .i64 []), true)], .one ((.bool false), false)], []))
  else
  none)
  else
  none)
  else
  none) := by kernel_rfl
theorem s0 (fuel n0 : Nat) (p0q0 : List Int) (j1 : Nat) (p0q3 : Int) (p0q1 : List Int) (p0q2 : Int) (p0q4d : List Q → Bool) (p0q4g : List Q → Int) (x0q0 : Int) (x0q1 : Int) (x0q3 : Int) (x0q11 : List Int) : L0 fuel (n0 + 1) (t0 p0q0 j1 p0q3 p0q1 p0q2 p0q4d p0q4g x0q0 x0q1 x0q3 x0q11) (k0  fuel) =
  (bif (decide ((x0q3 : Int) < (((List.replicate ((volW ((p0q0.set j1 p0q3)))).toNat (0 : Int)).length : Nat) : Int))) then
  (bif decide ((x0q0 : Int) = 0) then
  none
  else
  (bif decide ((x0q0 : Int) = 0) then
  none
  else
  (bif decide ((p0q3 : Int) = 0) then
  none
  else
  (bif (p0q4d [Q.i ((Int.tmod (IntKind.wrap .i64 (Int.tdiv x0q3 x0q0)) p0q3))]) then
  (bif (decide ((0 : Int) ≤ (p0q4g [Q.i ((Int.tmod (IntKind.wrap .i64 (Int.tdiv x0q3 x0q0)) p0q3))]))) then
  (bif (decide (((p0q4g [Q.i ((Int.tmod (IntKind.wrap .i64 (Int.tdiv x0q3 x0q0)) p0q3))]) : Int) < x0q1)) then
  (bif decide ((p0q3 : Int) = 0) then
  none
  else
  (idx (IntKind.wrap .i64 ((IntKind.wrap .i64 ((IntKind.wrap .i64 ((IntKind.wrap .i64 ((IntKind.wrap .i64 (Int.tdiv (IntKind.wrap .i64 (Int.tdiv x0q3 x0q0)) p0q3)) * x0q1)) + (p0q4g [Q.i ((Int.tmod (IntKind.wrap .i64 (Int.tdiv x0q3 x0q0)) p0q3))]))) * x0q0)) + (Int.tmod x0q3 x0q0))) p0q1.length).bind fun j7 =>
  (p0q1[j7]?).bind fun v8 =>
  (idx x0q3 x0q11.length).bind fun j9 =>
  (bif decide (j9 < x0q11.length) then
  L0 fuel n0 (t0 p0q0 j1 p0q3 p0q1 p0q2 p0q4d p0q4g x0q0 x0q1 ((IntKind.wrap .i64 (x0q3 + 1))) ((x0q11.set j9 v8))) (k0  fuel)
  else
  none))
  else
  L0 fuel n0 (t0 p0q0 j1 p0q3 p0q1 p0q2 p0q4d p0q4g x0q0 x0q1 ((IntKind.wrap .i64 (x0q3 + 1))) x0q11) (k0  fuel))
  else
  L0 fuel n0 (t0 p0q0 j1 p0q3 p0q1 p0q2 p0q4d p0q4g x0q0 x0q1 ((IntKind.wrap .i64 (x0q3 + 1))) x0q11) (k0  fuel))
  else
  none))))
  else
  some ([.agg [((.ints .i64 (p0q0.set j1 p0q3)), true), ((.ints .i64 x0q11), true)], .one ((.bool true), false)], [])) := by kernel_rfl
end impl_view_copied
theorem impl_view_copied.ok_of (hX : ∀ E ∈ impl_view_copied.X, CallSpec Try.prog E) (h : ∀ (sh : List Int) (da : List Int) (k : Int) (len : Int) (dom : List Q → Bool) (G : List Q → Int), (axB sh da k && domB len dom) = true → ∃ fuel, runF Try.prog impl_view_copied.X impl_view_copied.I 0 fuel 59 Try.f59 [.d (.agg [(.ints .i64 sh), (.ints .i64 da), (.int .i64 k), (.int .i64 len), (.fn false dom G)])] = some ([.agg [((.ints .i64 (cpS sh k len)), true), ((.ints .i64 (cpD sh da k len G)), true)], .one ((.bool (cpB sh k len)), false)], [])) : CallSpec Try.prog impl_view_copied.E :=
  callSpec_of (d := 0) hX (by kernel_rfl) impl_view_copied.I_ok (by kernel_rfl) (by kernel_rfl) (by kernel_rfl) (fun _ _ _ _ h => by dsimp only [impl_view_copied.E] at h; cases h) (fun xs hp => by
    dsimp only [impl_view_copied.E] at hp ⊢
    split at hp
    · exact h _ _ _ _ _ _ hp
    · cases hp)
theorem impl_view_copied.loop (fuel : Nat) (sh da : List Int) (k l : Nat) (dom : List Q → Bool) (G : List Q → Int) (ax : Ax sh k) (hd : da.length = befN sh k * lenN sh k * behN sh k) (al : AlOk sh k (cpL sh k l G)) (hdom : domB (l : Int) dom = true)
    (hv : (volW (sh.set k (l : Int))).toNat = befN sh k * l * behN sh k) (hf : 60 < fuel) :
    impl_view_copied.L0 fuel fuel (impl_view_copied.t0 sh k (l : Int) da (k : Int) dom G ((behN sh k : Nat) : Int) ((lenN sh k : Nat) : Int) 0 (List.replicate (volW (sh.set k (l : Int))).toNat 0)) (impl_view_copied.k0 fuel) =
    some ([.agg [((.ints .i64 (sh.set k (l : Int))), true), ((.ints .i64 (alA sh da k (cpL sh k l G))), true)], .one ((.bool true), false)], []) := by
  have hll : (cpL sh k l G).length = l := by simp [cpL, tab_length]
  have hle := al.le
  have hlen : (alA sh da k (cpL sh k l G)).length = befN sh k * l * behN sh k := by rw [alA_length, hll]
  have hlk := ax.lt
  have hdl := ax.le
  rw [hll] at hle
  refine run_loop (N := befN sh k * l * behN sh k) (fun n j out => impl_view_copied.L0 fuel n (impl_view_copied.t0 sh k (l : Int) da (k : Int) dom G ((behN sh k : Nat) : Int) ((lenN sh k : Nat) : Int) (j : Int) out) (impl_view_copied.k0 fuel)) (fun j out => out = part (alA sh da k (cpL sh k l G)) j) ?_ ?_ fuel 0 _ (by omega) (by omega) (by rw [part_zero, hlen, hv])
  · intro n out ho
    rw [← hlen, part_all] at ho
    rw [impl_view_copied.s0, List.length_replicate, hv, dge (by omega), ho]
    rfl
  · intro n j out hj ho
    obtain ⟨d1, d2, d3, d4⟩ := dec3 hj
    have hM : behN sh k ≠ 0 := by omega
    have hL : l ≠ 0 := by omega
    have hol : out.length = befN sh k * l * behN sh k := by rw [ho, part_length (by omega), hlen]
    have hg := alA_get (sh := sh) (da := da) (k := k) (ls := cpL sh k l G) d1 (by rw [hll]; exact d2) d3
    rw [hll, d4] at hg
    have hcl : (cpL sh k l G).getD (j / behN sh k % l) 0 = cpF (lenN sh k) G (j / behN sh k % l) := by
      unfold cpL
      rw [Int.toNat_natCast, Int.toNat_natCast, tab_getD d2]
    rw [hcl] at hg
    have hdm := domB_get hdom (i := j / behN sh k % l) (by simpa using d2)
    have hjM : j / behN sh k ≤ 1000 := Nat.le_trans (Nat.div_le_self _ _) (by omega)
    have hjL : j / behN sh k / l ≤ 1000 := Nat.le_trans (Nat.div_le_self _ _) hjM
    rw [impl_view_copied.s0, List.length_replicate, hv, dlt hj, decide_eq_false (p := ((behN sh k : Nat) : Int) = 0) (by omega), decide_eq_false (p := ((l : Nat) : Int) = 0) (by omega), tdivN, wN (n := j / behN sh k) (by omega), tmodN, tmodN, hdm, tdivN, wN (n := j / behN sh k / l) (by omega), w1 (j := j) (by omega)]
    simp only [cond_true, cond_false]
    generalize hG : G [Q.i ((j / behN sh k % l : Nat) : Int)] = g
    unfold cpF at hg
    rw [hG] at hg
    by_cases h0 : 0 ≤ g
    · by_cases h1 : g < ((lenN sh k : Nat) : Int)
      · obtain ⟨p, rfl⟩ : ∃ p : Nat, g = p := ⟨g.toNat, by omega⟩
        have hpl : p < lenN sh k := by omega
        obtain ⟨e2, _, _, _⟩ := enc3 d1 hpl d3
        have hx : j / behN sh k / l * lenN sh k + p ≤ 1000000000 := by
          have h1 := ax.len_le
          have : j / behN sh k / l * lenN sh k ≤ 1000 * 60 := Nat.mul_le_mul hjL h1
          omega
        rw [decide_eq_true h0, decide_eq_true h1, wIdx hx (by omega), idx_nat (by omega), idx_nat (by omega)]
        simp only [cond_true, Option.bind_some, getD_get (show (j / behN sh k / l * lenN sh k + p) * behN sh k + j % behN sh k < da.length by omega), show j < out.length by omega, decide_true]
        refine ⟨_, ?_, rfl⟩
        rw [ho, part_set (by omega)]
        rw [hg]
        simp [atV, h1]
      · rw [decide_eq_true h0, decide_eq_false h1]
        refine ⟨_, ?_, rfl⟩
        rw [ho, part_same (by omega)]
        rw [hg]
        simp [atV, h1]
    · rw [decide_eq_false h0]
      refine ⟨_, ?_, rfl⟩
      rw [ho, part_same (by omega)]
      rw [hg]
      simp [atV, h0]
theorem impl_view_copied.ok : CallSpec Try.prog impl_view_copied.E := impl_view_copied.ok_of (by simp [impl_view_copied.X, impl_copyList.ok, impl_layoutOf_j.ok]) fun sh da k len dom G h => ⟨61, by
  simp only [Bool.and_eq_true, axB] at h
  obtain ⟨e1, e2⟩ := axOk_nat h.1.2
  have hv := validA_inv h.1.1
  have ax := ax_of hv.1 e2
  have hd := ax_data h.1.1 e2
  have hr := ax.rank
  rw [impl_view_copied.e, szB_of (xs := sh) (by omega)]
  simp only [cpS, cpD, cpB]
  generalize k.toNat = j at *
  subst e1
  rw [idx_nat e2]
  simp only [cond_true, Option.bind_some, e2, decide_true]
  rw [lt_of (xs := sh.set j len) (by simp; omega), cond_true]
  cases hs : validS (sh.set j len) with
  | false => rfl
  | true =>
    have ax2 := ax_of hs (k := j) (by simpa using e2)
    have hb := vol_bd hs
    have hbnd := allB_get ax2.bnd ax2.lt
    have hl0 : (sh.set j len).getD j 0 = len := by simp [e2]
    rw [hl0] at hbnd
    obtain ⟨l, rfl⟩ : ∃ l : Nat, len = l := ⟨len.toNat, by omega⟩
    have hst := strd_beh ax2
    have hvol := ax2.vol
    have hle := ax2.le
    rw [len_set e2, bef_set, beh_set, Int.toNat_natCast] at hvol hle
    rw [beh_set] at hst
    have al : AlOk sh j (cpL sh j l G) := by
      have hll : (cpL sh j l G).length = l := by simp [cpL, tab_length]
      refine ⟨by omega, by rw [hll]; exact hle, fun p hp => ?_⟩
      simp only [cpL, tab, List.mem_map, List.mem_range, Int.toNat_natCast] at hp
      obtain ⟨i, hi, rfl⟩ := hp
      unfold cpF
      by_cases h0 : 0 ≤ G [.i (i : Int)]
      · by_cases h1 : G [.i (i : Int)] < ((lenN sh j : Nat) : Int)
        · simp only [decide_eq_true h0, decide_eq_true h1, Bool.and_self, cond_true]; exact h1
        · simp only [decide_eq_true h0, decide_eq_false h1, Bool.and_false, cond_false]; omega
      · simp only [decide_eq_false h0, Bool.false_and, cond_false]; omega
    have key := impl_view_copied.loop 61 sh da j l dom G ax hd al h.2 (by rw [hvol]; rfl) (by omega)
    rw [mkOk hb.1 (by omega)]
    simp only [cond_true]
    match j, e2, hst, key with
    | 0, e2, hst, key => rw [decide_eq_true (p := ((0 : Nat) : Int) = ((0 : Nat) : Int)) rfl, hst, getD_get e2, ax.len]; exact key
    | 1, e2, hst, key => rw [decide_eq_false (p := ((1 : Nat) : Int) = ((0 : Nat) : Int)) (by omega), decide_eq_true (p := ((1 : Nat) : Int) = ((1 : Nat) : Int)) rfl, hst, getD_get e2, ax.len]; exact key
    | 2, e2, hst, key => rw [decide_eq_false (p := ((2 : Nat) : Int) = ((0 : Nat) : Int)) (by omega), decide_eq_false (p := ((2 : Nat) : Int) = ((1 : Nat) : Int)) (by omega), decide_eq_true (p := ((2 : Nat) : Int) = ((2 : Nat) : Int)) rfl, hst, getD_get e2, ax.len]; exact key
    | j + 3, e2, _, _ => exact absurd e2 (by omega)⟩

namespace impl_withPlaces
noncomputable def E : Entry := ⟨47, false, false, fun | [.d (.agg [(.ints .i64 sh), (.ints .i64 da)]), .d (.int .i64 k), .d (.ints .i64 ls)] => axB sh da k && szB ls | _ => false, fun | [.d (.agg [(.ints .i64 sh), (.ints .i64 da)]), .d (.int .i64 k), .d (.ints .i64 ls)] => ([.agg [((.ints .i64 (wpS sh k ls)), true), ((.ints .i64 (wpD sh da k ls)), true)], .one ((.bool (wpB sh k ls)), false)], []) | _ => ([], []), fun _ => [], true, fun _ => none⟩
end impl_withPlaces
namespace impl_withPlaces
noncomputable def X : List Entry := [impl_withPlaces_1.E, impl_view_copied.E]
noncomputable def I : List Inl := [⟨47, Try.f47, ⟨[16], [], [(1, [5])], [], [], []⟩⟩]
theorem I_ok : ∀ i ∈ I, Try.prog.funcs[i.f]? = some i.fn ∧ (i.fn.name == "runtime.NumGoroutine") = false := by
  intro i hi
  simp only [I, List.mem_cons, List.not_mem_nil, or_false] at hi
  subst hi
  exact ⟨by kernel_rfl, by kernel_rfl⟩
theorem e (fuel : Nat) (p0q0 : List Int) (p0q1 : List Int) (p1 : Int) (p2 : List Int) : runF Try.prog X I 0 fuel 47 Try.f47 [.d (.agg [(.ints .i64 p0q0), (.ints .i64 p0q1)]), .d (.int .i64 p1), .d (.ints .i64 p2)] =
  (bif axB p0q0 p0q1 p1 && domB (((p2.length : Nat) : Int)) ((lsQ p2)) then
  some ([.agg [((.ints .i64 (cpS p0q0 p1 (((p2.length : Nat) : Int)))), true), ((.ints .i64 (cpD p0q0 p0q1 p1 (((p2.length : Nat) : Int)) ((q1v (lsI p2))))), true)], .one ((.bool (cpB p0q0 p1 (((p2.length : Nat) : Int)))), false)], [])
  else
  none) := by kernel_rfl
end impl_withPlaces
theorem impl_withPlaces.ok_of (hX : ∀ E ∈ impl_withPlaces.X, CallSpec Try.prog E) (h : ∀ (sh : List Int) (da : List Int) (k : Int) (ls : List Int), (axB sh da k && szB ls) = true → ∃ fuel, runF Try.prog impl_withPlaces.X impl_withPlaces.I 0 fuel 47 Try.f47 [.d (.agg [(.ints .i64 sh), (.ints .i64 da)]), .d (.int .i64 k), .d (.ints .i64 ls)] = some ([.agg [((.ints .i64 (wpS sh k ls)), true), ((.ints .i64 (wpD sh da k ls)), true)], .one ((.bool (wpB sh k ls)), false)], [])) : CallSpec Try.prog impl_withPlaces.E :=
  callSpec_of (d := 0) hX (by kernel_rfl) impl_withPlaces.I_ok (by kernel_rfl) (by kernel_rfl) (by kernel_rfl) (fun _ _ _ _ h => by dsimp only [impl_withPlaces.E] at h; cases h) (fun xs hp => by
    dsimp only [impl_withPlaces.E] at hp ⊢
    split at hp
    · exact h _ _ _ _ hp
    · cases hp)
theorem impl_withPlaces.ok : CallSpec Try.prog impl_withPlaces.E := impl_withPlaces.ok_of (by simp [impl_withPlaces.X, impl_withPlaces_1.ok, impl_view_copied.ok]) fun sh da k ls h => ⟨0, by
  simp only [Bool.and_eq_true] at h
  rw [impl_withPlaces.e, h.1, ls_dom]
  rfl⟩

namespace impl_RepeatAxis
noncomputable def E : Entry := ⟨20, false, false, fun | [.d (.agg [(.ints .i64 sh), (.ints .i64 da)]), .d (.int .i64 k), .d (.ints .i64 ts)] => decide (sh.length < 9223372036854775808) && decide (da.length < 9223372036854775808) && decide (ts.length < 9223372036854775808) | _ => false, fun | [.d (.agg [(.ints .i64 sh), (.ints .i64 da)]), .d (.int .i64 k), .d (.ints .i64 ts)] => ([.agg [((.ints .i64 (rpS sh da k ts)), true), ((.ints .i64 (rpD sh da k ts)), true)], .one ((.bool (rpB sh da k ts)), false)], []) | _ => ([], []), fun _ => [], true, fun _ => none⟩
end impl_RepeatAxis
namespace impl_RepeatAxis
noncomputable def X : List Entry := [impl_axisLength.E, slices_Repeat_int_int.E, impl_withPlaces.E]
noncomputable def I : List Inl := [⟨20, Try.f20, ⟨[46, 52], [(1000006, [0, 2, 4, 5, 7, 8, 9, 11, 12, 13, 14, 15, 16, 17, 18, 19, 20, 21, 22, 23, 24, 25, 26, 27, 31, 32, 33, 34, 35, 36, 37, 38, 39, 40, 41, 42, 43, 44, 45, 46, 47, 48, 49, 50, 51, 52, 53, 54])], [], [], [44], []⟩⟩]
theorem I_ok : ∀ i ∈ I, Try.prog.funcs[i.f]? = some i.fn ∧ (i.fn.name == "runtime.NumGoroutine") = false := by
  intro i hi
  simp only [I, List.mem_cons, List.not_mem_nil, or_false] at hi
  subst hi
  exact ⟨by kernel_rfl, by kernel_rfl⟩
noncomputable abbrev L0 (fuel n : Nat) (s : St) (k : Kont) := lAt Try.prog X I fuel true 0 false 20 (bodyOf Try.f20) [1, 1, 1, 1, 0, 1, 0] n s k
noncomputable abbrev k0  (fuel : Nat) : Kont := (kAt Try.prog X I fuel true 0 false 20 (bodyOf Try.f20) [1, 1, 1, 1, 0, 1, 0] [] (endK Try.prog Try.f20))
noncomputable def t0 (p1 : Int) (p2 : List Int) (p0q0 : List Int) (p0q1 : List Int) : St := ⟨[.dead, (.imm (.int .i64 p1)), .dead, (.ptr 1000000000 0 0), .dead, .dead, (.ptr 1000000001 0 0), .dead, .dead, .dead, (.imm .nils), .dead, .dead, .dead, .dead, .dead, .dead, .dead, .dead, .dead, .dead, .dead, .dead, .dead, .dead, .dead, .dead, .dead, (.imm (.ints .i64 p2)), (.imm (.int .i64 ((p2.length : Nat) : Int))), (.imm (.int .i64 0)), .dead, .dead, .dead, .dead, .dead, .dead, .dead, .dead, .dead, .dead, .dead, .dead, .dead, .dead, .dead, .dead, .dead, .dead, .dead, .dead, .dead, .dead, .dead, .dead], hOf [(1000000000, (.box [(.imm (.ints .i64 p0q0)), (.imm (.ints .i64 p0q1))])), (1000000001, (.box [(.imm .nils), (.imm .nils)]))], [], []⟩
noncomputable abbrev L1 (fuel n : Nat) (s : St) (k : Kont) := lAt Try.prog X I fuel true 0 false 20 (bodyOf Try.f20) [1, 1, 1, 1, 0, 1, 0] n s k
noncomputable abbrev k1  (fuel : Nat) : Kont := (kAt Try.prog X I fuel true 0 false 20 (bodyOf Try.f20) [1, 1, 1, 1, 0, 1, 0] [] (endK Try.prog Try.f20))
noncomputable def t1 (p1 : Int) (p2 : List Int) (p0q0 : List Int) (p0q1 : List Int) (x1q3 : Int) (x1q6 : List Int) : St := ⟨[.dead, (.imm (.int .i64 p1)), .dead, (.ptr 1000000000 0 0), .dead, .dead, (.ptr 1000000001 0 0), .dead, .dead, .dead, (.all 1000000002 1), .dead, .dead, .dead, .dead, .dead, .dead, .dead, .dead, .dead, .dead, .dead, .dead, .dead, .dead, .dead, .dead, .dead, (.imm (.ints .i64 p2)), (.imm (.int .i64 ((p2.length : Nat) : Int))), (.imm (.int .i64 x1q3)), .dead, .dead, .dead, .dead, .dead, .dead, .dead, .dead, .dead, .dead, .dead, .dead, .dead, .dead, .dead, .dead, .dead, .dead, .dead, .dead, .dead, .dead, .dead, .dead], hOf [(1000000000, (.box [(.imm (.ints .i64 p0q0)), (.imm (.ints .i64 p0q1))])), (1000000001, (.box [(.imm .nils), (.imm .nils)])), (1000000002, (.ints .i64 x1q6))], [], []⟩
theorem e (fuel : Nat) (p0q0 : List Int) (p0q1 : List Int) (p1 : Int) (p2 : List Int) : runF Try.prog X I 0 fuel 20 Try.f20 [.d (.agg [(.ints .i64 p0q0), (.ints .i64 p0q1)]), .d (.int .i64 p1), .d (.ints .i64 p2)] =
  (bif decide (p0q0.length < 9223372036854775808) && decide (p0q1.length < 9223372036854775808) then
  (bif (!(axB p0q0 p0q1 p1)) then
  some ([.agg [((.ints .i64 []), true), ((.ints .i64 []), true)], .one ((.bool false), false)], [])
  else
  (bif ((((p2.length : Nat) : Int) : Int) != (axL p0q0 p0q1 p1)) then
  some ([.agg [((.ints .i64 []), true), ((.ints .i64 []), true)], .one ((.bool false), false)], [])
  else
  L0 fuel fuel (t0 p1 p2 p0q0 p0q1) (k0  fuel)))
  else
  none) := by kernel_rfl
theorem s0 (fuel n0 : Nat) (p1 : Int) (p2 : List Int) (p0q0 : List Int) (p0q1 : List Int) : L0 fuel (n0 + 1) (t0 p1 p2 p0q0 p0q1) (k0  fuel) =
  (bif (decide ((0 : Int) < ((p2.length : Nat) : Int))) then
  (idx 0 p2.length).bind fun j3 =>
  (p2[j3]?).bind fun v4 =>
  (bif (decide ((v4 : Int) < 0)) then
  some ([.agg [((.ints .i64 []), true), ((.ints .i64 []), true)], .one ((.bool false), false)], [])
  else
  (bif (decide ((v4 : Int) > 60)) then
  some ([.agg [((.ints .i64 []), true), ((.ints .i64 []), true)], .one ((.bool false), false)], [])
  else
  (bif decide (((([0] : List Int)) : List Int).length = 1) && decide (0 ≤ v4) && decide (v4 ≤ 60) then
  (bif fits (List.replicate v4.toNat ((([0] : List Int)).getD 0 0)).length 8 then
  L1 fuel n0 (t1 p1 p2 p0q0 p0q1 ((IntKind.wrap .i64 (0 + 1))) ((List.replicate v4.toNat ((([0] : List Int)).getD 0 0)))) (k1  fuel)
  else
  none)
  else
  none)))
  else
  (bif axB p0q0 p0q1 p1 && szB (([] : List Int)) then
  some ([.agg [((.ints .i64 (wpS p0q0 p1 (([] : List Int)))), true), ((.ints .i64 (wpD p0q0 p0q1 p1 (([] : List Int)))), true)], .one ((.bool (wpB p0q0 p1 (([] : List Int)))), false)], [])
  else
  none)) := by kernel_rfl
theorem s1 (fuel n1 : Nat) (p1 : Int) (p2 : List Int) (p0q0 : List Int) (p0q1 : List Int) (x1q3 : Int) (x1q6 : List Int) : L1 fuel (n1 + 1) (t1 p1 p2 p0q0 p0q1 x1q3 x1q6) (k1  fuel) =
  (bif (decide ((x1q3 : Int) < ((p2.length : Nat) : Int))) then
  (idx x1q3 p2.length).bind fun j9 =>
  (p2[j9]?).bind fun v10 =>
  (bif (decide ((v10 : Int) < 0)) then
  some ([.agg [((.ints .i64 []), true), ((.ints .i64 []), true)], .one ((.bool false), false)], [])
  else
  (bif (decide ((v10 : Int) > 60)) then
  some ([.agg [((.ints .i64 []), true), ((.ints .i64 []), true)], .one ((.bool false), false)], [])
  else
  (bif decide (((([x1q3] : List Int)) : List Int).length = 1) && decide (0 ≤ v10) && decide (v10 ≤ 60) then
  (bif fits (x1q6.length + (List.replicate v10.toNat ((([x1q3] : List Int)).getD 0 0)).length) 8 then
  L1 fuel n1 (t1 p1 p2 p0q0 p0q1 ((IntKind.wrap .i64 (x1q3 + 1))) ((x1q6 ++ (List.replicate v10.toNat ((([x1q3] : List Int)).getD 0 0))))) (k1  fuel)
  else
  none)
  else
  none)))
  else
  (bif axB p0q0 p0q1 p1 && szB x1q6 then
  some ([.agg [((.ints .i64 (wpS p0q0 p1 x1q6)), true), ((.ints .i64 (wpD p0q0 p0q1 p1 x1q6)), true)], .one ((.bool (wpB p0q0 p1 x1q6)), false)], [])
  else
  none)) := by kernel_rfl
end impl_RepeatAxis
theorem impl_RepeatAxis.ok_of (hX : ∀ E ∈ impl_RepeatAxis.X, CallSpec Try.prog E) (h : ∀ (sh : List Int) (da : List Int) (k : Int) (ts : List Int), (decide (sh.length < 9223372036854775808) && decide (da.length < 9223372036854775808) && decide (ts.length < 9223372036854775808)) = true → ∃ fuel, runF Try.prog impl_RepeatAxis.X impl_RepeatAxis.I 0 fuel 20 Try.f20 [.d (.agg [(.ints .i64 sh), (.ints .i64 da)]), .d (.int .i64 k), .d (.ints .i64 ts)] = some ([.agg [((.ints .i64 (rpS sh da k ts)), true), ((.ints .i64 (rpD sh da k ts)), true)], .one ((.bool (rpB sh da k ts)), false)], [])) : CallSpec Try.prog impl_RepeatAxis.E :=
  callSpec_of (d := 0) hX (by kernel_rfl) impl_RepeatAxis.I_ok (by kernel_rfl) (by kernel_rfl) (by kernel_rfl) (fun _ _ _ _ h => by dsimp only [impl_RepeatAxis.E] at h; cases h) (fun xs hp => by
    dsimp only [impl_RepeatAxis.E] at hp ⊢
    split at hp
    · exact h _ _ _ _ hp
    · cases hp)
theorem impl_RepeatAxis.wp (sh da : List Int) (j : Nat) (ts : List Int) (hj : j < sh.length) (hv : validA sh da = true) (hl : ts.length = lenN sh j) (ht : allB ts 0 60 = true) :
    szB (rpL ts) = true ∧ wpS sh (j : Int) (rpL ts) = rpS sh da j ts ∧ wpD sh da (j : Int) (rpL ts) = rpD sh da j ts ∧ wpB sh (j : Int) (rpL ts) = rpB sh da j ts := by
  obtain ⟨r1, r2⟩ := rpC_bd ht ts.length (Nat.le_refl _)
  have ax := ax_of (validA_inv hv).1 hj
  have hL := ax.len_le
  have hx := axB_of hv hj
  have hB : rpB sh da j ts = validS (alS sh j (rpL ts)) := by
    simp only [rpB, hx, Int.toNat_natCast, decide_eq_true hl, ht, Bool.true_and]
  obtain ⟨w1, w2, w3⟩ := wp_eq (sh := sh) (da := da) (ls := rpL ts) (j := j) fun x hx => .inr (by have := r2 x hx; omega)
  refine ⟨szB_of ?_, ?_, ?_, ?_⟩
  · have : (rpL ts).length ≤ ts.length * 60 := r1
    omega
  · rw [w1]; unfold rpS; rw [hB]
  · rw [w2]; unfold rpD; rw [hB]
  · rw [w3, hB]
theorem impl_RepeatAxis.loop (fuel : Nat) (sh da : List Int) (j : Nat) (ts : List Int) (hj : j < sh.length) (hv : validA sh da = true) (hl : ts.length = lenN sh j) (i0 : Nat) (hi0 : i0 ≤ ts.length) (h0 : ∀ i, i < i0 → 0 ≤ ts.getD i 0 ∧ ts.getD i 0 ≤ 60) (hf : 61 < fuel) (n1 : Nat) (hn : ts.length - i0 < n1) :
    impl_RepeatAxis.L1 fuel n1 (impl_RepeatAxis.t1 (j : Int) ts sh da (i0 : Int) (rpC ts i0)) (impl_RepeatAxis.k1 fuel) = some ([.agg [((.ints .i64 (rpS sh da j ts)), true), ((.ints .i64 (rpD sh da j ts)), true)], .one ((.bool (rpB sh da j ts)), false)], []) := by
  have ax := ax_of (validA_inv hv).1 hj
  have hL := ax.len_le
  have hx := axB_of hv hj
  have hno : ∀ i, i < ts.length → ¬ (0 ≤ ts.getD i 0 ∧ ts.getD i 0 ≤ 60) → rpB sh da (j : Int) ts = false := by
    intro i hi hn
    cases ht : allB ts 0 60 with
    | true => exact absurd (allB_inv ht hi) hn
    | false => simp only [rpB, ht, Bool.false_and, Bool.and_false]
  have hlen : ∀ i, i ≤ ts.length → (∀ q, q < i → 0 ≤ ts.getD q 0 ∧ ts.getD q 0 ≤ 60) → (rpC ts i).length ≤ i * 60 := by
    intro i
    induction i with
    | zero => intro _ _; simp [rpC]
    | succ i ih =>
      intro hi hq
      have h1 := ih (by omega) (fun q hq' => hq q (by omega))
      have h2 := hq i (by omega)
      simp only [rpC, List.length_append, List.length_replicate]
      omega
  refine cnt_loop (N := ts.length) (fun n i out => impl_RepeatAxis.L1 fuel n (impl_RepeatAxis.t1 (j : Int) ts sh da (i : Int) out) (impl_RepeatAxis.k1 fuel)) (fun i out => out = rpC ts i ∧ ∀ q, q < i → 0 ≤ ts.getD q 0 ∧ ts.getD q 0 ≤ 60) ?_ ?_ n1 i0 (rpC ts i0) hi0 hn ⟨rfl, h0⟩
  · rintro n out ⟨rfl, hq⟩
    have ht : allB ts 0 60 = true := allB_iff.2 fun v hv => by
      obtain ⟨i, hi, rfl⟩ := List.getElem_of_mem hv
      have := hq i hi
      simpa [hi] using this
    obtain ⟨w0, w1, w2, w3⟩ := impl_RepeatAxis.wp sh da j ts hj hv hl ht
    unfold rpL at w0 w1 w2 w3
    rw [impl_RepeatAxis.s1, dge (by omega), cond_false, hx, w0, w1, w2, w3]
    rfl
  · rintro n i out hi ⟨rfl, hq⟩
    have h60 := hlen i (by omega) hq
    rw [impl_RepeatAxis.s1, dlt hi, cond_true, idx_nat hi, w1 (by omega)]
    simp only [Option.bind_some, getD_get hi]
    by_cases c1 : 0 ≤ ts.getD i 0
    · by_cases c2 : ts.getD i 0 ≤ 60
      · refine .inr ⟨rpC ts (i + 1), ⟨rfl, fun q hq' => ?_⟩, ?_⟩
        · by_cases e : q = i
          · subst e; exact ⟨c1, c2⟩
          · exact hq q (by omega)
        · rw [decide_eq_false (p := ts.getD i 0 < 0) (by omega), decide_eq_false (p := ts.getD i 0 > 60) (by omega), decide_eq_true c1, decide_eq_true c2, fitsOk (by rw [List.length_replicate]; omega)]
          rfl
      · refine .inl ?_
        have := hno i hi (fun h => c2 h.2)
        rw [decide_eq_false (p := ts.getD i 0 < 0) (by omega), decide_eq_true (p := ts.getD i 0 > 60) (by omega)]
        simp only [rpS, rpD, this]
        rfl
    · refine .inl ?_
      have := hno i hi (fun h => c1 h.1)
      rw [decide_eq_true (p := ts.getD i 0 < 0) (by omega)]
      simp only [rpS, rpD, this]
      rfl
theorem impl_RepeatAxis.ok : CallSpec Try.prog impl_RepeatAxis.E := impl_RepeatAxis.ok_of (by simp [impl_RepeatAxis.X, impl_axisLength.ok, slices_Repeat_int_int.ok, impl_withPlaces.ok]) fun sh da k ts h => by
  obtain ⟨F, hF⟩ : ∃ F : Nat, 100 < F := ⟨101, by omega⟩
  refine ⟨F + 1, ?_⟩
  simp only [Bool.and_eq_true] at h
  rw [impl_RepeatAxis.e, h.1.1, h.1.2]
  cases hb : axB sh da k with
  | false =>
    have : rpB sh da k ts = false := by simp only [rpB, hb, Bool.false_and]
    simp only [rpS, rpD, this]
    rfl
  | true =>
    obtain ⟨j, rfl, hj, hv, ax, hd, hl⟩ := axB_inv hb
    have hL := ax.len_le
    rw [hl]
    simp only [cond_true, Bool.and_self, Bool.not_true, cond_false]
    by_cases c1 : ts.length = lenN sh j
    · rw [show (((ts.length : Nat) : Int) != ((lenN sh j : Nat) : Int)) = false by simp [c1], cond_false]
      rw [impl_RepeatAxis.s0]
      by_cases h0 : ts.length = 0
      · have e : ts = [] := List.length_eq_zero_iff.1 h0
        obtain ⟨w0, w1, w2, w3⟩ := impl_RepeatAxis.wp sh da j ts hj hv c1 (by rw [e]; rfl)
        have e2 : rpL ts = [] := by rw [e]; rfl
        rw [e2] at w0 w1 w2 w3
        rw [decide_eq_false (p := (0 : Int) < ((ts.length : Nat) : Int)) (by omega), cond_false, hb, w0, w1, w2, w3]
        rfl
      · have hi : 0 < ts.length := by omega
        rw [decide_eq_true (p := (0 : Int) < ((ts.length : Nat) : Int)) (by omega), cond_true, show idx 0 ts.length = some 0 from idx_nat (j := 0) hi]
        simp only [Option.bind_some, getD_get hi]
        have hno : ¬ (0 ≤ ts.getD 0 0 ∧ ts.getD 0 0 ≤ 60) → rpB sh da (j : Int) ts = false := by
          intro hn
          cases ht : allB ts 0 60 with
          | true => exact absurd (allB_inv ht hi) hn
          | false => simp only [rpB, ht, Bool.false_and, Bool.and_false]
        by_cases c2 : 0 ≤ ts.getD 0 0
        · by_cases c3 : ts.getD 0 0 ≤ 60
          · have := impl_RepeatAxis.loop (F + 1) sh da j ts hj hv c1 1 (by omega) (fun i hi' => by
              obtain rfl : i = 0 := (by omega)
              exact ⟨c2, c3⟩) (by omega) F (by omega)
            rw [decide_eq_false (p := ts.getD 0 0 < 0) (by omega), decide_eq_false (p := ts.getD 0 0 > 60) (by omega), decide_eq_true c2, decide_eq_true c3, fitsOk (by rw [List.length_replicate]; omega)]
            exact this
          · have := hno (fun h => c3 h.2)
            rw [decide_eq_false (p := ts.getD 0 0 < 0) (by omega), decide_eq_true (p := ts.getD 0 0 > 60) (by omega)]
            simp only [rpS, rpD, this]
            rfl
        · have := hno (fun h => c2 h.1)
          rw [decide_eq_true (p := ts.getD 0 0 < 0) (by omega)]
          simp only [rpS, rpD, this]
          rfl
    · have : rpB sh da (j : Int) ts = false := by simp only [rpB, Int.toNat_natCast, decide_eq_false c1, Bool.and_false, Bool.false_and]
      rw [show (((ts.length : Nat) : Int) != ((lenN sh j : Nat) : Int)) = true by simp; omega]
      simp only [rpS, rpD, this]
      rfl

namespace laws_FnExactRepeatAxis
noncomputable def E : Entry := ⟨5, true, false, fun | [.d (.agg [(.ints .i64 sh), (.ints .i64 da)]), .d (.int .i64 k), .d (.ints .i64 ts)] => decide (sh.length < 9223372036854775808) && decide (da.length < 9223372036854775808) && decide (ts.length < 9223372036854775808) | _ => false, fun | [.d (.agg [(.ints .i64 sh), (.ints .i64 da)]), .d (.int .i64 k), .d (.ints .i64 ts)] => ([.one ((.bool true), false)], []) | _ => ([], []), fun _ => [], false, fun _ => none⟩
end laws_FnExactRepeatAxis
namespace laws_FnExactRepeatAxis
noncomputable def X : List Entry := [laws_szArray.E, laws_toArray.E, laws_toIntS.E, spec_RepeatAxis.E, impl_RepeatAxis.E, laws_eqArray.E, laws_eqIntS.E, laws_markArray.E, laws_markIntS.E, laws_heldArray.E]
noncomputable def I : List Inl := [⟨5, Try.f5, ⟨[29, 32, 33, 37, 39, 44, 58, 63, 98, 101, 102], [], [], [], [], []⟩⟩]
theorem I_ok : ∀ i ∈ I, Try.prog.funcs[i.f]? = some i.fn ∧ (i.fn.name == "runtime.NumGoroutine") = false := by
  intro i hi
  simp only [I, List.mem_cons, List.not_mem_nil, or_false] at hi
  subst hi
  exact ⟨by kernel_rfl, by kernel_rfl⟩
theorem e (fuel : Nat) (p0q0 : List Int) (p0q1 : List Int) (p1 : Int) (p2 : List Int) : runF Try.prog X I 0 fuel 5 Try.f5 [.d (.agg [(.ints .i64 p0q0), (.ints .i64 p0q1)]), .d (.int .i64 p1), .d (.ints .i64 p2)] =
  (bif (decide ((((p2.length : Nat) : Int) : Int) > 1048576)) then
  some ([.one ((.bool true), false)], [])
  else
  (bif (decide (((szA p0q0 p0q1 1048576) : Int) < 0)) then
  some ([.one ((.bool true), false)], [])
  else
  (bif szB p0q0 && szB p0q1 then
  (bif szB p2 then
  (bif decide (p0q0.length < 9223372036854775808) && decide (p0q1.length < 9223372036854775808) && decide (p2.length < 9223372036854775808) then
  (bif szB p0q0 && szB p0q1 then
  (bif szB p2 then
  (bif decide (p0q0.length < 9223372036854775808) && decide (p0q1.length < 9223372036854775808) && decide (p2.length < 9223372036854775808) then
  (bif decide (((rpS p0q0 p0q1 p1 p2)).length < 9223372036854775808) && decide (((rpD p0q0 p0q1 p1 p2)).length < 9223372036854775808) && decide (((rpS p0q0 p0q1 p1 p2)).length < 9223372036854775808) && decide (((rpD p0q0 p0q1 p1 p2)).length < 9223372036854775808) then
  (bif (!(decide (((rpS p0q0 p0q1 p1 p2)) = ((rpS p0q0 p0q1 p1 p2))) && decide (((rpD p0q0 p0q1 p1 p2)) = ((rpD p0q0 p0q1 p1 p2))))) then
  some ([.one ((.bool false), false)], [])
  else
  (bif (!((rpB p0q0 p0q1 p1 p2) == (rpB p0q0 p0q1 p1 p2))) then
  some ([.one ((.bool false), false)], [])
  else
  (bif szB p0q0 && szB p0q1 then
  (bif decide (p0q0.length < 9223372036854775808) && decide (p0q1.length < 9223372036854775808) && decide (p0q0.length < 9223372036854775808) && decide (p0q1.length < 9223372036854775808) then
  (bif (!(decide (p0q0 = p0q0) && decide (p0q1 = p0q1))) then
  some ([.one ((.bool false), false)], [])
  else
  (bif szB p2 then
  (bif decide (p2.length < 9223372036854775808) && decide (p2.length < 9223372036854775808) then
  (bif (!(decide (p2 = p2))) then
  some ([.one ((.bool false), false)], [])
  else
  (bif decide (p0q0.length < 9223372036854775808) && decide (p0q1.length < 9223372036854775808) then
  (bif decide (p2.length < 9223372036854775808) then
  (bif (decide (((markK p2 ((markK p0q1 (markK p0q0 1)))) : Int) < 0)) then
  some ([.one ((.bool false), false)], [])
  else
  (bif decide (((rpS p0q0 p0q1 p1 p2)).length < 9223372036854775808) && decide (((rpD p0q0 p0q1 p1 p2)).length < 9223372036854775808) && decide (((rpS p0q0 p0q1 p1 p2)).length < 9223372036854775808) && decide (((rpD p0q0 p0q1 p1 p2)).length < 9223372036854775808) then
  (bif (!(decide (((rpS p0q0 p0q1 p1 p2)) = ((rpS p0q0 p0q1 p1 p2))) && decide (((rpD p0q0 p0q1 p1 p2)) = ((rpD p0q0 p0q1 p1 p2))))) then
  some ([.one ((.bool false), false)], [])
  else
  (bif (!((rpB p0q0 p0q1 p1 p2) == (rpB p0q0 p0q1 p1 p2))) then
  some ([.one ((.bool false), false)], [])
  else
  (bif decide (((rpS p0q0 p0q1 p1 p2)).length < 9223372036854775808) && decide (((rpD p0q0 p0q1 p1 p2)).length < 9223372036854775808) then
  (bif decide (((markL ((rpS p0q0 p0q1 p1 p2)) 1)).length < 9223372036854775808) && decide (((markL ((rpD p0q0 p0q1 p1 p2)) (markK ((rpS p0q0 p0q1 p1 p2)) 1))).length < 9223372036854775808) then
  (bif (decide (((heldA ((markL ((rpS p0q0 p0q1 p1 p2)) 1)) ((markL ((rpD p0q0 p0q1 p1 p2)) (markK ((rpS p0q0 p0q1 p1 p2)) 1))) 1) : Int) < 0)) then
  some ([.one ((.bool false), false)], [])
  else
  (bif (((heldA ((markL ((rpS p0q0 p0q1 p1 p2)) 1)) ((markL ((rpD p0q0 p0q1 p1 p2)) (markK ((rpS p0q0 p0q1 p1 p2)) 1))) 1) : Int) != (markK ((rpD p0q0 p0q1 p1 p2)) (markK ((rpS p0q0 p0q1 p1 p2)) 1))) then
  some ([.one ((.bool false), false)], [])
  else
  (bif szB p0q0 && szB p0q1 then
  (bif szB p2 then
  (bif decide (p0q0.length < 9223372036854775808) && decide (p0q1.length < 9223372036854775808) && decide (p2.length < 9223372036854775808) then
  (bif decide (((rpS p0q0 p0q1 p1 p2)).length < 9223372036854775808) && decide (((rpD p0q0 p0q1 p1 p2)).length < 9223372036854775808) && decide (((rpS p0q0 p0q1 p1 p2)).length < 9223372036854775808) && decide (((rpD p0q0 p0q1 p1 p2)).length < 9223372036854775808) then
  (bif (!(decide (((rpS p0q0 p0q1 p1 p2)) = ((rpS p0q0 p0q1 p1 p2))) && decide (((rpD p0q0 p0q1 p1 p2)) = ((rpD p0q0 p0q1 p1 p2))))) then
  some ([.one ((.bool false), false)], [])
  else
  (bif (!((rpB p0q0 p0q1 p1 p2) == (rpB p0q0 p0q1 p1 p2))) then
  some ([.one ((.bool false), false)], [])
  else
  (bif decide (((markL ((rpS p0q0 p0q1 p1 p2)) 1)).length < 9223372036854775808) && decide (((markL ((rpD p0q0 p0q1 p1 p2)) (markK ((rpS p0q0 p0q1 p1 p2)) 1))).length < 9223372036854775808) then
  (bif (decide (((heldA ((markL ((rpS p0q0 p0q1 p1 p2)) 1)) ((markL ((rpD p0q0 p0q1 p1 p2)) (markK ((rpS p0q0 p0q1 p1 p2)) 1))) 1) : Int) < 0)) then
  some ([.one ((.bool false), false)], [])
  else
  (bif (((heldA ((markL ((rpS p0q0 p0q1 p1 p2)) 1)) ((markL ((rpD p0q0 p0q1 p1 p2)) (markK ((rpS p0q0 p0q1 p1 p2)) 1))) 1) : Int) != (markK ((rpD p0q0 p0q1 p1 p2)) (markK ((rpS p0q0 p0q1 p1 p2)) 1))) then
  some ([.one ((.bool false), false)], [])
  else
  some ([.one ((.bool true), false)], [])))
  else
  none)))
  else
  none)
  else
  none)
  else
  none)
  else
  none)))
  else
  none)
  else
  none)))
  else
  none))
  else
  none)
  else
  none))
  else
  none)
  else
  none))
  else
  none)
  else
  none)))
  else
  none)
  else
  none)
  else
  none)
  else
  none)
  else
  none)
  else
  none)
  else
  none))) := by kernel_rfl
end laws_FnExactRepeatAxis
theorem laws_FnExactRepeatAxis.ok_of (hX : ∀ E ∈ laws_FnExactRepeatAxis.X, CallSpec Try.prog E) (h : ∀ (sh : List Int) (da : List Int) (k : Int) (ts : List Int), (decide (sh.length < 9223372036854775808) && decide (da.length < 9223372036854775808) && decide (ts.length < 9223372036854775808)) = true → ∃ fuel, runF Try.prog laws_FnExactRepeatAxis.X laws_FnExactRepeatAxis.I 0 fuel 5 Try.f5 [.d (.agg [(.ints .i64 sh), (.ints .i64 da)]), .d (.int .i64 k), .d (.ints .i64 ts)] = some ([.one ((.bool true), false)], [])) : CallSpec Try.prog laws_FnExactRepeatAxis.E :=
  callSpec_of (d := 0) hX (by kernel_rfl) laws_FnExactRepeatAxis.I_ok (by kernel_rfl) (by kernel_rfl) (by kernel_rfl) (fun _ _ _ _ h => by dsimp only [laws_FnExactRepeatAxis.E] at h; cases h) (fun xs hp => by
    dsimp only [laws_FnExactRepeatAxis.E] at hp ⊢
    split at hp
    · exact h _ _ _ _ hp
    · cases hp)
theorem laws_FnExactRepeatAxis.ok : CallSpec Try.prog laws_FnExactRepeatAxis.E := laws_FnExactRepeatAxis.ok_of (by simp [laws_FnExactRepeatAxis.X, laws_szArray.ok, laws_toArray.ok, laws_toIntS.ok, spec_RepeatAxis.ok, impl_RepeatAxis.ok, laws_eqArray.ok, laws_eqIntS.ok, laws_markArray.ok, laws_markIntS.ok, laws_heldArray.ok]) fun sh da k ts h => ⟨0, by
  rw [laws_FnExactRepeatAxis.e]
  simp only [Bool.and_eq_true] at h
  obtain ⟨⟨g0, g1⟩, g2⟩ := h
  by_cases l0 : (((ts.length : Nat) : Int) > 1048576)
  · rw [decide_eq_true l0]; rfl
  by_cases a0 : szA sh da 1048576 < 0
  · rw [decide_eq_false l0, decide_eq_true a0]; rfl
  obtain ⟨q0, p0⟩ := szA_le (by omega) (by omega) (of_decide_eq_true g0) (of_decide_eq_true g1) a0
  have z0 := szB_of (xs := sh) (by omega)
  have z1 := szB_of (xs := da) (by omega)
  have z2 := szB_of (xs := ts) (by omega)
  have hl := rp_len sh da k ts
  obtain ⟨r0a, r0b, r0c, r0d, r0e, r0f⟩ := marks_ok (sh := (rpS sh da k ts)) (da := (rpD sh da k ts)) (by omega) (by omega)
  have mk := mark3_ok (xs := sh) (ys := da) (zs := ts) (by omega) (by omega) (by omega)
  simp only [decide_eq_false l0, decide_eq_false a0, g0, g1, g2, z0, z1, z2, r0a, r0b, r0c, r0d, r0e, r0f, mk, bne_self_eq_false, beq_self_eq_true, decide_true, Bool.and_self, Bool.not_true, cond_true, cond_false]⟩

namespace spec_ExpandAxis
noncomputable def E : Entry := ⟨23, false, false, fun | [.d (.agg [(.ints .i64 sh), (.ints .i64 da)]), .d (.int .i64 k), .d (.ints .i64 mk)] => decide (sh.length < 9223372036854775808) && decide (da.length < 9223372036854775808) && szB mk | _ => false, fun | [.d (.agg [(.ints .i64 sh), (.ints .i64 da)]), .d (.int .i64 k), .d (.ints .i64 mk)] => ([.agg [((.ints .i64 (exS sh da k mk)), true), ((.ints .i64 (exD sh da k mk)), true)], .one ((.bool (exB sh da k mk)), false)], []) | _ => ([], []), fun _ => [], true, fun _ => none⟩
end spec_ExpandAxis
namespace spec_ExpandAxis
noncomputable def X : List Entry := [spec_isAxis.E, spec_allIn.E, spec_copyInts.E, spec_validShape.E, spec_along.E]
noncomputable def I : List Inl := [⟨23, Try.f23, ⟨[45, 67], [(1000006, [0, 4, 5, 7, 11, 12, 13, 14, 15, 16, 17, 18, 19, 20, 21, 22, 23, 24, 25, 26, 27, 28, 29, 30, 31, 32, 33, 34, 35, 36, 37, 38, 39, 40, 41, 42, 43, 44, 45, 46, 47, 48, 49, 50, 51, 52, 53, 54, 55, 56, 57, 58, 59, 60, 61, 62, 63, 64, 65, 66, 67])], [], [], [], []⟩⟩]
theorem I_ok : ∀ i ∈ I, Try.prog.funcs[i.f]? = some i.fn ∧ (i.fn.name == "runtime.NumGoroutine") = false := by
  intro i hi
  simp only [I, List.mem_cons, List.not_mem_nil, or_false] at hi
  subst hi
  exact ⟨by kernel_rfl, by kernel_rfl⟩
noncomputable abbrev L0 (fuel n : Nat) (s : St) (k : Kont) := lAt Try.prog X I fuel true 0 false 23 (bodyOf Try.f23) [1, 1, 1, 1, 0, 1, 0] n s k
noncomputable abbrev k0  (fuel : Nat) : Kont := (kAt Try.prog X I fuel true 0 false 23 (bodyOf Try.f23) [1, 1, 1, 1, 0, 1, 0] [] (endK Try.prog Try.f23))
noncomputable def t0 (p1 : Int) (p2 : List Int) (p0q0 : List Int) (p0q1 : List Int) (x0q2 : Int) (x0q3 : Int) (x0q6 : List Int) : St := ⟨[.dead, (.imm (.int .i64 p1)), (.imm (.ints .i64 p2)), (.ptr 1000000000 0 0), .dead, .dead, (.ptr 1000000001 0 0), .dead, (.all 1000000002 1), (.imm (.int .i64 x0q2)), (.imm (.int .i64 x0q3)), .dead, .dead, .dead, .dead, .dead, .dead, .dead, .dead, .dead, .dead, .dead, .dead, .dead, .dead, .dead, .dead, .dead, .dead, .dead, .dead, .dead, .dead, .dead, .dead, .dead, .dead, .dead, .dead, .dead, .dead, .dead, .dead, .dead, .dead, .dead, .dead, .dead, .dead, .dead, .dead, .dead, .dead, .dead, .dead, .dead, .dead, .dead, .dead, .dead, .dead, .dead, .dead, .dead, .dead, .dead, .dead, .dead], hOf [(1000000000, (.box [(.imm (.ints .i64 p0q0)), (.imm (.ints .i64 p0q1))])), (1000000001, (.box [(.imm .nils), (.imm .nils)])), (1000000002, (.ints .i64 x0q6))], [], []⟩
theorem e (fuel : Nat) (p0q0 : List Int) (p0q1 : List Int) (p1 : Int) (p2 : List Int) : runF Try.prog X I 0 fuel 23 Try.f23 [.d (.agg [(.ints .i64 p0q0), (.ints .i64 p0q1)]), .d (.int .i64 p1), .d (.ints .i64 p2)] =
  (bif decide (p0q0.length < 9223372036854775808) && decide (p0q1.length < 9223372036854775808) then
  (bif (!(axB p0q0 p0q1 p1)) then
  some ([.agg [((.ints .i64 []), true), ((.ints .i64 []), true)], .one ((.bool false), false)], [])
  else
  (bif decide (p2.length < 9223372036854775808) then
  (bif (!(allB p2 0 1)) then
  some ([.agg [((.ints .i64 []), true), ((.ints .i64 []), true)], .one ((.bool false), false)], [])
  else
  L0 fuel fuel (t0 p1 p2 p0q0 p0q1 0 0 ([])) (k0  fuel))
  else
  none))
  else
  none) := by kernel_rfl
theorem s0 (fuel n0 : Nat) (p1 : Int) (p2 : List Int) (p0q0 : List Int) (p0q1 : List Int) (x0q2 : Int) (x0q3 : Int) (x0q6 : List Int) : L0 fuel (n0 + 1) (t0 p1 p2 p0q0 p0q1 x0q2 x0q3 x0q6) (k0  fuel) =
  (bif (decide ((x0q3 : Int) < ((p2.length : Nat) : Int))) then
  (idx x0q3 p2.length).bind fun j11 =>
  (p2[j11]?).bind fun v12 =>
  (bif ((v12 : Int) == 1) then
  (bif fits (x0q6.length + ([x0q2] : List Int).length) 8 then
  L0 fuel n0 (t0 p1 p2 p0q0 p0q1 ((IntKind.wrap .i64 (x0q2 + 1))) ((IntKind.wrap .i64 (x0q3 + 1))) ((x0q6 ++ [x0q2]))) (k0  fuel)
  else
  none)
  else
  (bif fits (x0q6.length + ([(-1)] : List Int).length) 8 then
  L0 fuel n0 (t0 p1 p2 p0q0 p0q1 x0q2 ((IntKind.wrap .i64 (x0q3 + 1))) ((x0q6 ++ [(-1)]))) (k0  fuel)
  else
  none))
  else
  (bif szB p0q0 then
  (idx p1 p0q0.length).bind fun j13 =>
  (bif decide (j13 < p0q0.length) then
  (idx p1 p0q0.length).bind fun j14 =>
  (p0q0[j14]?).bind fun v15 =>
  (bif ((x0q2 : Int) != v15) then
  some ([.agg [((.ints .i64 []), true), ((.ints .i64 []), true)], .one ((.bool false), false)], [])
  else
  (bif decide (((p0q0.set j13 ((x0q6.length : Nat) : Int))).length < 9223372036854775808) then
  (bif (!(validS ((p0q0.set j13 ((x0q6.length : Nat) : Int))))) then
  some ([.agg [((.ints .i64 []), true), ((.ints .i64 []), true)], .one ((.bool false), false)], [])
  else
  (bif axB p0q0 p0q1 p1 && alP p0q0 p1 x0q6 then
  some ([.agg [((.ints .i64 (alS p0q0 p1 x0q6)), true), ((.ints .i64 (alA p0q0 p0q1 p1 x0q6)), true)], .one ((.bool true), false)], [])
  else
  none))
  else
  none))
  else
  none)
  else
  none)) := by kernel_rfl
end spec_ExpandAxis
theorem spec_ExpandAxis.ok_of (hX : ∀ E ∈ spec_ExpandAxis.X, CallSpec Try.prog E) (h : ∀ (sh : List Int) (da : List Int) (k : Int) (mk : List Int), (decide (sh.length < 9223372036854775808) && decide (da.length < 9223372036854775808) && szB mk) = true → ∃ fuel, runF Try.prog spec_ExpandAxis.X spec_ExpandAxis.I 0 fuel 23 Try.f23 [.d (.agg [(.ints .i64 sh), (.ints .i64 da)]), .d (.int .i64 k), .d (.ints .i64 mk)] = some ([.agg [((.ints .i64 (exS sh da k mk)), true), ((.ints .i64 (exD sh da k mk)), true)], .one ((.bool (exB sh da k mk)), false)], [])) : CallSpec Try.prog spec_ExpandAxis.E :=
  callSpec_of (d := 0) hX (by kernel_rfl) spec_ExpandAxis.I_ok (by kernel_rfl) (by kernel_rfl) (by kernel_rfl) (fun _ _ _ _ h => by dsimp only [spec_ExpandAxis.E] at h; cases h) (fun xs hp => by
    dsimp only [spec_ExpandAxis.E] at hp ⊢
    split at hp
    · exact h _ _ _ _ hp
    · cases hp)
theorem spec_ExpandAxis.ok : CallSpec Try.prog spec_ExpandAxis.E := spec_ExpandAxis.ok_of (by simp [spec_ExpandAxis.X, spec_isAxis.ok, spec_allIn.ok, spec_copyInts.ok, spec_validShape.ok, spec_along.ok]) fun sh da k mk h => by
  obtain ⟨F, hF⟩ : ∃ F : Nat, mk.length < F := ⟨mk.length + 1, by omega⟩
  refine ⟨F, ?_⟩
  simp only [Bool.and_eq_true] at h
  have hz := szB_le h.2
  rw [spec_ExpandAxis.e, h.1.1, h.1.2, lt_of (xs := mk) (by omega)]
  cases hb : axB sh da k with
  | false =>
    have : exB sh da k mk = false := by simp only [exB, hb, Bool.false_and]
    simp only [exS, exD, this]
    rfl
  | true =>
    obtain ⟨j, rfl, hj, hv, ax, hd, hl⟩ := axB_inv hb
    have hL := ax.len_le
    have hr := ax.rank
    cases ht : allB mk 0 1 with
    | false =>
      have : exB sh da (j : Int) mk = false := by simp only [exB, ht, Bool.false_and, Bool.and_false]
      simp only [exS, exD, this]
      rfl
    | true =>
      simp only [cond_true, Bool.and_self, Bool.not_true, cond_false]
      refine run_loop (N := mk.length) (fun n i (s : Int × List Int) => spec_ExpandAxis.L0 F n (spec_ExpandAxis.t0 (j : Int) mk sh da s.1 (i : Int) s.2) (spec_ExpandAxis.k0 F)) (fun i s => s.1 = ((exN mk i : Nat) : Int) ∧ s.2 = tab i fun q => bif mk.getD q 0 == 1 then ((exN mk q : Nat) : Int) else -1) ?_ ?_ F 0 (0, []) (by omega) (by omega) ⟨rfl, rfl⟩
      · rintro n ⟨c, out⟩ ⟨e1, e2⟩
        simp only at e1 e2
        change out = exL mk at e2
        subst e1
        subst e2
        have hlen := exL_length mk
        have hS : alS sh j (exL mk) = sh.set j (((exL mk).length : Nat) : Int) := rfl
        dsimp only
        rw [spec_ExpandAxis.s0, dge (by omega), cond_false, szB_of (xs := sh) (by omega), idx_nat hj]
        simp only [cond_true, Option.bind_some, getD_get hj, ax.len]
        rw [decide_eq_true hj, cond_true]
        by_cases c1 : exN mk mk.length = lenN sh j
        · have hB : exB sh da (j : Int) mk = validS (alS sh j (exL mk)) := by
            simp only [exB, hb, ht, Int.toNat_natCast, decide_eq_true c1, Bool.true_and]
          rw [show (((exN mk mk.length : Nat) : Int) != ((lenN sh j : Nat) : Int)) = false by simp [c1], cond_false, lt_of (by rw [List.length_set]; omega), cond_true]
          unfold exS exD
          rw [hB, hS]
          cases hvs : validS (sh.set j (((exL mk).length : Nat) : Int)) with
          | false => rfl
          | true =>
            have hp : alP sh (j : Int) (exL mk) = true := alP_of hvs fun p hp => by have := exL_mem hp; omega
            rw [hb, hp]
            rfl
        · have : exB sh da (j : Int) mk = false := by simp only [exB, Int.toNat_natCast, decide_eq_false c1, Bool.and_false, Bool.false_and]
          rw [show (((exN mk mk.length : Nat) : Int) != ((lenN sh j : Nat) : Int)) = true by simp; omega]
          simp only [exS, exD, this]
          rfl
      · rintro n i ⟨c, out⟩ hi ⟨e1, e2⟩
        simp only at e1 e2
        subst e1
        have hx := exN_le mk i
        have hol : out.length = i := by rw [e2, tab_length]
        rw [spec_ExpandAxis.s0, dlt hi, cond_true, idx_nat hi, w1 (by omega), w1 (by omega), fitsOk (by simp only [List.length_cons, List.length_nil]; omega), fitsOk (by simp only [List.length_cons, List.length_nil]; omega)]
        simp only [Option.bind_some, getD_get hi, cond_true]
        cases hc : (mk.getD i 0 == 1) with
        | true =>
          refine ⟨(((exN mk i + 1 : Nat) : Int), out ++ [((exN mk i : Nat) : Int)]), ⟨by simp only [exN, hc, cond_true], ?_⟩, rfl⟩
          rw [tab_succ, hc, e2, cond_true]
        | false =>
          refine ⟨(((exN mk i : Nat) : Int), out ++ [-1]), ⟨by simp only [exN, hc, cond_false], ?_⟩, rfl⟩
          rw [tab_succ, hc, e2, cond_false]

namespace impl_ExpandAxis
noncomputable def E : Entry := ⟨24, false, false, fun | [.d (.agg [(.ints .i64 sh), (.ints .i64 da)]), .d (.int .i64 k), .d (.ints .i64 mk)] => decide (sh.length < 9223372036854775808) && decide (da.length < 9223372036854775808) && szB mk | _ => false, fun | [.d (.agg [(.ints .i64 sh), (.ints .i64 da)]), .d (.int .i64 k), .d (.ints .i64 mk)] => ([.agg [((.ints .i64 (exS sh da k mk)), true), ((.ints .i64 (exD sh da k mk)), true)], .one ((.bool (exB sh da k mk)), false)], []) | _ => ([], []), fun _ => [], true, fun _ => none⟩
end impl_ExpandAxis
namespace impl_ExpandAxis
noncomputable def X : List Entry := [impl_axisLength.E, impl_withPlaces.E]
noncomputable def I : List Inl := [⟨24, Try.f24, ⟨[56], [(1000007, [0, 2, 4, 5, 7, 9, 12, 13, 14, 15, 16, 17, 18, 19, 20, 21, 22, 23, 24, 25, 29, 30, 31, 32, 33, 34, 35, 36, 37, 38, 39, 40, 41, 42, 43, 44, 45, 46, 47, 48, 49, 50, 51, 52, 53, 54, 55, 56, 57, 58])], [], [], [], []⟩⟩]
theorem I_ok : ∀ i ∈ I, Try.prog.funcs[i.f]? = some i.fn ∧ (i.fn.name == "runtime.NumGoroutine") = false := by
  intro i hi
  simp only [I, List.mem_cons, List.not_mem_nil, or_false] at hi
  subst hi
  exact ⟨by kernel_rfl, by kernel_rfl⟩
noncomputable abbrev L0 (fuel n : Nat) (s : St) (k : Kont) := lAt Try.prog X I fuel true 0 false 24 (bodyOf Try.f24) [1, 1, 1, 1, 1, 0, 1, 0] n s k
noncomputable abbrev k0  (fuel : Nat) : Kont := (kAt Try.prog X I fuel true 0 false 24 (bodyOf Try.f24) [1, 1, 1, 1, 1, 0, 1, 0] [] (endK Try.prog Try.f24))
noncomputable def t0 (p1 : Int) (p0q0 : List Int) (p0q1 : List Int) (p2 : List Int) (x0q2 : Int) (x0q5 : Int) (x0q8 : List Int) : St := ⟨[.dead, (.imm (.int .i64 p1)), .dead, (.ptr 1000000000 0 0), .dead, .dead, (.ptr 1000000001 0 0), .dead, (.imm (.int .i64 (axL p0q0 p0q1 p1))), .dead, (.all 1000000002 1), (.imm (.int .i64 x0q2)), .dead, .dead, .dead, .dead, .dead, .dead, .dead, .dead, .dead, .dead, .dead, .dead, .dead, .dead, (.imm (.ints .i64 p2)), (.imm (.int .i64 ((p2.length : Nat) : Int))), (.imm (.int .i64 x0q5)), .dead, .dead, .dead, .dead, .dead, .dead, .dead, .dead, .dead, .dead, .dead, .dead, .dead, .dead, .dead, .dead, .dead, .dead, .dead, .dead, .dead, .dead, .dead, .dead, .dead, .dead, .dead, .dead, .dead, .dead], hOf [(1000000000, (.box [(.imm (.ints .i64 p0q0)), (.imm (.ints .i64 p0q1))])), (1000000001, (.box [(.imm .nils), (.imm .nils)])), (1000000002, (.ints .i64 x0q8))], [], []⟩
theorem e (fuel : Nat) (p0q0 : List Int) (p0q1 : List Int) (p1 : Int) (p2 : List Int) : runF Try.prog X I 0 fuel 24 Try.f24 [.d (.agg [(.ints .i64 p0q0), (.ints .i64 p0q1)]), .d (.int .i64 p1), .d (.ints .i64 p2)] =
  (bif decide (p0q0.length < 9223372036854775808) && decide (p0q1.length < 9223372036854775808) then
  (bif (!(axB p0q0 p0q1 p1)) then
  some ([.agg [((.ints .i64 []), true), ((.ints .i64 []), true)], .one ((.bool false), false)], [])
  else
  (bif decide (0 ≤ (((p2.length : Nat) : Int) : Int)) && decide ((((p2.length : Nat) : Int) : Int) ≤ ((p2.length : Nat) : Int)) && decide ((((p2.length : Nat) : Int) : Int) ≤ 1152921504606846976) && decide (((8 : Nat) : Int) * ((p2.length : Nat) : Int) ≤ 281474976710656) then
  L0 fuel fuel (t0 p1 p0q0 p0q1 p2 0 0 ((List.replicate (((p2.length : Nat) : Int)).toNat (0 : Int)))) (k0  fuel)
  else
  none))
  else
  none) := by kernel_rfl
theorem s0 (fuel n0 : Nat) (p1 : Int) (p0q0 : List Int) (p0q1 : List Int) (p2 : List Int) (x0q2 : Int) (x0q5 : Int) (x0q8 : List Int) : L0 fuel (n0 + 1) (t0 p1 p0q0 p0q1 p2 x0q2 x0q5 x0q8) (k0  fuel) =
  (bif (decide ((x0q5 : Int) < ((p2.length : Nat) : Int))) then
  (idx x0q5 p2.length).bind fun j9 =>
  (p2[j9]?).bind fun v10 =>
  (bif ((v10 : Int) == 0) then
  (idx x0q5 x0q8.length).bind fun j11 =>
  (bif decide (j11 < x0q8.length) then
  L0 fuel n0 (t0 p1 p0q0 p0q1 p2 x0q2 ((IntKind.wrap .i64 (x0q5 + 1))) ((x0q8.set j11 (-1)))) (k0  fuel)
  else
  none)
  else
  (bif ((v10 : Int) == 1) then
  (idx x0q5 x0q8.length).bind fun j12 =>
  (bif decide (j12 < x0q8.length) then
  L0 fuel n0 (t0 p1 p0q0 p0q1 p2 ((IntKind.wrap .i64 (x0q2 + 1))) ((IntKind.wrap .i64 (x0q5 + 1))) ((x0q8.set j12 x0q2))) (k0  fuel)
  else
  none)
  else
  some ([.agg [((.ints .i64 []), true), ((.ints .i64 []), true)], .one ((.bool false), false)], [])))
  else
  (bif ((x0q2 : Int) != (axL p0q0 p0q1 p1)) then
  some ([.agg [((.ints .i64 []), true), ((.ints .i64 []), true)], .one ((.bool false), false)], [])
  else
  (bif axB p0q0 p0q1 p1 && szB x0q8 then
  some ([.agg [((.ints .i64 (wpS p0q0 p1 x0q8)), true), ((.ints .i64 (wpD p0q0 p0q1 p1 x0q8)), true)], .one ((.bool (wpB p0q0 p1 x0q8)), false)], [])
  else
  none))) := by kernel_rfl
end impl_ExpandAxis
theorem impl_ExpandAxis.ok_of (hX : ∀ E ∈ impl_ExpandAxis.X, CallSpec Try.prog E) (h : ∀ (sh : List Int) (da : List Int) (k : Int) (mk : List Int), (decide (sh.length < 9223372036854775808) && decide (da.length < 9223372036854775808) && szB mk) = true → ∃ fuel, runF Try.prog impl_ExpandAxis.X impl_ExpandAxis.I 0 fuel 24 Try.f24 [.d (.agg [(.ints .i64 sh), (.ints .i64 da)]), .d (.int .i64 k), .d (.ints .i64 mk)] = some ([.agg [((.ints .i64 (exS sh da k mk)), true), ((.ints .i64 (exD sh da k mk)), true)], .one ((.bool (exB sh da k mk)), false)], [])) : CallSpec Try.prog impl_ExpandAxis.E :=
  callSpec_of (d := 0) hX (by kernel_rfl) impl_ExpandAxis.I_ok (by kernel_rfl) (by kernel_rfl) (by kernel_rfl) (fun _ _ _ _ h => by dsimp only [impl_ExpandAxis.E] at h; cases h) (fun xs hp => by
    dsimp only [impl_ExpandAxis.E] at hp ⊢
    split at hp
    · exact h _ _ _ _ hp
    · cases hp)
theorem impl_ExpandAxis.ok : CallSpec Try.prog impl_ExpandAxis.E := impl_ExpandAxis.ok_of (by simp [impl_ExpandAxis.X, impl_axisLength.ok, impl_withPlaces.ok]) fun sh da k mk h => by
  obtain ⟨F, hF⟩ : ∃ F : Nat, mk.length < F := ⟨mk.length + 1, by omega⟩
  refine ⟨F, ?_⟩
  simp only [Bool.and_eq_true] at h
  have hz := szB_le h.2
  rw [impl_ExpandAxis.e, h.1.1, h.1.2]
  cases hb : axB sh da k with
  | false =>
    have : exB sh da k mk = false := by simp only [exB, hb, Bool.false_and]
    simp only [exS, exD, this]
    rfl
  | true =>
    obtain ⟨j, rfl, hj, hv, ax, hd, hl⟩ := axB_inv hb
    have hL := ax.len_le
    have hr := ax.rank
    have hlen := exL_length mk
    rw [mkOk (by omega) (by omega), Int.toNat_natCast]
    simp only [cond_true, Bool.and_self, Bool.not_true, cond_false]
    refine cnt_loop (N := mk.length) (fun n i (s : Int × List Int) => impl_ExpandAxis.L0 F n (impl_ExpandAxis.t0 (j : Int) sh da mk s.1 (i : Int) s.2) (impl_ExpandAxis.k0 F)) (fun i s => s.1 = ((exN mk i : Nat) : Int) ∧ s.2 = part (exL mk) i ∧ ∀ q, q < i → 0 ≤ mk.getD q 0 ∧ mk.getD q 0 ≤ 1) ?_ ?_ F 0 (0, _) (by omega) (by omega) ⟨rfl, by rw [part_zero, hlen], fun q hq => absurd hq (by omega)⟩
    · rintro n ⟨c, out⟩ ⟨e1, e2, e3⟩
      simp only at e1 e2
      have hall := part_all (exL mk)
      rw [hlen] at hall
      rw [hall] at e2
      subst e1
      subst e2
      have ht : allB mk 0 1 = true := allB_iff.2 fun v hv => by
        obtain ⟨i, hi, rfl⟩ := List.getElem_of_mem hv
        have := e3 i hi
        simpa [hi] using this
      dsimp only
      rw [impl_ExpandAxis.s0, dge (by omega), cond_false, hl]
      by_cases c1 : exN mk mk.length = lenN sh j
      · have hB : exB sh da (j : Int) mk = validS (alS sh j (exL mk)) := by
          simp only [exB, hb, ht, Int.toNat_natCast, decide_eq_true c1, Bool.true_and]
        obtain ⟨w1, w2, w3⟩ := wp_eq (sh := sh) (da := da) (ls := exL mk) (j := j) fun x hx => by rw [← c1]; exact exL_mem hx
        rw [show (((exN mk mk.length : Nat) : Int) != ((lenN sh j : Nat) : Int)) = false by simp [c1], cond_false, hb, szB_of (xs := exL mk) (by omega), w1, w2, w3]
        unfold exS exD
        rw [hB]
        rfl
      · have : exB sh da (j : Int) mk = false := by simp only [exB, Int.toNat_natCast, decide_eq_false c1, Bool.and_false, Bool.false_and]
        rw [show (((exN mk mk.length : Nat) : Int) != ((lenN sh j : Nat) : Int)) = true by simp; omega]
        simp only [exS, exD, this]
        rfl
    · rintro n i ⟨c, out⟩ hi ⟨e1, e2, e3⟩
      simp only at e1 e2
      subst e1
      have hx := exN_le mk i
      have hol : out.length = mk.length := by rw [e2, part_length (by omega), hlen]
      have hg : (exL mk).getD i 0 = bif mk.getD i 0 == 1 then ((exN mk i : Nat) : Int) else -1 := tab_getD hi
      dsimp only
      rw [impl_ExpandAxis.s0, dlt hi, cond_true, idx_nat hi, w1 (by omega), w1 (by omega), idx_nat (by omega)]
      simp only [Option.bind_some, getD_get hi]
      rw [decide_eq_true (p := i < out.length) (by omega)]
      cases h0 : (mk.getD i 0 == 0) with
      | true =>
        have hm : mk.getD i 0 = 0 := by simpa using h0
        have h1 : (mk.getD i 0 == 1) = false := by rw [hm]; rfl
        refine .inr ⟨(((exN mk i : Nat) : Int), out.set i (-1)), ⟨by simp only [exN, h1, cond_false], ?_, fun q hq => ?_⟩, rfl⟩
        · simp only
          rw [e2, part_set (by omega)]
          rw [hg, h1]; rfl
        · by_cases e : q = i
          · subst e; omega
          · exact e3 q (by omega)
      | false =>
        cases h1 : (mk.getD i 0 == 1) with
        | true =>
          have hm : mk.getD i 0 = 1 := by simpa using h1
          refine .inr ⟨(((exN mk i + 1 : Nat) : Int), out.set i ((exN mk i : Nat) : Int)), ⟨by simp only [exN, h1, cond_true], ?_, fun q hq => ?_⟩, rfl⟩
          · simp only
            rw [e2, part_set (by omega)]
            rw [hg, h1]; rfl
          · by_cases e : q = i
            · subst e; omega
            · exact e3 q (by omega)
        | false =>
          refine .inl ?_
          have : exB sh da (j : Int) mk = false := by
            have ha : allB mk 0 1 = false := by
              rw [Bool.eq_false_iff]
              intro ha
              have := allB_inv ha hi
              have g0 : mk.getD i 0 ≠ 0 := by simpa using h0
              have g1 : mk.getD i 0 ≠ 1 := by simpa using h1
              omega
            simp only [exB, ha, Bool.and_false, Bool.false_and]
          simp only [exS, exD, this]
          rfl

namespace laws_FnExactExpandAxis
noncomputable def E : Entry := ⟨6, true, false, fun | [.d (.agg [(.ints .i64 sh), (.ints .i64 da)]), .d (.int .i64 k), .d (.ints .i64 ts)] => decide (sh.length < 9223372036854775808) && decide (da.length < 9223372036854775808) && decide (ts.length < 9223372036854775808) | _ => false, fun | [.d (.agg [(.ints .i64 sh), (.ints .i64 da)]), .d (.int .i64 k), .d (.ints .i64 ts)] => ([.one ((.bool true), false)], []) | _ => ([], []), fun _ => [], false, fun _ => none⟩
end laws_FnExactExpandAxis
namespace laws_FnExactExpandAxis
noncomputable def X : List Entry := [laws_szArray.E, laws_toArray.E, laws_toIntS.E, spec_ExpandAxis.E, impl_ExpandAxis.E, laws_eqArray.E, laws_eqIntS.E, laws_markArray.E, laws_markIntS.E, laws_heldArray.E]
noncomputable def I : List Inl := [⟨6, Try.f6, ⟨[29, 32, 33, 37, 39, 44, 58, 63, 98, 101, 102], [], [], [], [], []⟩⟩]
theorem I_ok : ∀ i ∈ I, Try.prog.funcs[i.f]? = some i.fn ∧ (i.fn.name == "runtime.NumGoroutine") = false := by
  intro i hi
  simp only [I, List.mem_cons, List.not_mem_nil, or_false] at hi
  subst hi
  exact ⟨by kernel_rfl, by kernel_rfl⟩
theorem e (fuel : Nat) (p0q0 : List Int) (p0q1 : List Int) (p1 : Int) (p2 : List Int) : runF Try.prog X I 0 fuel 6 Try.f6 [.d (.agg [(.ints .i64 p0q0), (.ints .i64 p0q1)]), .d (.int .i64 p1), .d (.ints .i64 p2)] =
  (bif (decide ((((p2.length : Nat) : Int) : Int) > 1048576)) then
  some ([.one ((.bool true), false)], [])
  else
  (bif (decide (((szA p0q0 p0q1 1048576) : Int) < 0)) then
  some ([.one ((.bool true), false)], [])
  else
  (bif szB p0q0 && szB p0q1 then
  (bif szB p2 then
  (bif decide (p0q0.length < 9223372036854775808) && decide (p0q1.length < 9223372036854775808) && szB p2 then
  (bif szB p0q0 && szB p0q1 then
  (bif szB p2 then
  (bif decide (p0q0.length < 9223372036854775808) && decide (p0q1.length < 9223372036854775808) && szB p2 then
  (bif decide (((exS p0q0 p0q1 p1 p2)).length < 9223372036854775808) && decide (((exD p0q0 p0q1 p1 p2)).length < 9223372036854775808) && decide (((exS p0q0 p0q1 p1 p2)).length < 9223372036854775808) && decide (((exD p0q0 p0q1 p1 p2)).length < 9223372036854775808) then
  (bif (!(decide (((exS p0q0 p0q1 p1 p2)) = ((exS p0q0 p0q1 p1 p2))) && decide (((exD p0q0 p0q1 p1 p2)) = ((exD p0q0 p0q1 p1 p2))))) then
  some ([.one ((.bool false), false)], [])
  else
  (bif (!((exB p0q0 p0q1 p1 p2) == (exB p0q0 p0q1 p1 p2))) then
  some ([.one ((.bool false), false)], [])
  else
  (bif szB p0q0 && szB p0q1 then
  (bif decide (p0q0.length < 9223372036854775808) && decide (p0q1.length < 9223372036854775808) && decide (p0q0.length < 9223372036854775808) && decide (p0q1.length < 9223372036854775808) then
  (bif (!(decide (p0q0 = p0q0) && decide (p0q1 = p0q1))) then
  some ([.one ((.bool false), false)], [])
  else
  (bif szB p2 then
  (bif decide (p2.length < 9223372036854775808) && decide (p2.length < 9223372036854775808) then
  (bif (!(decide (p2 = p2))) then
  some ([.one ((.bool false), false)], [])
  else
  (bif decide (p0q0.length < 9223372036854775808) && decide (p0q1.length < 9223372036854775808) then
  (bif decide (p2.length < 9223372036854775808) then
  (bif (decide (((markK p2 ((markK p0q1 (markK p0q0 1)))) : Int) < 0)) then
  some ([.one ((.bool false), false)], [])
  else
  (bif decide (((exS p0q0 p0q1 p1 p2)).length < 9223372036854775808) && decide (((exD p0q0 p0q1 p1 p2)).length < 9223372036854775808) && decide (((exS p0q0 p0q1 p1 p2)).length < 9223372036854775808) && decide (((exD p0q0 p0q1 p1 p2)).length < 9223372036854775808) then
  (bif (!(decide (((exS p0q0 p0q1 p1 p2)) = ((exS p0q0 p0q1 p1 p2))) && decide (((exD p0q0 p0q1 p1 p2)) = ((exD p0q0 p0q1 p1 p2))))) then
  some ([.one ((.bool false), false)], [])
  else
  (bif (!((exB p0q0 p0q1 p1 p2) == (exB p0q0 p0q1 p1 p2))) then
  some ([.one ((.bool false), false)], [])
  else
  (bif decide (((exS p0q0 p0q1 p1 p2)).length < 9223372036854775808) && decide (((exD p0q0 p0q1 p1 p2)).length < 9223372036854775808) then
  (bif decide (((markL ((exS p0q0 p0q1 p1 p2)) 1)).length < 9223372036854775808) && decide (((markL ((exD p0q0 p0q1 p1 p2)) (markK ((exS p0q0 p0q1 p1 p2)) 1))).length < 9223372036854775808) then
  (bif (decide (((heldA ((markL ((exS p0q0 p0q1 p1 p2)) 1)) ((markL ((exD p0q0 p0q1 p1 p2)) (markK ((exS p0q0 p0q1 p1 p2)) 1))) 1) : Int) < 0)) then
  some ([.one ((.bool false), false)], [])
  else
  (bif (((heldA ((markL ((exS p0q0 p0q1 p1 p2)) 1)) ((markL ((exD p0q0 p0q1 p1 p2)) (markK ((exS p0q0 p0q1 p1 p2)) 1))) 1) : Int) != (markK ((exD p0q0 p0q1 p1 p2)) (markK ((exS p0q0 p0q1 p1 p2)) 1))) then
  some ([.one ((.bool false), false)], [])
  else
  (bif szB p0q0 && szB p0q1 then
  (bif szB p2 then
  (bif decide (p0q0.length < 9223372036854775808) && decide (p0q1.length < 9223372036854775808) && szB p2 then
  (bif decide (((exS p0q0 p0q1 p1 p2)).length < 9223372036854775808) && decide (((exD p0q0 p0q1 p1 p2)).length < 9223372036854775808) && decide (((exS p0q0 p0q1 p1 p2)).length < 9223372036854775808) && decide (((exD p0q0 p0q1 p1 p2)).length < 9223372036854775808) then
  (bif (!(decide (((exS p0q0 p0q1 p1 p2)) = ((exS p0q0 p0q1 p1 p2))) && decide (((exD p0q0 p0q1 p1 p2)) = ((exD p0q0 p0q1 p1 p2))))) then
  some ([.one ((.bool false), false)], [])
  else
  (bif (!((exB p0q0 p0q1 p1 p2) == (exB p0q0 p0q1 p1 p2))) then
  some ([.one ((.bool false), false)], [])
  else
  (bif decide (((markL ((exS p0q0 p0q1 p1 p2)) 1)).length < 9223372036854775808) && decide (((markL ((exD p0q0 p0q1 p1 p2)) (markK ((exS p0q0 p0q1 p1 p2)) 1))).length < 9223372036854775808) then
  (bif (decide (((heldA ((markL ((exS p0q0 p0q1 p1 p2)) 1)) ((markL ((exD p0q0 p0q1 p1 p2)) (markK ((exS p0q0 p0q1 p1 p2)) 1))) 1) : Int) < 0)) then
  some ([.one ((.bool false), false)], [])
  else
  (bif (((heldA ((markL ((exS p0q0 p0q1 p1 p2)) 1)) ((markL ((exD p0q0 p0q1 p1 p2)) (markK ((exS p0q0 p0q1 p1 p2)) 1))) 1) : Int) != (markK ((exD p0q0 p0q1 p1 p2)) (markK ((exS p0q0 p0q1 p1 p2)) 1))) then
  some ([.one ((.bool false), false)], [])
  else
  some ([.one ((.bool true), false)], [])))
  else
  none)))
  else
  none)
  else
  none)
  else
  none)
  else
  none)))
  else
  none)
  else
  none)))
  else
  none))
  else
  none)
  else
  none))
  else
  none)
  else
  none))
  else
  none)
  else
  none)))
  else
  none)
  else
  none)
  else
  none)
  else
  none)
  else
  none)
  else
  none)
  else
  none))) := by kernel_rfl
end laws_FnExactExpandAxis
theorem laws_FnExactExpandAxis.ok_of (hX : ∀ E ∈ laws_FnExactExpandAxis.X, CallSpec Try.prog E) (h : ∀ (sh : List Int) (da : List Int) (k : Int) (ts : List Int), (decide (sh.length < 9223372036854775808) && decide (da.length < 9223372036854775808) && decide (ts.length < 9223372036854775808)) = true → ∃ fuel, runF Try.prog laws_FnExactExpandAxis.X laws_FnExactExpandAxis.I 0 fuel 6 Try.f6 [.d (.agg [(.ints .i64 sh), (.ints .i64 da)]), .d (.int .i64 k), .d (.ints .i64 ts)] = some ([.one ((.bool true), false)], [])) : CallSpec Try.prog laws_FnExactExpandAxis.E :=
  callSpec_of (d := 0) hX (by kernel_rfl) laws_FnExactExpandAxis.I_ok (by kernel_rfl) (by kernel_rfl) (by kernel_rfl) (fun _ _ _ _ h => by dsimp only [laws_FnExactExpandAxis.E] at h; cases h) (fun xs hp => by
    dsimp only [laws_FnExactExpandAxis.E] at hp ⊢
    split at hp
    · exact h _ _ _ _ hp
    · cases hp)
theorem laws_FnExactExpandAxis.ok : CallSpec Try.prog laws_FnExactExpandAxis.E := laws_FnExactExpandAxis.ok_of (by simp [laws_FnExactExpandAxis.X, laws_szArray.ok, laws_toArray.ok, laws_toIntS.ok, spec_ExpandAxis.ok, impl_ExpandAxis.ok, laws_eqArray.ok, laws_eqIntS.ok, laws_markArray.ok, laws_markIntS.ok, laws_heldArray.ok]) fun sh da k ts h => ⟨0, by
  rw [laws_FnExactExpandAxis.e]
  simp only [Bool.and_eq_true] at h
  obtain ⟨⟨g0, g1⟩, g2⟩ := h
  by_cases l0 : (((ts.length : Nat) : Int) > 1048576)
  · rw [decide_eq_true l0]; rfl
  by_cases a0 : szA sh da 1048576 < 0
  · rw [decide_eq_false l0, decide_eq_true a0]; rfl
  obtain ⟨q0, p0⟩ := szA_le (by omega) (by omega) (of_decide_eq_true g0) (of_decide_eq_true g1) a0
  have z0 := szB_of (xs := sh) (by omega)
  have z1 := szB_of (xs := da) (by omega)
  have z2 := szB_of (xs := ts) (by omega)
  have hl := ex_len sh da k ts
  obtain ⟨r0a, r0b, r0c, r0d, r0e, r0f⟩ := marks_ok (sh := (exS sh da k ts)) (da := (exD sh da k ts)) (by omega) (by omega)
  have mk := mark3_ok (xs := sh) (ys := da) (zs := ts) (by omega) (by omega) (by omega)
  simp only [decide_eq_false l0, decide_eq_false a0, g0, g1, g2, z0, z1, z2, r0a, r0b, r0c, r0d, r0e, r0f, mk, bne_self_eq_false, beq_self_eq_true, decide_true, Bool.and_self, Bool.not_true, cond_true, cond_false]⟩

namespace spec_isVector
noncomputable def E : Entry := ⟨48, true, false, fun | [.d (.agg [(.ints .i64 sh), (.ints .i64 da)])] => decide (sh.length < 9223372036854775808) && decide (da.length < 9223372036854775808) | _ => false, fun | [.d (.agg [(.ints .i64 sh), (.ints .i64 da)])] => ([.one ((.bool (vcB sh da)), false)], []) | _ => ([], []), fun _ => [], false, fun _ => none⟩
end spec_isVector
namespace spec_isVector
noncomputable def X : List Entry := [spec_valid.E]
noncomputable def I : List Inl := [⟨48, Try.f48, ⟨[], [], [], [], [], []⟩⟩]
theorem I_ok : ∀ i ∈ I, Try.prog.funcs[i.f]? = some i.fn ∧ (i.fn.name == "runtime.NumGoroutine") = false := by
  intro i hi
  simp only [I, List.mem_cons, List.not_mem_nil, or_false] at hi
  subst hi
  exact ⟨by kernel_rfl, by kernel_rfl⟩
theorem e (fuel : Nat) (p0q0 : List Int) (p0q1 : List Int) : runF Try.prog X I 0 fuel 48 Try.f48 [.d (.agg [(.ints .i64 p0q0), (.ints .i64 p0q1)])] =
  (bif decide (p0q0.length < 9223372036854775808) && decide (p0q1.length < 9223372036854775808) then
  (bif (validA p0q0 p0q1) then
  some ([.one ((.bool ((((p0q0.length : Nat) : Int) : Int) == 1)), false)], [])
  else
  some ([.one ((.bool false), false)], []))
  else
  none) := by kernel_rfl
end spec_isVector
theorem spec_isVector.ok_of (hX : ∀ E ∈ spec_isVector.X, CallSpec Try.prog E) (h : ∀ (sh : List Int) (da : List Int), (decide (sh.length < 9223372036854775808) && decide (da.length < 9223372036854775808)) = true → ∃ fuel, runF Try.prog spec_isVector.X spec_isVector.I 0 fuel 48 Try.f48 [.d (.agg [(.ints .i64 sh), (.ints .i64 da)])] = some ([.one ((.bool (vcB sh da)), false)], [])) : CallSpec Try.prog spec_isVector.E :=
  callSpec_of (d := 0) hX (by kernel_rfl) spec_isVector.I_ok (by kernel_rfl) (by kernel_rfl) (by kernel_rfl) (fun _ _ _ _ h => by dsimp only [spec_isVector.E] at h; cases h) (fun xs hp => by
    dsimp only [spec_isVector.E] at hp ⊢
    split at hp
    · exact h _ _ hp
    · cases hp)
theorem spec_isVector.ok : CallSpec Try.prog spec_isVector.E := spec_isVector.ok_of (by simp [spec_isVector.X, spec_valid.ok]) fun sh da h => ⟨0, by
  rw [spec_isVector.e, h]
  unfold vcB
  cases validA sh da with
  | false => rfl
  | true =>
    rw [show ((((sh.length : Nat) : Int)) == 1) = decide (sh.length = 1) by by_cases h : sh.length = 1 <;> simp [h]; omega]
    rfl⟩

namespace spec_pick
noncomputable def E : Entry := ⟨49, false, false, fun | [.d (.ints .i64 da), .d (.ints .i64 pl)] => decide (da.length < 9223372036854775808) && decide ((pl : List Int).length ≤ 1000000) && allB pl 0 (((da.length : Nat) : Int) - 1) | _ => false, fun | [.d (.ints .i64 da), .d (.ints .i64 pl)] => ([.one ((.ints .i64 (pkN da pl)), true)], []) | _ => ([], []), fun _ => [], true, fun _ => none⟩
end spec_pick
namespace spec_pick
noncomputable def X : List Entry := []
noncomputable def I : List Inl := [⟨49, Try.f49, ⟨[], [(1000003, [2, 3, 4, 7, 8, 9, 10, 11, 12, 13, 14, 15, 16, 17, 18, 19, 20, 21, 22, 23, 24])], [], [], [], []⟩⟩]
theorem I_ok : ∀ i ∈ I, Try.prog.funcs[i.f]? = some i.fn ∧ (i.fn.name == "runtime.NumGoroutine") = false := by
  intro i hi
  simp only [I, List.mem_cons, List.not_mem_nil, or_false] at hi
  subst hi
  exact ⟨by kernel_rfl, by kernel_rfl⟩
noncomputable abbrev L0 (fuel n : Nat) (s : St) (k : Kont) := lAt Try.prog X I fuel true 0 false 49 (bodyOf Try.f49) [1, 1, 0, 1, 0] n s k
noncomputable abbrev k0  (fuel : Nat) : Kont := (kAt Try.prog X I fuel true 0 false 49 (bodyOf Try.f49) [1, 1, 0, 1, 0] [] (endK Try.prog Try.f49))
noncomputable def t0 (p0 : List Int) (p1 : List Int) (x0q2 : Int) (x0q3 : List Int) : St := ⟨[(.imm (.ints .i64 p0)), (.imm (.ints .i64 p1)), .dead, .dead, .dead, (.all 1000000000 1), (.imm (.int .i64 x0q2)), .dead, .dead, .dead, .dead, .dead, .dead, .dead, .dead, .dead, .dead, .dead, .dead, .dead, .dead, .dead, .dead, .dead, .dead], hOf [(1000000000, (.ints .i64 x0q3))], [], []⟩
theorem e (fuel : Nat) (p0 : List Int) (p1 : List Int) : runF Try.prog X I 0 fuel 49 Try.f49 [.d (.ints .i64 p0), .d (.ints .i64 p1)] =
  L0 fuel fuel (t0 p0 p1 0 ([])) (k0  fuel) := by kernel_rfl
theorem s0 (fuel n0 : Nat) (p0 : List Int) (p1 : List Int) (x0q2 : Int) (x0q3 : List Int) : L0 fuel (n0 + 1) (t0 p0 p1 x0q2 x0q3) (k0  fuel) =
  (bif (decide ((x0q2 : Int) < ((p1.length : Nat) : Int))) then
  (idx x0q2 p1.length).bind fun j9 =>
  (p1[j9]?).bind fun v10 =>
  (idx v10 p0.length).bind fun j11 =>
  (p0[j11]?).bind fun v12 =>
  (bif fits (x0q3.length + ([v12] : List Int).length) 8 then
  L0 fuel n0 (t0 p0 p1 ((IntKind.wrap .i64 (x0q2 + 1))) ((x0q3 ++ [v12]))) (k0  fuel)
  else
  none)
  else
  some ([.one ((.ints .i64 x0q3), true)], [])) := by kernel_rfl
end spec_pick
theorem spec_pick.ok_of (hX : ∀ E ∈ spec_pick.X, CallSpec Try.prog E) (h : ∀ (da : List Int) (pl : List Int), (decide (da.length < 9223372036854775808) && decide ((pl : List Int).length ≤ 1000000) && allB pl 0 (((da.length : Nat) : Int) - 1)) = true → ∃ fuel, runF Try.prog spec_pick.X spec_pick.I 0 fuel 49 Try.f49 [.d (.ints .i64 da), .d (.ints .i64 pl)] = some ([.one ((.ints .i64 (pkN da pl)), true)], [])) : CallSpec Try.prog spec_pick.E :=
  callSpec_of (d := 0) hX (by kernel_rfl) spec_pick.I_ok (by kernel_rfl) (by kernel_rfl) (by kernel_rfl) (fun _ _ _ _ h => by dsimp only [spec_pick.E] at h; cases h) (fun xs hp => by
    dsimp only [spec_pick.E] at hp ⊢
    split at hp
    · exact h _ _ hp
    · cases hp)
theorem spec_pick.ok : CallSpec Try.prog spec_pick.E := spec_pick.ok_of (by simp [spec_pick.X]) fun da pl h => by
  obtain ⟨F, hF⟩ : ∃ F : Nat, pl.length < F := ⟨pl.length + 1, by omega⟩
  refine ⟨F, ?_⟩
  simp only [Bool.and_eq_true, decide_eq_true_eq] at h
  obtain ⟨⟨h1, h2⟩, h3⟩ := h
  rw [spec_pick.e]
  by_cases h60 : True
  · refine run_loop (N := pl.length) (fun n j out => spec_pick.L0 F n (spec_pick.t0 da pl (j : Int) out) (spec_pick.k0 F)) (fun j out => out = tab j fun i => da.getD (pl.getD i 0).toNat 0) ?_ ?_ F 0 [] (by omega) (by omega) rfl
    · rintro n out rfl
      rw [spec_pick.s0, dge (by omega), cond_false]
      rfl
    · rintro n j out hj rfl
      have hp := allB_inv h3 hj
      obtain ⟨p, hpe⟩ : ∃ p : Nat, pl.getD j 0 = p := ⟨(pl.getD j 0).toNat, by omega⟩
      have hpl : p < da.length := by omega
      rw [spec_pick.s0, dlt hj, cond_true, idx_nat hj, w1 (by omega)]
      simp only [Option.bind_some, getD_get hj, hpe]
      rw [idx_nat hpl]
      simp only [Option.bind_some, getD_get hpl]
      rw [fitsOk (by simp only [tab_length, List.length_cons, List.length_nil]; omega), cond_true]
      exact ⟨_, by rw [tab_succ, hpe, Int.toNat_natCast], rfl⟩
  · exact absurd trivial h60

namespace spec_PickItems
noncomputable def E : Entry := ⟨25, false, false, fun | [.d (.agg [(.ints .i64 sh), (.ints .i64 da)]), .d (.agg [(.ints .i64 s2), (.ints .i64 d2)])] => decide (sh.length < 9223372036854775808) && decide (da.length < 9223372036854775808) && decide (s2.length < 9223372036854775808) && decide (d2.length < 9223372036854775808) | _ => false, fun | [.d (.agg [(.ints .i64 sh), (.ints .i64 da)]), .d (.agg [(.ints .i64 s2), (.ints .i64 d2)])] => ([.agg [((.ints .i64 (pkS sh da s2 d2)), true), ((.ints .i64 (pkD sh da s2 d2)), true)], .one ((.bool (pkB sh da s2 d2)), false)], []) | _ => ([], []), fun _ => [], true, fun _ => none⟩
end spec_PickItems
namespace spec_PickItems
noncomputable def X : List Entry := [spec_isVector.E, spec_valid.E, spec_allIn.E, spec_pick.E, spec_make1.E]
noncomputable def I : List Inl := [⟨25, Try.f25, ⟨[31, 32], [], [], [(3, [0, 2, 4, 1, 3, 5, 6, 7, 8, 9])], [], []⟩⟩]
theorem I_ok : ∀ i ∈ I, Try.prog.funcs[i.f]? = some i.fn ∧ (i.fn.name == "runtime.NumGoroutine") = false := by
  intro i hi
  simp only [I, List.mem_cons, List.not_mem_nil, or_false] at hi
  subst hi
  exact ⟨by kernel_rfl, by kernel_rfl⟩
theorem e (fuel : Nat) (p0q0 : List Int) (p0q1 : List Int) (p1q0 : List Int) (p1q1 : List Int) : runF Try.prog X I 0 fuel 25 Try.f25 [.d (.agg [(.ints .i64 p0q0), (.ints .i64 p0q1)]), .d (.agg [(.ints .i64 p1q0), (.ints .i64 p1q1)])] =
  (bif decide (p0q0.length < 9223372036854775808) && decide (p0q1.length < 9223372036854775808) then
  (bif (!(vcB p0q0 p0q1)) then
  some ([.agg [((.ints .i64 []), true), ((.ints .i64 []), true)], .one ((.bool false), false)], [])
  else
  (bif decide (p1q0.length < 9223372036854775808) && decide (p1q1.length < 9223372036854775808) then
  (bif (!(validA p1q0 p1q1)) then
  some ([.agg [((.ints .i64 []), true), ((.ints .i64 []), true)], .one ((.bool false), false)], [])
  else
  (bif decide (p1q1.length < 9223372036854775808) then
  (bif (!(allB p1q1 0 ((IntKind.wrap .i64 (((p0q1.length : Nat) : Int) - 1))))) then
  some ([.agg [((.ints .i64 []), true), ((.ints .i64 []), true)], .one ((.bool false), false)], [])
  else
  (bif decide (p0q1.length < 9223372036854775808) && decide ((p1q1 : List Int).length ≤ 1000000) && allB p1q1 0 (((p0q1.length : Nat) : Int) - 1) then
  (bif szB p1q0 && szB ((pkN p0q1 p1q1)) then
  some ([.agg [((.ints .i64 p1q0), true), ((.ints .i64 ((pkN p0q1 p1q1))), true)], .one ((.bool true), false)], [])
  else
  none)
  else
  none))
  else
  none))
  else
  none))
  else
  none) := by kernel_rfl
end spec_PickItems
theorem spec_PickItems.ok_of (hX : ∀ E ∈ spec_PickItems.X, CallSpec Try.prog E) (h : ∀ (sh : List Int) (da : List Int) (s2 : List Int) (d2 : List Int), (decide (sh.length < 9223372036854775808) && decide (da.length < 9223372036854775808) && decide (s2.length < 9223372036854775808) && decide (d2.length < 9223372036854775808)) = true → ∃ fuel, runF Try.prog spec_PickItems.X spec_PickItems.I 0 fuel 25 Try.f25 [.d (.agg [(.ints .i64 sh), (.ints .i64 da)]), .d (.agg [(.ints .i64 s2), (.ints .i64 d2)])] = some ([.agg [((.ints .i64 (pkS sh da s2 d2)), true), ((.ints .i64 (pkD sh da s2 d2)), true)], .one ((.bool (pkB sh da s2 d2)), false)], [])) : CallSpec Try.prog spec_PickItems.E :=
  callSpec_of (d := 0) hX (by kernel_rfl) spec_PickItems.I_ok (by kernel_rfl) (by kernel_rfl) (by kernel_rfl) (fun _ _ _ _ h => by dsimp only [spec_PickItems.E] at h; cases h) (fun xs hp => by
    dsimp only [spec_PickItems.E] at hp ⊢
    split at hp
    · exact h _ _ _ _ hp
    · cases hp)
theorem spec_PickItems.ok : CallSpec Try.prog spec_PickItems.E := spec_PickItems.ok_of (by simp [spec_PickItems.X, spec_isVector.ok, spec_valid.ok, spec_allIn.ok, spec_pick.ok, spec_make1.ok]) fun sh da s2 d2 h => ⟨0, by
  simp only [Bool.and_eq_true] at h
  obtain ⟨⟨⟨h1, h2⟩, h3⟩, h4⟩ := h
  rw [spec_PickItems.e, h1, h2, h3, h4]
  unfold pkS pkD pkB
  cases hb : vcB sh da with
  | false => rfl
  | true =>
    cases hv : validA s2 d2 with
    | false => rfl
    | true =>
      obtain ⟨_, _, hl, _⟩ := vcB_inv hb
      have hl2 := validA_len hv
      rw [wS (x := ((da.length : Nat) : Int) - 1) (by omega) (by omega)]
      cases ha : allB d2 0 (((da.length : Nat) : Int) - 1) with
      | false => rfl
      | true =>
        rw [decide_eq_true (p := d2.length ≤ 1000000) (by omega), szB_of (xs := s2) (by omega), szB_of (xs := pkN da d2) (by rw [pkN_length]; omega)]
        rfl⟩

namespace impl_isVector
noncomputable def E : Entry := ⟨50, true, false, fun | [.d (.agg [(.ints .i64 sh), (.ints .i64 da)])] => decide (sh.length < 9223372036854775808) && decide (da.length < 9223372036854775808) | _ => false, fun | [.d (.agg [(.ints .i64 sh), (.ints .i64 da)])] => ([.one ((.bool (vcB sh da)), false)], []) | _ => ([], []), fun _ => [], false, fun _ => none⟩
end impl_isVector
namespace impl_isVector
noncomputable def X : List Entry := [impl_ValidArray.E]
noncomputable def I : List Inl := [⟨50, Try.f50, ⟨[], [], [], [], [], []⟩⟩]
theorem I_ok : ∀ i ∈ I, Try.prog.funcs[i.f]? = some i.fn ∧ (i.fn.name == "runtime.NumGoroutine") = false := by
  intro i hi
  simp only [I, List.mem_cons, List.not_mem_nil, or_false] at hi
  subst hi
  exact ⟨by kernel_rfl, by kernel_rfl⟩
theorem e (fuel : Nat) (p0q0 : List Int) (p0q1 : List Int) : runF Try.prog X I 0 fuel 50 Try.f50 [.d (.agg [(.ints .i64 p0q0), (.ints .i64 p0q1)])] =
  (bif decide (p0q0.length < 9223372036854775808) && decide (p0q1.length < 9223372036854775808) then
  (bif (validA p0q0 p0q1) then
  some ([.one ((.bool ((((p0q0.length : Nat) : Int) : Int) == 1)), false)], [])
  else
  some ([.one ((.bool false), false)], []))
  else
  none) := by kernel_rfl
end impl_isVector
theorem impl_isVector.ok_of (hX : ∀ E ∈ impl_isVector.X, CallSpec Try.prog E) (h : ∀ (sh : List Int) (da : List Int), (decide (sh.length < 9223372036854775808) && decide (da.length < 9223372036854775808)) = true → ∃ fuel, runF Try.prog impl_isVector.X impl_isVector.I 0 fuel 50 Try.f50 [.d (.agg [(.ints .i64 sh), (.ints .i64 da)])] = some ([.one ((.bool (vcB sh da)), false)], [])) : CallSpec Try.prog impl_isVector.E :=
  callSpec_of (d := 0) hX (by kernel_rfl) impl_isVector.I_ok (by kernel_rfl) (by kernel_rfl) (by kernel_rfl) (fun _ _ _ _ h => by dsimp only [impl_isVector.E] at h; cases h) (fun xs hp => by
    dsimp only [impl_isVector.E] at hp ⊢
    split at hp
    · exact h _ _ hp
    · cases hp)
theorem impl_isVector.ok : CallSpec Try.prog impl_isVector.E := impl_isVector.ok_of (by simp [impl_isVector.X, impl_ValidArray.ok]) fun sh da h => ⟨0, by
  rw [impl_isVector.e, h]
  unfold vcB
  cases validA sh da with
  | false => rfl
  | true =>
    rw [show ((((sh.length : Nat) : Int)) == 1) = decide (sh.length = 1) by by_cases h : sh.length = 1 <;> simp [h]; omega]
    rfl⟩

namespace impl_PickItems
noncomputable def E : Entry := ⟨26, false, false, fun | [.d (.agg [(.ints .i64 sh), (.ints .i64 da)]), .d (.agg [(.ints .i64 s2), (.ints .i64 d2)])] => decide (sh.length < 9223372036854775808) && decide (da.length < 9223372036854775808) && decide (s2.length < 9223372036854775808) && decide (d2.length < 9223372036854775808) | _ => false, fun | [.d (.agg [(.ints .i64 sh), (.ints .i64 da)]), .d (.agg [(.ints .i64 s2), (.ints .i64 d2)])] => ([.agg [((.ints .i64 (pkS sh da s2 d2)), true), ((.ints .i64 (pkD sh da s2 d2)), true)], .one ((.bool (pkB sh da s2 d2)), false)], []) | _ => ([], []), fun _ => [], true, fun _ => none⟩
end impl_PickItems
namespace impl_PickItems
noncomputable def X : List Entry := [impl_isVector.E, impl_ValidArray.E, impl_copyList.E]
noncomputable def I : List Inl := [⟨26, Try.f26, ⟨[51], [(1000005, [0, 1, 5, 7, 8, 9, 10, 11, 12, 13, 14, 15, 16, 17, 18, 19, 20, 21, 22, 26, 27, 28, 29, 30, 31, 32, 33, 34, 35, 36, 37, 38, 39, 40, 41, 42, 43, 44, 45, 46, 47, 48, 49, 50, 51, 52, 53])], [], [], [], []⟩⟩]
theorem I_ok : ∀ i ∈ I, Try.prog.funcs[i.f]? = some i.fn ∧ (i.fn.name == "runtime.NumGoroutine") = false := by
  intro i hi
  simp only [I, List.mem_cons, List.not_mem_nil, or_false] at hi
  subst hi
  exact ⟨by kernel_rfl, by kernel_rfl⟩
noncomputable abbrev L0 (fuel n : Nat) (s : St) (k : Kont) := lAt Try.prog X I fuel true 0 false 26 (bodyOf Try.f26) [1, 1, 1, 0, 1, 0] n s k
noncomputable abbrev k0  (fuel : Nat) : Kont := (kAt Try.prog X I fuel true 0 false 26 (bodyOf Try.f26) [1, 1, 1, 0, 1, 0] [] (endK Try.prog Try.f26))
noncomputable def t0 (p1q1 : List Int) (p0q0 : List Int) (p0q1 : List Int) (p1q0 : List Int) (x0q2 : Int) (x0q7 : List Int) : St := ⟨[.dead, .dead, (.ptr 1000000000 0 0), (.ptr 1000000001 0 0), (.ptr 1000000002 0 0), .dead, (.all 1000000003 1), .dead, .dead, .dead, .dead, .dead, .dead, .dead, .dead, .dead, .dead, .dead, .dead, .dead, .dead, .dead, .dead, (.imm (.ints .i64 p1q1)), (.imm (.int .i64 ((p1q1.length : Nat) : Int))), (.imm (.int .i64 x0q2)), .dead, .dead, .dead, .dead, .dead, .dead, .dead, .dead, .dead, .dead, .dead, .dead, .dead, .dead, .dead, .dead, .dead, .dead, .dead, .dead, .dead, .dead, .dead, .dead, .dead, .dead, .dead, .dead], hOf [(1000000000, (.box [(.imm (.ints .i64 p0q0)), (.imm (.ints .i64 p0q1))])), (1000000001, (.box [(.imm (.ints .i64 p1q0)), (.imm (.ints .i64 p1q1))])), (1000000002, (.box [(.imm .nils), (.imm .nils)])), (1000000003, (.ints .i64 x0q7))], [], []⟩
theorem e (fuel : Nat) (p0q0 : List Int) (p0q1 : List Int) (p1q0 : List Int) (p1q1 : List Int) : runF Try.prog X I 0 fuel 26 Try.f26 [.d (.agg [(.ints .i64 p0q0), (.ints .i64 p0q1)]), .d (.agg [(.ints .i64 p1q0), (.ints .i64 p1q1)])] =
  (bif decide (p0q0.length < 9223372036854775808) && decide (p0q1.length < 9223372036854775808) then
  (bif (!(vcB p0q0 p0q1)) then
  some ([.agg [((.ints .i64 []), true), ((.ints .i64 []), true)], .one ((.bool false), false)], [])
  else
  (bif decide (p1q0.length < 9223372036854775808) && decide (p1q1.length < 9223372036854775808) then
  (bif (!(validA p1q0 p1q1)) then
  some ([.agg [((.ints .i64 []), true), ((.ints .i64 []), true)], .one ((.bool false), false)], [])
  else
  (bif decide (0 ≤ (((p1q1.length : Nat) : Int) : Int)) && decide ((((p1q1.length : Nat) : Int) : Int) ≤ ((p1q1.length : Nat) : Int)) && decide ((((p1q1.length : Nat) : Int) : Int) ≤ 1152921504606846976) && decide (((8 : Nat) : Int) * ((p1q1.length : Nat) : Int) ≤ 281474976710656) then
  L0 fuel fuel (t0 p1q1 p0q0 p0q1 p1q0 0 ((List.replicate (((p1q1.length : Nat) : Int)).toNat (0 : Int)))) (k0  fuel)
  else
  none))
  else
  none))
  else
  none) := by kernel_rfl
theorem s0 (fuel n0 : Nat) (p1q1 : List Int) (p0q0 : List Int) (p0q1 : List Int) (p1q0 : List Int) (x0q2 : Int) (x0q7 : List Int) : L0 fuel (n0 + 1) (t0 p1q1 p0q0 p0q1 p1q0 x0q2 x0q7) (k0  fuel) =
  (bif (decide ((x0q2 : Int) < ((p1q1.length : Nat) : Int))) then
  (idx x0q2 p1q1.length).bind fun j11 =>
  (p1q1[j11]?).bind fun v12 =>
  (bif (decide ((v12 : Int) < 0)) then
  some ([.agg [((.ints .i64 []), true), ((.ints .i64 []), true)], .one ((.bool false), false)], [])
  else
  (bif (decide ((v12 : Int) ≥ ((p0q1.length : Nat) : Int))) then
  some ([.agg [((.ints .i64 []), true), ((.ints .i64 []), true)], .one ((.bool false), false)], [])
  else
  (idx v12 p0q1.length).bind fun j13 =>
  (p0q1[j13]?).bind fun v14 =>
  (idx x0q2 x0q7.length).bind fun j15 =>
  (bif decide (j15 < x0q7.length) then
  L0 fuel n0 (t0 p1q1 p0q0 p0q1 p1q0 ((IntKind.wrap .i64 (x0q2 + 1))) ((x0q7.set j15 v14))) (k0  fuel)
  else
  none)))
  else
  (bif szB p1q0 then
  some ([.agg [((.ints .i64 p1q0), true), ((.ints .i64 x0q7), true)], .one ((.bool true), false)], [])
  else
  none)) := by kernel_rfl
end impl_PickItems
theorem impl_PickItems.ok_of (hX : ∀ E ∈ impl_PickItems.X, CallSpec Try.prog E) (h : ∀ (sh : List Int) (da : List Int) (s2 : List Int) (d2 : List Int), (decide (sh.length < 9223372036854775808) && decide (da.length < 9223372036854775808) && decide (s2.length < 9223372036854775808) && decide (d2.length < 9223372036854775808)) = true → ∃ fuel, runF Try.prog impl_PickItems.X impl_PickItems.I 0 fuel 26 Try.f26 [.d (.agg [(.ints .i64 sh), (.ints .i64 da)]), .d (.agg [(.ints .i64 s2), (.ints .i64 d2)])] = some ([.agg [((.ints .i64 (pkS sh da s2 d2)), true), ((.ints .i64 (pkD sh da s2 d2)), true)], .one ((.bool (pkB sh da s2 d2)), false)], [])) : CallSpec Try.prog impl_PickItems.E :=
  callSpec_of (d := 0) hX (by kernel_rfl) impl_PickItems.I_ok (by kernel_rfl) (by kernel_rfl) (by kernel_rfl) (fun _ _ _ _ h => by dsimp only [impl_PickItems.E] at h; cases h) (fun xs hp => by
    dsimp only [impl_PickItems.E] at hp ⊢
    split at hp
    · exact h _ _ _ _ hp
    · cases hp)
theorem impl_PickItems.ok : CallSpec Try.prog impl_PickItems.E := impl_PickItems.ok_of (by simp [impl_PickItems.X, impl_isVector.ok, impl_ValidArray.ok, impl_copyList.ok]) fun sh da s2 d2 h => by
  obtain ⟨F, hF⟩ : ∃ F : Nat, d2.length < F := ⟨d2.length + 1, by omega⟩
  refine ⟨F, ?_⟩
  simp only [Bool.and_eq_true] at h
  obtain ⟨⟨⟨h1, h2⟩, h3⟩, h4⟩ := h
  rw [impl_PickItems.e, h1, h2, h3, h4]
  unfold pkS pkD
  cases hb : vcB sh da with
  | false =>
    have : pkB sh da s2 d2 = false := by simp only [pkB, hb, Bool.false_and]
    rw [this]; rfl
  | true =>
    cases hv : validA s2 d2 with
    | false =>
      have : pkB sh da s2 d2 = false := by simp only [pkB, hb, hv, Bool.false_and, Bool.and_false]
      rw [this]; rfl
    | true =>
      obtain ⟨_, _, hl, _⟩ := vcB_inv hb
      have hl2 := validA_len hv
      have hN := pkN_length da d2
      rw [mkOk (by omega) (by omega), Int.toNat_natCast]
      simp only [cond_true, Bool.and_self, Bool.not_true, cond_false]
      have hK : pkB sh da s2 d2 = allB d2 0 (((da.length : Nat) : Int) - 1) := by simp only [pkB, hb, hv, Bool.true_and]
      refine cnt_loop (N := d2.length) (fun n j out => impl_PickItems.L0 F n (impl_PickItems.t0 d2 sh da s2 (j : Int) out) (impl_PickItems.k0 F)) (fun j out => out = part (pkN da d2) j ∧ ∀ i, i < j → 0 ≤ d2.getD i 0 ∧ d2.getD i 0 ≤ ((da.length : Nat) : Int) - 1) ?_ ?_ F 0 _ (by omega) (by omega) ⟨by rw [part_zero, hN], fun i hi => absurd hi (by omega)⟩
      · rintro n out ⟨hI, hc⟩
        have ha : allB d2 0 (((da.length : Nat) : Int) - 1) = true := allB_iff.2 fun v hv => by
          obtain ⟨i, hi, rfl⟩ := List.getElem_of_mem hv
          have := hc i hi
          simpa [hi] using this
        have hall := part_all (pkN da d2)
        rw [hN] at hall
        rw [hall] at hI
        rw [impl_PickItems.s0, dge (by omega), cond_false, szB_of (xs := s2) (by omega), hI, hK, ha]
        rfl
      · rintro n j out hj ⟨hI, hc⟩
        have hol : out.length = d2.length := by rw [hI, part_length (by omega), hN]
        rw [impl_PickItems.s0, dlt hj, cond_true, idx_nat hj, w1 (by omega)]
        simp only [Option.bind_some, getD_get hj]
        have hno : (¬ (0 ≤ d2.getD j 0 ∧ d2.getD j 0 ≤ ((da.length : Nat) : Int) - 1)) → pkB sh da s2 d2 = false := by
          intro hn
          rw [hK, Bool.eq_false_iff]
          exact fun ha => hn (allB_inv ha hj)
        by_cases c1 : d2.getD j 0 < 0
        · refine .inl ?_
          rw [decide_eq_true c1, hno (by omega)]; rfl
        · by_cases c2 : d2.getD j 0 ≥ ((da.length : Nat) : Int)
          · refine .inl ?_
            rw [decide_eq_false c1, decide_eq_true c2, hno (by omega)]; rfl
          · refine .inr ⟨out.set j (da.getD (d2.getD j 0).toNat 0), ⟨?_, fun i hi => ?_⟩, ?_⟩
            · rw [hI, part_set (by omega)]
              simp only [pkN]
              rw [tab_getD hj]
            · by_cases h1 : i = j
              · subst h1; omega
              · exact hc i (by omega)
            · obtain ⟨p, hpe⟩ : ∃ p : Nat, d2.getD j 0 = p := ⟨(d2.getD j 0).toNat, by omega⟩
              have hpl : p < da.length := by omega
              rw [decide_eq_false c1, decide_eq_false c2, hpe, idx_nat hpl]
              simp only [cond_false, Option.bind_some, getD_get hpl]
              rw [idx_nat (by omega)]
              simp only [Option.bind_some]
              rw [decide_eq_true (by omega), cond_true, Int.toNat_natCast]

namespace laws_FnExactPickItems
noncomputable def E : Entry := ⟨7, true, false, fun | [.d (.agg [(.ints .i64 sh), (.ints .i64 da)]), .d (.agg [(.ints .i64 s2), (.ints .i64 d2)])] => decide (sh.length < 9223372036854775808) && decide (da.length < 9223372036854775808) && decide (s2.length < 9223372036854775808) && decide (d2.length < 9223372036854775808) | _ => false, fun | [.d (.agg [(.ints .i64 sh), (.ints .i64 da)]), .d (.agg [(.ints .i64 s2), (.ints .i64 d2)])] => ([.one ((.bool true), false)], []) | _ => ([], []), fun _ => [], false, fun _ => none⟩
end laws_FnExactPickItems
namespace laws_FnExactPickItems
noncomputable def X : List Entry := [laws_szArray.E, laws_toArray.E, spec_PickItems.E, impl_PickItems.E, laws_eqArray.E, laws_markArray.E, laws_heldArray.E]
noncomputable def I : List Inl := [⟨7, Try.f7, ⟨[29, 31, 32, 36, 38, 42, 56, 61, 96, 98, 99], [], [], [(8, [0, 2, 1, 3, 4, 5, 6, 7, 8, 9, 10]), (31, [0, 2, 1, 3, 4, 5, 6, 7, 8, 9, 10])], [], []⟩⟩]
theorem I_ok : ∀ i ∈ I, Try.prog.funcs[i.f]? = some i.fn ∧ (i.fn.name == "runtime.NumGoroutine") = false := by
  intro i hi
  simp only [I, List.mem_cons, List.not_mem_nil, or_false] at hi
  subst hi
  exact ⟨by kernel_rfl, by kernel_rfl⟩
theorem e (fuel : Nat) (p0q0 : List Int) (p0q1 : List Int) (p1q0 : List Int) (p1q1 : List Int) : runF Try.prog X I 0 fuel 7 Try.f7 [.d (.agg [(.ints .i64 p0q0), (.ints .i64 p0q1)]), .d (.agg [(.ints .i64 p1q0), (.ints .i64 p1q1)])] =
  (bif (decide (((szA p0q0 p0q1 1048576) : Int) < 0)) then
  some ([.one ((.bool true), false)], [])
  else
  (bif (decide (((szA p1q0 p1q1 ((szA p0q0 p0q1 1048576))) : Int) < 0)) then
  some ([.one ((.bool true), false)], [])
  else
  (bif szB p0q0 && szB p0q1 then
  (bif szB p1q0 && szB p1q1 then
  (bif decide (p0q0.length < 9223372036854775808) && decide (p0q1.length < 9223372036854775808) && decide (p1q0.length < 9223372036854775808) && decide (p1q1.length < 9223372036854775808) then
  (bif szB p0q0 && szB p0q1 then
  (bif szB p1q0 && szB p1q1 then
  (bif decide (p0q0.length < 9223372036854775808) && decide (p0q1.length < 9223372036854775808) && decide (p1q0.length < 9223372036854775808) && decide (p1q1.length < 9223372036854775808) then
  (bif decide (((pkS p0q0 p0q1 p1q0 p1q1)).length < 9223372036854775808) && decide (((pkD p0q0 p0q1 p1q0 p1q1)).length < 9223372036854775808) && decide (((pkS p0q0 p0q1 p1q0 p1q1)).length < 9223372036854775808) && decide (((pkD p0q0 p0q1 p1q0 p1q1)).length < 9223372036854775808) then
  (bif (!(decide (((pkS p0q0 p0q1 p1q0 p1q1)) = ((pkS p0q0 p0q1 p1q0 p1q1))) && decide (((pkD p0q0 p0q1 p1q0 p1q1)) = ((pkD p0q0 p0q1 p1q0 p1q1))))) then
  some ([.one ((.bool false), false)], [])
  else
  (bif (!((pkB p0q0 p0q1 p1q0 p1q1) == (pkB p0q0 p0q1 p1q0 p1q1))) then
  some ([.one ((.bool false), false)], [])
  else
  (bif szB p0q0 && szB p0q1 then
  (bif decide (p0q0.length < 9223372036854775808) && decide (p0q1.length < 9223372036854775808) && decide (p0q0.length < 9223372036854775808) && decide (p0q1.length < 9223372036854775808) then
  (bif (!(decide (p0q0 = p0q0) && decide (p0q1 = p0q1))) then
  some ([.one ((.bool false), false)], [])
  else
  (bif szB p1q0 && szB p1q1 then
  (bif decide (p1q0.length < 9223372036854775808) && decide (p1q1.length < 9223372036854775808) && decide (p1q0.length < 9223372036854775808) && decide (p1q1.length < 9223372036854775808) then
  (bif (!(decide (p1q0 = p1q0) && decide (p1q1 = p1q1))) then
  some ([.one ((.bool false), false)], [])
  else
  (bif decide (p0q0.length < 9223372036854775808) && decide (p0q1.length < 9223372036854775808) then
  (bif decide (p1q0.length < 9223372036854775808) && decide (p1q1.length < 9223372036854775808) then
  (bif (decide (((markK p1q1 (markK p1q0 ((markK p0q1 (markK p0q0 1))))) : Int) < 0)) then
  some ([.one ((.bool false), false)], [])
  else
  (bif decide (((pkS p0q0 p0q1 p1q0 p1q1)).length < 9223372036854775808) && decide (((pkD p0q0 p0q1 p1q0 p1q1)).length < 9223372036854775808) && decide (((pkS p0q0 p0q1 p1q0 p1q1)).length < 9223372036854775808) && decide (((pkD p0q0 p0q1 p1q0 p1q1)).length < 9223372036854775808) then
  (bif (!(decide (((pkS p0q0 p0q1 p1q0 p1q1)) = ((pkS p0q0 p0q1 p1q0 p1q1))) && decide (((pkD p0q0 p0q1 p1q0 p1q1)) = ((pkD p0q0 p0q1 p1q0 p1q1))))) then
  some ([.one ((.bool false), false)], [])
  else
  (bif (!((pkB p0q0 p0q1 p1q0 p1q1) == (pkB p0q0 p0q1 p1q0 p1q1))) then
  some ([.one ((.bool false), false)], [])
  else
  (bif decide (((pkS p0q0 p0q1 p1q0 p1q1)).length < 9223372036854775808) && decide (((pkD p0q0 p0q1 p1q0 p1q1)).length < 9223372036854775808) then
  (bif decide (((markL ((pkS p0q0 p0q1 p1q0 p1q1)) 1)).length < 9223372036854775808) && decide (((markL ((pkD p0q0 p0q1 p1q0 p1q1)) (markK ((pkS p0q0 p0q1 p1q0 p1q1)) 1))).length < 9223372036854775808) then
  (bif (decide (((heldA ((markL ((pkS p0q0 p0q1 p1q0 p1q1)) 1)) ((markL ((pkD p0q0 p0q1 p1q0 p1q1)) (markK ((pkS p0q0 p0q1 p1q0 p1q1)) 1))) 1) : Int) < 0)) then
  some ([.one ((.bool false), false)], [])
  else
  (bif (((heldA ((markL ((pkS p0q0 p0q1 p1q0 p1q1)) 1)) ((markL ((pkD p0q0 p0q1 p1q0 p1q1)) (markK ((pkS p0q0 p0q1 p1q0 p1q1)) 1))) 1) : Int) != (markK ((pkD p0q0 p0q1 p1q0 p1q1)) (markK ((pkS p0q0 p0q1 p1q0 p1q1)) 1))) then
  some ([.one ((.bool false), false)], [])
  else
  (bif szB p0q0 && szB p0q1 then
  (bif szB p1q0 && szB p1q1 then
  (bif decide (p0q0.length < 9223372036854775808) && decide (p0q1.length < 9223372036854775808) && decide (p1q0.length < 9223372036854775808) && decide (p1q1.length < 9223372036854775808) then
  (bif decide (((pkS p0q0 p0q1 p1q0 p1q1)).length < 9223372036854775808) && decide (((pkD p0q0 p0q1 p1q0 p1q1)).length < 9223372036854775808) && decide (((pkS p0q0 p0q1 p1q0 p1q1)).length < 9223372036854775808) && decide (((pkD p0q0 p0q1 p1q0 p1q1)).length < 9223372036854775808) then
  (bif (!(decide (((pkS p0q0 p0q1 p1q0 p1q1)) = ((pkS p0q0 p0q1 p1q0 p1q1))) && decide (((pkD p0q0 p0q1 p1q0 p1q1)) = ((pkD p0q0 p0q1 p1q0 p1q1))))) then
  some ([.one ((.bool false), false)], [])
  else
  (bif (!((pkB p0q0 p0q1 p1q0 p1q1) == (pkB p0q0 p0q1 p1q0 p1q1))) then
  some ([.one ((.bool false), false)], [])
  else
  (bif decide (((markL ((pkS p0q0 p0q1 p1q0 p1q1)) 1)).length < 9223372036854775808) && decide (((markL ((pkD p0q0 p0q1 p1q0 p1q1)) (markK ((pkS p0q0 p0q1 p1q0 p1q1)) 1))).length < 9223372036854775808) then
  (bif (decide (((heldA ((markL ((pkS p0q0 p0q1 p1q0 p1q1)) 1)) ((markL ((pkD p0q0 p0q1 p1q0 p1q1)) (markK ((pkS p0q0 p0q1 p1q0 p1q1)) 1))) 1) : Int) < 0)) then
  some ([.one ((.bool false), false)], [])
  else
  (bif (((heldA ((markL ((pkS p0q0 p0q1 p1q0 p1q1)) 1)) ((markL ((pkD p0q0 p0q1 p1q0 p1q1)) (markK ((pkS p0q0 p0q1 p1q0 p1q1)) 1))) 1) : Int) != (markK ((pkD p0q0 p0q1 p1q0 p1q1)) (markK ((pkS p0q0 p0q1 p1q0 p1q1)) 1))) then
  some ([.one ((.bool false), false)], [])
  else
  some ([.one ((.bool true), false)], [])))
  else
  none)))
  else
  none)
  else
  none)
  else
  none)
  else
  none)))
  else
  none)
  else
  none)))
  else
  none))
  else
  none)
  else
  none))
  else
  none)
  else
  none))
  else
  none)
  else
  none)))
  else
  none)
  else
  none)
  else
  none)
  else
  none)
  else
  none)
  else
  none)
  else
  none))) := by kernel_rfl
end laws_FnExactPickItems
theorem laws_FnExactPickItems.ok_of (hX : ∀ E ∈ laws_FnExactPickItems.X, CallSpec Try.prog E) (h : ∀ (sh : List Int) (da : List Int) (s2 : List Int) (d2 : List Int), (decide (sh.length < 9223372036854775808) && decide (da.length < 9223372036854775808) && decide (s2.length < 9223372036854775808) && decide (d2.length < 9223372036854775808)) = true → ∃ fuel, runF Try.prog laws_FnExactPickItems.X laws_FnExactPickItems.I 0 fuel 7 Try.f7 [.d (.agg [(.ints .i64 sh), (.ints .i64 da)]), .d (.agg [(.ints .i64 s2), (.ints .i64 d2)])] = some ([.one ((.bool true), false)], [])) : CallSpec Try.prog laws_FnExactPickItems.E :=
  callSpec_of (d := 0) hX (by kernel_rfl) laws_FnExactPickItems.I_ok (by kernel_rfl) (by kernel_rfl) (by kernel_rfl) (fun _ _ _ _ h => by dsimp only [laws_FnExactPickItems.E] at h; cases h) (fun xs hp => by
    dsimp only [laws_FnExactPickItems.E] at hp ⊢
    split at hp
    · exact h _ _ _ _ hp
    · cases hp)
theorem laws_FnExactPickItems.ok : CallSpec Try.prog laws_FnExactPickItems.E := laws_FnExactPickItems.ok_of (by simp [laws_FnExactPickItems.X, laws_szArray.ok, laws_toArray.ok, spec_PickItems.ok, impl_PickItems.ok, laws_eqArray.ok, laws_markArray.ok, laws_heldArray.ok]) fun sh da s2 d2 h => ⟨0, by
  rw [laws_FnExactPickItems.e]
  simp only [Bool.and_eq_true] at h
  obtain ⟨⟨⟨g0, g1⟩, g2⟩, g3⟩ := h
  by_cases a0 : szA sh da 1048576 < 0
  · rw [decide_eq_true a0]; rfl
  obtain ⟨q0, p0⟩ := szA_le (by omega) (by omega) (of_decide_eq_true g0) (of_decide_eq_true g1) a0
  by_cases a1 : szA s2 d2 (szA sh da 1048576) < 0
  · rw [decide_eq_false a0, decide_eq_true a1]; rfl
  obtain ⟨q1, p1⟩ := szA_le (by omega) (by omega) (of_decide_eq_true g2) (of_decide_eq_true g3) a1
  have z0 := szB_of (xs := sh) (by omega)
  have z1 := szB_of (xs := da) (by omega)
  have z2 := szB_of (xs := s2) (by omega)
  have z3 := szB_of (xs := d2) (by omega)
  have hl := pk_len sh da s2 d2
  obtain ⟨r0a, r0b, r0c, r0d, r0e, r0f⟩ := marks_ok (sh := (pkS sh da s2 d2)) (da := (pkD sh da s2 d2)) (by omega) (by omega)
  have mk := mark4_ok (xs := sh) (ys := da) (zs := s2) (ws := d2) (by omega) (by omega) (by omega) (by omega)
  simp only [decide_eq_false a0, decide_eq_false a1, g0, g1, g2, g3, z0, z1, z2, z3, r0a, r0b, r0c, r0d, r0e, r0f, mk, bne_self_eq_false, beq_self_eq_true, decide_true, Bool.and_self, Bool.not_true, cond_true, cond_false]⟩

namespace spec_find
noncomputable def E : Entry := ⟨52, true, false, fun | [.d (.ints .i64 xs), .d (.int .i64 n)] => decide (xs.length < 9223372036854775808) | _ => false, fun | [.d (.ints .i64 xs), .d (.int .i64 n)] => ([.one ((.int .i64 ((xs.idxOf n : Nat) : Int)), false)], []) | _ => ([], []), fun _ => [], false, fun _ => none⟩
end spec_find
namespace spec_find
noncomputable def X : List Entry := []
noncomputable def I : List Inl := [⟨52, Try.f52, ⟨[], [(1000002, [2, 3, 4, 6, 7, 8, 9, 10, 11, 12, 13, 14, 15, 16, 17, 18, 19, 20])], [], [], [], []⟩⟩]
theorem I_ok : ∀ i ∈ I, Try.prog.funcs[i.f]? = some i.fn ∧ (i.fn.name == "runtime.NumGoroutine") = false := by
  intro i hi
  simp only [I, List.mem_cons, List.not_mem_nil, or_false] at hi
  subst hi
  exact ⟨by kernel_rfl, by kernel_rfl⟩
noncomputable abbrev L0 (fuel n : Nat) (s : St) (k : Kont) := lAt Try.prog X I fuel true 0 false 52 (bodyOf Try.f52) [1, 0, 1, 0] n s k
noncomputable abbrev k0  (fuel : Nat) : Kont := (kAt Try.prog X I fuel true 0 false 52 (bodyOf Try.f52) [1, 0, 1, 0] [] (endK Try.prog Try.f52))
noncomputable def t0 (p0 : List Int) (p1 : Int) (x0q2 : Int) : St := ⟨[(.imm (.ints .i64 p0)), (.imm (.int .i64 p1)), .dead, .dead, .dead, (.imm (.int .i64 x0q2)), .dead, .dead, .dead, .dead, .dead, .dead, .dead, .dead, .dead, .dead, .dead, .dead, .dead, .dead, .dead], hOf [], [], []⟩
theorem e (fuel : Nat) (p0 : List Int) (p1 : Int) : runF Try.prog X I 0 fuel 52 Try.f52 [.d (.ints .i64 p0), .d (.int .i64 p1)] =
  L0 fuel fuel (t0 p0 p1 0) (k0  fuel) := by kernel_rfl
theorem s0 (fuel n0 : Nat) (p0 : List Int) (p1 : Int) (x0q2 : Int) : L0 fuel (n0 + 1) (t0 p0 p1 x0q2) (k0  fuel) =
  (bif (decide ((x0q2 : Int) < ((p0.length : Nat) : Int))) then
  (idx x0q2 p0.length).bind fun j5 =>
  (p0[j5]?).bind fun v6 =>
  (bif ((v6 : Int) == p1) then
  some ([.one ((.int .i64 x0q2), false)], [])
  else
  L0 fuel n0 (t0 p0 p1 ((IntKind.wrap .i64 (x0q2 + 1)))) (k0  fuel))
  else
  some ([.one ((.int .i64 ((p0.length : Nat) : Int)), false)], [])) := by kernel_rfl
end spec_find
theorem spec_find.ok_of (hX : ∀ E ∈ spec_find.X, CallSpec Try.prog E) (h : ∀ (xs : List Int) (n : Int), (decide (xs.length < 9223372036854775808)) = true → ∃ fuel, runF Try.prog spec_find.X spec_find.I 0 fuel 52 Try.f52 [.d (.ints .i64 xs), .d (.int .i64 n)] = some ([.one ((.int .i64 ((xs.idxOf n : Nat) : Int)), false)], [])) : CallSpec Try.prog spec_find.E :=
  callSpec_of (d := 0) hX (by kernel_rfl) spec_find.I_ok (by kernel_rfl) (by kernel_rfl) (by kernel_rfl) (fun _ _ _ _ h => by dsimp only [spec_find.E] at h; cases h) (fun xs hp => by
    dsimp only [spec_find.E] at hp ⊢
    split at hp
    · exact h _ _ hp
    · cases hp)
theorem spec_find.ok : CallSpec Try.prog spec_find.E := spec_find.ok_of (by simp [spec_find.X]) fun xs v h => ⟨xs.length + 1, by
  simp only [decide_eq_true_eq] at h
  rw [spec_find.e]
  refine cnt_loop (N := xs.length) (fun n j (_ : Unit) => spec_find.L0 (xs.length + 1) n (spec_find.t0 xs v (j : Int)) (spec_find.k0 (xs.length + 1))) (fun j _ => ∀ i, i < j → xs.getD i 0 ≠ v) ?_ ?_ (xs.length + 1) 0 () (by omega) (by omega) (fun i hi => absurd hi (by omega))
  · intro n _ hI
    rw [spec_find.s0, dge (by omega), cond_false, idxOf_miss (contains_no hI)]
  · intro n j _ hj hI
    rw [spec_find.s0, dlt hj, cond_true, idx_nat hj, w1 (by omega)]
    simp only [Option.bind_some, getD_get hj]
    by_cases he : xs.getD j 0 = v
    · refine .inl ?_
      rw [show (xs.getD j 0 == v) = true by simpa using he, cond_true, idxOf_at hj hI he]
    · refine .inr ⟨(), ?_, by rw [show (xs.getD j 0 == v) = false by simpa using he, cond_false]⟩
      intro i hi
      by_cases h1 : i = j
      · subst h1; exact he
      · exact hI i (by omega)⟩

namespace spec_FindItems
noncomputable def E : Entry := ⟨27, false, false, fun | [.d (.agg [(.ints .i64 sh), (.ints .i64 da)]), .d (.agg [(.ints .i64 s2), (.ints .i64 d2)])] => decide (sh.length < 9223372036854775808) && decide (da.length < 9223372036854775808) && decide (s2.length < 9223372036854775808) && decide (d2.length < 9223372036854775808) | _ => false, fun | [.d (.agg [(.ints .i64 sh), (.ints .i64 da)]), .d (.agg [(.ints .i64 s2), (.ints .i64 d2)])] => ([.agg [((.ints .i64 (fiS sh da s2 d2)), true), ((.ints .i64 (fiD sh da s2 d2)), true)], .one ((.bool (fiB sh da s2 d2)), false)], []) | _ => ([], []), fun _ => [], true, fun _ => none⟩
end spec_FindItems
namespace spec_FindItems
noncomputable def X : List Entry := [spec_isVector.E, spec_valid.E, spec_find.E, spec_make1.E]
noncomputable def I : List Inl := [⟨27, Try.f27, ⟨[39], [(1000005, [0, 1, 5, 8, 9, 10, 11, 12, 13, 14, 15, 16, 17, 18, 19, 20, 21, 22, 23, 24, 25, 26, 27, 28, 29, 30, 31, 32, 33, 34, 35, 36, 37, 38, 39])], [], [(7, [0, 1, 3, 5, 2, 4, 6, 7, 8, 9, 10, 11])], [], []⟩⟩]
theorem I_ok : ∀ i ∈ I, Try.prog.funcs[i.f]? = some i.fn ∧ (i.fn.name == "runtime.NumGoroutine") = false := by
  intro i hi
  simp only [I, List.mem_cons, List.not_mem_nil, or_false] at hi
  subst hi
  exact ⟨by kernel_rfl, by kernel_rfl⟩
noncomputable abbrev L0 (fuel n : Nat) (s : St) (k : Kont) := lAt Try.prog X I fuel true 0 false 27 (bodyOf Try.f27) [1, 1, 1, 0, 1, 0] n s k
noncomputable abbrev k0  (fuel : Nat) : Kont := (kAt Try.prog X I fuel true 0 false 27 (bodyOf Try.f27) [1, 1, 1, 0, 1, 0] [] (endK Try.prog Try.f27))
noncomputable def t0 (p0q0 : List Int) (p0q1 : List Int) (p1q0 : List Int) (p1q1 : List Int) (x0q0 : Int) (x0q5 : List Int) : St := ⟨[.dead, .dead, (.ptr 1000000000 0 0), (.ptr 1000000001 0 0), (.ptr 1000000002 0 0), .dead, (.all 1000000003 1), (.imm (.int .i64 x0q0)), .dead, .dead, .dead, .dead, .dead, .dead, .dead, .dead, .dead, .dead, .dead, .dead, .dead, .dead, .dead, .dead, .dead, .dead, .dead, .dead, .dead, .dead, .dead, .dead, .dead, .dead, .dead, .dead, .dead, .dead, .dead, .dead], hOf [(1000000000, (.box [(.imm (.ints .i64 p0q0)), (.imm (.ints .i64 p0q1))])), (1000000001, (.box [(.imm (.ints .i64 p1q0)), (.imm (.ints .i64 p1q1))])), (1000000002, (.box [(.imm .nils), (.imm .nils)])), (1000000003, (.ints .i64 x0q5))], [], []⟩
theorem e (fuel : Nat) (p0q0 : List Int) (p0q1 : List Int) (p1q0 : List Int) (p1q1 : List Int) : runF Try.prog X I 0 fuel 27 Try.f27 [.d (.agg [(.ints .i64 p0q0), (.ints .i64 p0q1)]), .d (.agg [(.ints .i64 p1q0), (.ints .i64 p1q1)])] =
  (bif decide (p0q0.length < 9223372036854775808) && decide (p0q1.length < 9223372036854775808) then
  (bif (!(vcB p0q0 p0q1)) then
  some ([.agg [((.ints .i64 []), true), ((.ints .i64 []), true)], .one ((.bool false), false)], [])
  else
  (bif decide (p1q0.length < 9223372036854775808) && decide (p1q1.length < 9223372036854775808) then
  (bif (!(validA p1q0 p1q1)) then
  some ([.agg [((.ints .i64 []), true), ((.ints .i64 []), true)], .one ((.bool false), false)], [])
  else
  L0 fuel fuel (t0 p0q0 p0q1 p1q0 p1q1 0 ([])) (k0  fuel))
  else
  none))
  else
  none) := by kernel_rfl
theorem s0 (fuel n0 : Nat) (p0q0 : List Int) (p0q1 : List Int) (p1q0 : List Int) (p1q1 : List Int) (x0q0 : Int) (x0q5 : List Int) : L0 fuel (n0 + 1) (t0 p0q0 p0q1 p1q0 p1q1 x0q0 x0q5) (k0  fuel) =
  (bif (decide ((x0q0 : Int) < ((p1q1.length : Nat) : Int))) then
  (idx x0q0 p1q1.length).bind fun j5 =>
  (p1q1[j5]?).bind fun v6 =>
  (bif decide (p0q1.length < 9223372036854775808) then
  (bif fits (x0q5.length + ([((p0q1.idxOf v6 : Nat) : Int)] : List Int).length) 8 then
  L0 fuel n0 (t0 p0q0 p0q1 p1q0 p1q1 ((IntKind.wrap .i64 (x0q0 + 1))) ((x0q5 ++ [((p0q1.idxOf v6 : Nat) : Int)]))) (k0  fuel)
  else
  none)
  else
  none)
  else
  (bif szB p1q0 && szB x0q5 then
  some ([.agg [((.ints .i64 p1q0), true), ((.ints .i64 x0q5), true)], .one ((.bool true), false)], [])
  else
  none)) := by kernel_rfl
end spec_FindItems
theorem spec_FindItems.ok_of (hX : ∀ E ∈ spec_FindItems.X, CallSpec Try.prog E) (h : ∀ (sh : List Int) (da : List Int) (s2 : List Int) (d2 : List Int), (decide (sh.length < 9223372036854775808) && decide (da.length < 9223372036854775808) && decide (s2.length < 9223372036854775808) && decide (d2.length < 9223372036854775808)) = true → ∃ fuel, runF Try.prog spec_FindItems.X spec_FindItems.I 0 fuel 27 Try.f27 [.d (.agg [(.ints .i64 sh), (.ints .i64 da)]), .d (.agg [(.ints .i64 s2), (.ints .i64 d2)])] = some ([.agg [((.ints .i64 (fiS sh da s2 d2)), true), ((.ints .i64 (fiD sh da s2 d2)), true)], .one ((.bool (fiB sh da s2 d2)), false)], [])) : CallSpec Try.prog spec_FindItems.E :=
  callSpec_of (d := 0) hX (by kernel_rfl) spec_FindItems.I_ok (by kernel_rfl) (by kernel_rfl) (by kernel_rfl) (fun _ _ _ _ h => by dsimp only [spec_FindItems.E] at h; cases h) (fun xs hp => by
    dsimp only [spec_FindItems.E] at hp ⊢
    split at hp
    · exact h _ _ _ _ hp
    · cases hp)
theorem spec_FindItems.ok : CallSpec Try.prog spec_FindItems.E := spec_FindItems.ok_of (by simp [spec_FindItems.X, spec_isVector.ok, spec_valid.ok, spec_find.ok, spec_make1.ok]) fun sh da s2 d2 h => by
  obtain ⟨F, hF⟩ : ∃ F : Nat, d2.length < F := ⟨d2.length + 1, by omega⟩
  refine ⟨F, ?_⟩
  simp only [Bool.and_eq_true] at h
  obtain ⟨⟨⟨h1, h2⟩, h3⟩, h4⟩ := h
  rw [spec_FindItems.e, h1, h2, h3, h4]
  unfold fiS fiD fiB
  cases hb : vcB sh da with
  | false => rfl
  | true =>
    cases hv : validA s2 d2 with
    | false => rfl
    | true =>
      have hl2 := validA_len hv
      simp only [cond_true, Bool.and_self, Bool.not_true, cond_false]
      refine run_loop (N := d2.length) (fun n j out => spec_FindItems.L0 F n (spec_FindItems.t0 sh da s2 d2 (j : Int) out) (spec_FindItems.k0 F)) (fun j out => out = tab j fun i => ((da.idxOf (d2.getD i 0) : Nat) : Int)) ?_ ?_ F 0 [] (by omega) (by omega) rfl
      · rintro n out rfl
        rw [spec_FindItems.s0, dge (by omega), cond_false, szB_of (xs := s2) (by omega), szB_of (by rw [tab_length]; omega)]
        rfl
      · rintro n j out hj rfl
        rw [spec_FindItems.s0, dlt hj, cond_true, idx_nat hj, w1 (by omega), h2]
        simp only [Option.bind_some, getD_get hj, cond_true]
        rw [fitsOk (by simp only [tab_length, List.length_cons, List.length_nil]; omega), cond_true]
        exact ⟨_, by rw [tab_succ], rfl⟩

namespace slices_Index_int_int
noncomputable def E : Entry := ⟨53, true, false, fun | [.d (.ints .i64 xs), .d (.int .i64 v)] => decide (xs.length < 9223372036854775808) | _ => false, fun | [.d (.ints .i64 xs), .d (.int .i64 v)] => ([.one ((.int .i64 (idxI xs v)), false)], []) | _ => ([], []), fun _ => [], false, fun _ => none⟩
end slices_Index_int_int
namespace slices_Index_int_int
noncomputable def X : List Entry := []
noncomputable def I : List Inl := [⟨53, Try.f53, ⟨[], [(1000002, [2, 3, 4, 5, 6, 9, 10, 11, 12, 13, 14, 15, 16, 17, 18])], [], [], [], []⟩⟩]
theorem I_ok : ∀ i ∈ I, Try.prog.funcs[i.f]? = some i.fn ∧ (i.fn.name == "runtime.NumGoroutine") = false := by
  intro i hi
  simp only [I, List.mem_cons, List.not_mem_nil, or_false] at hi
  subst hi
  exact ⟨by kernel_rfl, by kernel_rfl⟩
noncomputable abbrev L0 (fuel n : Nat) (s : St) (k : Kont) := lAt Try.prog X I fuel true 0 false 53 (bodyOf Try.f53) [1, 0, 1, 0] n s k
noncomputable abbrev k0  (fuel : Nat) : Kont := (kAt Try.prog X I fuel true 0 false 53 (bodyOf Try.f53) [1, 0, 1, 0] [] (endK Try.prog Try.f53))
noncomputable def t0 (p0 : List Int) (p1 : Int) (x0q3 : Int) : St := ⟨[(.imm (.ints .i64 p0)), (.imm (.int .i64 p1)), .dead, .dead, .dead, .dead, .dead, (.imm (.int .i64 ((p0.length : Nat) : Int))), (.imm (.int .i64 x0q3)), .dead, .dead, .dead, .dead, .dead, .dead, .dead, .dead, .dead, .dead], hOf [], [], []⟩
theorem e (fuel : Nat) (p0 : List Int) (p1 : Int) : runF Try.prog X I 0 fuel 53 Try.f53 [.d (.ints .i64 p0), .d (.int .i64 p1)] =
  L0 fuel fuel (t0 p0 p1 0) (k0  fuel) := by kernel_rfl
theorem s0 (fuel n0 : Nat) (p0 : List Int) (p1 : Int) (x0q3 : Int) : L0 fuel (n0 + 1) (t0 p0 p1 x0q3) (k0  fuel) =
  (bif (decide ((x0q3 : Int) < ((p0.length : Nat) : Int))) then
  (idx x0q3 p0.length).bind fun j5 =>
  (p0[j5]?).bind fun v6 =>
  (bif ((p1 : Int) == v6) then
  some ([.one ((.int .i64 x0q3), false)], [])
  else
  L0 fuel n0 (t0 p0 p1 ((IntKind.wrap .i64 (x0q3 + 1)))) (k0  fuel))
  else
  some ([.one ((.int .i64 (-1)), false)], [])) := by kernel_rfl
end slices_Index_int_int
theorem slices_Index_int_int.ok_of (hX : ∀ E ∈ slices_Index_int_int.X, CallSpec Try.prog E) (h : ∀ (xs : List Int) (v : Int), (decide (xs.length < 9223372036854775808)) = true → ∃ fuel, runF Try.prog slices_Index_int_int.X slices_Index_int_int.I 0 fuel 53 Try.f53 [.d (.ints .i64 xs), .d (.int .i64 v)] = some ([.one ((.int .i64 (idxI xs v)), false)], [])) : CallSpec Try.prog slices_Index_int_int.E :=
  callSpec_of (d := 0) hX (by kernel_rfl) slices_Index_int_int.I_ok (by kernel_rfl) (by kernel_rfl) (by kernel_rfl) (fun _ _ _ _ h => by dsimp only [slices_Index_int_int.E] at h; cases h) (fun xs hp => by
    dsimp only [slices_Index_int_int.E] at hp ⊢
    split at hp
    · exact h _ _ hp
    · cases hp)
theorem slices_Index_int_int.ok : CallSpec Try.prog slices_Index_int_int.E := slices_Index_int_int.ok_of (by simp [slices_Index_int_int.X]) fun xs v h => ⟨xs.length + 1, by
  simp only [decide_eq_true_eq] at h
  rw [slices_Index_int_int.e]
  refine cnt_loop (N := xs.length) (fun n j (_ : Unit) => slices_Index_int_int.L0 (xs.length + 1) n (slices_Index_int_int.t0 xs v (j : Int)) (slices_Index_int_int.k0 (xs.length + 1))) (fun j _ => ∀ i, i < j → xs.getD i 0 ≠ v) ?_ ?_ (xs.length + 1) 0 () (by omega) (by omega) (fun i hi => absurd hi (by omega))
  · intro n _ hI
    rw [slices_Index_int_int.s0, dge (by omega), cond_false, idxI_no hI]
  · intro n j _ hj hI
    rw [slices_Index_int_int.s0, dlt hj, cond_true, idx_nat hj, w1 (by omega)]
    simp only [Option.bind_some, getD_get hj]
    by_cases he : v = xs.getD j 0
    · refine .inl ?_
      rw [show (v == xs.getD j 0) = true by simp [he], cond_true, idxI_at hj hI he.symm]
    · refine .inr ⟨(), ?_, by rw [show (v == xs.getD j 0) = false by simpa using he, cond_false]⟩
      intro i hi
      by_cases h1 : i = j
      · subst h1; exact fun e => he e.symm
      · exact hI i (by omega)⟩

namespace impl_FindItems
noncomputable def E : Entry := ⟨28, false, false, fun | [.d (.agg [(.ints .i64 sh), (.ints .i64 da)]), .d (.agg [(.ints .i64 s2), (.ints .i64 d2)])] => decide (sh.length < 9223372036854775808) && decide (da.length < 9223372036854775808) && decide (s2.length < 9223372036854775808) && decide (d2.length < 9223372036854775808) | _ => false, fun | [.d (.agg [(.ints .i64 sh), (.ints .i64 da)]), .d (.agg [(.ints .i64 s2), (.ints .i64 d2)])] => ([.agg [((.ints .i64 (fiS sh da s2 d2)), true), ((.ints .i64 (fiD sh da s2 d2)), true)], .one ((.bool (fiB sh da s2 d2)), false)], []) | _ => ([], []), fun _ => [], true, fun _ => none⟩
end impl_FindItems
namespace impl_FindItems
noncomputable def X : List Entry := [impl_isVector.E, impl_ValidArray.E, slices_Index_int_int.E, impl_copyList.E]
noncomputable def I : List Inl := [⟨28, Try.f28, ⟨[51], [(1000005, [0, 1, 5, 7, 8, 9, 10, 11, 12, 13, 14, 15, 16, 17, 18, 19, 20, 21, 22, 26, 27, 28, 29, 30, 31, 32, 33, 34, 35, 36, 37, 38, 39, 40, 41, 42, 43, 44, 45, 46, 47, 48, 49, 50, 51, 52, 53])], [], [], [], []⟩⟩]
theorem I_ok : ∀ i ∈ I, Try.prog.funcs[i.f]? = some i.fn ∧ (i.fn.name == "runtime.NumGoroutine") = false := by
  intro i hi
  simp only [I, List.mem_cons, List.not_mem_nil, or_false] at hi
  subst hi
  exact ⟨by kernel_rfl, by kernel_rfl⟩
noncomputable abbrev L0 (fuel n : Nat) (s : St) (k : Kont) := lAt Try.prog X I fuel true 0 false 28 (bodyOf Try.f28) [1, 1, 1, 0, 1, 0] n s k
noncomputable abbrev k0  (fuel : Nat) : Kont := (kAt Try.prog X I fuel true 0 false 28 (bodyOf Try.f28) [1, 1, 1, 0, 1, 0] [] (endK Try.prog Try.f28))
noncomputable def t0 (p1q1 : List Int) (p0q0 : List Int) (p0q1 : List Int) (p1q0 : List Int) (x0q2 : Int) (x0q7 : List Int) : St := ⟨[.dead, .dead, (.ptr 1000000000 0 0), (.ptr 1000000001 0 0), (.ptr 1000000002 0 0), .dead, (.all 1000000003 1), .dead, .dead, .dead, .dead, .dead, .dead, .dead, .dead, .dead, .dead, .dead, .dead, .dead, .dead, .dead, .dead, (.imm (.ints .i64 p1q1)), (.imm (.int .i64 ((p1q1.length : Nat) : Int))), (.imm (.int .i64 x0q2)), .dead, .dead, .dead, .dead, .dead, .dead, .dead, .dead, .dead, .dead, .dead, .dead, .dead, .dead, .dead, .dead, .dead, .dead, .dead, .dead, .dead, .dead, .dead, .dead, .dead, .dead, .dead, .dead], hOf [(1000000000, (.box [(.imm (.ints .i64 p0q0)), (.imm (.ints .i64 p0q1))])), (1000000001, (.box [(.imm (.ints .i64 p1q0)), (.imm (.ints .i64 p1q1))])), (1000000002, (.box [(.imm .nils), (.imm .nils)])), (1000000003, (.ints .i64 x0q7))], [], []⟩
theorem e (fuel : Nat) (p0q0 : List Int) (p0q1 : List Int) (p1q0 : List Int) (p1q1 : List Int) : runF Try.prog X I 0 fuel 28 Try.f28 [.d (.agg [(.ints .i64 p0q0), (.ints .i64 p0q1)]), .d (.agg [(.ints .i64 p1q0), (.ints .i64 p1q1)])] =
  (bif decide (p0q0.length < 9223372036854775808) && decide (p0q1.length < 9223372036854775808) then
  (bif (!(vcB p0q0 p0q1)) then
  some ([.agg [((.ints .i64 []), true), ((.ints .i64 []), true)], .one ((.bool false), false)], [])
  else
  (bif decide (p1q0.length < 9223372036854775808) && decide (p1q1.length < 9223372036854775808) then
  (bif (!(validA p1q0 p1q1)) then
  some ([.agg [((.ints .i64 []), true), ((.ints .i64 []), true)], .one ((.bool false), false)], [])
  else
  (bif decide (0 ≤ (((p1q1.length : Nat) : Int) : Int)) && decide ((((p1q1.length : Nat) : Int) : Int) ≤ ((p1q1.length : Nat) : Int)) && decide ((((p1q1.length : Nat) : Int) : Int) ≤ 1152921504606846976) && decide (((8 : Nat) : Int) * ((p1q1.length : Nat) : Int) ≤ 281474976710656) then
  L0 fuel fuel (t0 p1q1 p0q0 p0q1 p1q0 0 ((List.replicate (((p1q1.length : Nat) : Int)).toNat (0 : Int)))) (k0  fuel)
  else
  none))
  else
  none))
  else
  none) := by kernel_rfl
theorem s0 (fuel n0 : Nat) (p1q1 : List Int) (p0q0 : List Int) (p0q1 : List Int) (p1q0 : List Int) (x0q2 : Int) (x0q7 : List Int) : L0 fuel (n0 + 1) (t0 p1q1 p0q0 p0q1 p1q0 x0q2 x0q7) (k0  fuel) =
  (bif (decide ((x0q2 : Int) < ((p1q1.length : Nat) : Int))) then
  (idx x0q2 p1q1.length).bind fun j13 =>
  (p1q1[j13]?).bind fun v14 =>
  (bif decide (p0q1.length < 9223372036854775808) then
  (idx x0q2 x0q7.length).bind fun j15 =>
  (bif decide (j15 < x0q7.length) then
  (idx x0q2 (x0q7.set j15 (idxI p0q1 v14)).length).bind fun j16 =>
  ((x0q7.set j15 (idxI p0q1 v14))[j16]?).bind fun v17 =>
  (bif (decide ((v17 : Int) < 0)) then
  (idx x0q2 (x0q7.set j15 (idxI p0q1 v14)).length).bind fun j18 =>
  (bif decide (j18 < (x0q7.set j15 (idxI p0q1 v14)).length) then
  L0 fuel n0 (t0 p1q1 p0q0 p0q1 p1q0 ((IntKind.wrap .i64 (x0q2 + 1))) (((x0q7.set j15 (idxI p0q1 v14)).set j18 ((p0q1.length : Nat) : Int)))) (k0  fuel)
  else
  none)
  else
  L0 fuel n0 (t0 p1q1 p0q0 p0q1 p1q0 ((IntKind.wrap .i64 (x0q2 + 1))) ((x0q7.set j15 (idxI p0q1 v14)))) (k0  fuel))
  else
  none)
  else
  none)
  else
  (bif szB p1q0 then
  some ([.agg [((.ints .i64 p1q0), true), ((.ints .i64 x0q7), true)], .one ((.bool true), false)], [])
  else
  none)) := by kernel_rfl
end impl_FindItems
theorem impl_FindItems.ok_of (hX : ∀ E ∈ impl_FindItems.X, CallSpec Try.prog E) (h : ∀ (sh : List Int) (da : List Int) (s2 : List Int) (d2 : List Int), (decide (sh.length < 9223372036854775808) && decide (da.length < 9223372036854775808) && decide (s2.length < 9223372036854775808) && decide (d2.length < 9223372036854775808)) = true → ∃ fuel, runF Try.prog impl_FindItems.X impl_FindItems.I 0 fuel 28 Try.f28 [.d (.agg [(.ints .i64 sh), (.ints .i64 da)]), .d (.agg [(.ints .i64 s2), (.ints .i64 d2)])] = some ([.agg [((.ints .i64 (fiS sh da s2 d2)), true), ((.ints .i64 (fiD sh da s2 d2)), true)], .one ((.bool (fiB sh da s2 d2)), false)], [])) : CallSpec Try.prog impl_FindItems.E :=
  callSpec_of (d := 0) hX (by kernel_rfl) impl_FindItems.I_ok (by kernel_rfl) (by kernel_rfl) (by kernel_rfl) (fun _ _ _ _ h => by dsimp only [impl_FindItems.E] at h; cases h) (fun xs hp => by
    dsimp only [impl_FindItems.E] at hp ⊢
    split at hp
    · exact h _ _ _ _ hp
    · cases hp)
theorem impl_FindItems.ok : CallSpec Try.prog impl_FindItems.E := impl_FindItems.ok_of (by simp [impl_FindItems.X, impl_isVector.ok, impl_ValidArray.ok, slices_Index_int_int.ok, impl_copyList.ok]) fun sh da s2 d2 h => by
  obtain ⟨F, hF⟩ : ∃ F : Nat, d2.length < F := ⟨d2.length + 1, by omega⟩
  refine ⟨F, ?_⟩
  simp only [Bool.and_eq_true] at h
  obtain ⟨⟨⟨h1, h2⟩, h3⟩, h4⟩ := h
  rw [impl_FindItems.e, h1, h2, h3, h4]
  unfold fiS fiD fiB
  cases hb : vcB sh da with
  | false => rfl
  | true =>
    cases hv : validA s2 d2 with
    | false => rfl
    | true =>
      have hl2 := validA_len hv
      have hN := fiN_length da d2
      rw [mkOk (by omega) (by omega), Int.toNat_natCast]
      simp only [cond_true, Bool.and_self, Bool.not_true, cond_false]
      refine run_loop (N := d2.length) (fun n j out => impl_FindItems.L0 F n (impl_FindItems.t0 d2 sh da s2 (j : Int) out) (impl_FindItems.k0 F)) (fun j out => out = part (fiN da d2) j) ?_ ?_ F 0 _ (by omega) (by omega) (by rw [part_zero, hN])
      · rintro n out hI
        have hall := part_all (fiN da d2)
        rw [hN] at hall
        rw [hall] at hI
        rw [impl_FindItems.s0, dge (by omega), cond_false, szB_of (xs := s2) (by omega), hI]
        rfl
      · rintro n j out hj hI
        have hol : out.length = d2.length := by rw [hI, part_length (by omega), hN]
        rw [impl_FindItems.s0, dlt hj, cond_true, idx_nat hj, w1 (by omega), h2, idx_nat (by omega)]
        simp only [Option.bind_some, getD_get hj, cond_true]
        rw [decide_eq_true (p := j < out.length) (by omega), cond_true, idx_nat (by rw [List.length_set]; omega)]
        simp only [Option.bind_some]
        rw [List.getElem?_set_self (by omega)]
        simp only [Option.bind_some]
        rw [decide_eq_true (p := j < (out.set j (idxI da (d2.getD j 0))).length) (by rw [List.length_set]; omega)]
        simp only [cond_true, List.set_set]
        have hx := idx_of_i (xs := da) (v := d2.getD j 0)
        refine ⟨out.set j ((da.idxOf (d2.getD j 0) : Nat) : Int), ?_, ?_⟩
        · rw [hI, part_set (by omega)]
          simp only [fiN]
          rw [tab_getD hj]
        · cases hc : decide (idxI da (d2.getD j 0) < 0) with
          | true => rw [hc] at hx; simp only [cond_true] at hx ⊢; rw [hx]
          | false => rw [hc] at hx; simp only [cond_false] at hx ⊢; rw [hx]

namespace laws_FnExactFindItems
noncomputable def E : Entry := ⟨8, true, false, fun | [.d (.agg [(.ints .i64 sh), (.ints .i64 da)]), .d (.agg [(.ints .i64 s2), (.ints .i64 d2)])] => decide (sh.length < 9223372036854775808) && decide (da.length < 9223372036854775808) && decide (s2.length < 9223372036854775808) && decide (d2.length < 9223372036854775808) | _ => false, fun | [.d (.agg [(.ints .i64 sh), (.ints .i64 da)]), .d (.agg [(.ints .i64 s2), (.ints .i64 d2)])] => ([.one ((.bool true), false)], []) | _ => ([], []), fun _ => [], false, fun _ => none⟩
end laws_FnExactFindItems
namespace laws_FnExactFindItems
noncomputable def X : List Entry := [laws_szArray.E, laws_toArray.E, spec_FindItems.E, impl_FindItems.E, laws_eqArray.E, laws_markArray.E, laws_heldArray.E]
noncomputable def I : List Inl := [⟨8, Try.f8, ⟨[29, 31, 32, 36, 38, 42, 56, 61, 96, 98, 99], [], [], [(8, [0, 2, 1, 3, 4, 5, 6, 7, 8, 9, 10]), (31, [0, 2, 1, 3, 4, 5, 6, 7, 8, 9, 10])], [], []⟩⟩]
theorem I_ok : ∀ i ∈ I, Try.prog.funcs[i.f]? = some i.fn ∧ (i.fn.name == "runtime.NumGoroutine") = false := by
  intro i hi
  simp only [I, List.mem_cons, List.not_mem_nil, or_false] at hi
  subst hi
  exact ⟨by kernel_rfl, by kernel_rfl⟩
theorem e (fuel : Nat) (p0q0 : List Int) (p0q1 : List Int) (p1q0 : List Int) (p1q1 : List Int) : runF Try.prog X I 0 fuel 8 Try.f8 [.d (.agg [(.ints .i64 p0q0), (.ints .i64 p0q1)]), .d (.agg [(.ints .i64 p1q0), (.ints .i64 p1q1)])] =
  (bif (decide (((szA p0q0 p0q1 1048576) : Int) < 0)) then
  some ([.one ((.bool true), false)], [])
  else
  (bif (decide (((szA p1q0 p1q1 ((szA p0q0 p0q1 1048576))) : Int) < 0)) then
  some ([.one ((.bool true), false)], [])
  else
  (bif szB p0q0 && szB p0q1 then
  (bif szB p1q0 && szB p1q1 then
  (bif decide (p0q0.length < 9223372036854775808) && decide (p0q1.length < 9223372036854775808) && decide (p1q0.length < 9223372036854775808) && decide (p1q1.length < 9223372036854775808) then
  (bif szB p0q0 && szB p0q1 then
  (bif szB p1q0 && szB p1q1 then
  (bif decide (p0q0.length < 9223372036854775808) && decide (p0q1.length < 9223372036854775808) && decide (p1q0.length < 9223372036854775808) && decide (p1q1.length < 9223372036854775808) then
  (bif decide (((fiS p0q0 p0q1 p1q0 p1q1)).length < 9223372036854775808) && decide (((fiD p0q0 p0q1 p1q0 p1q1)).length < 9223372036854775808) && decide (((fiS p0q0 p0q1 p1q0 p1q1)).length < 9223372036854775808) && decide (((fiD p0q0 p0q1 p1q0 p1q1)).length < 9223372036854775808) then
  (bif (!(decide (((fiS p0q0 p0q1 p1q0 p1q1)) = ((fiS p0q0 p0q1 p1q0 p1q1))) && decide (((fiD p0q0 p0q1 p1q0 p1q1)) = ((fiD p0q0 p0q1 p1q0 p1q1))))) then
  some ([.one ((.bool false), false)], [])
  else
  (bif (!((fiB p0q0 p0q1 p1q0 p1q1) == (fiB p0q0 p0q1 p1q0 p1q1))) then
  some ([.one ((.bool false), false)], [])
  else
  (bif szB p0q0 && szB p0q1 then
  (bif decide (p0q0.length < 9223372036854775808) && decide (p0q1.length < 9223372036854775808) && decide (p0q0.length < 9223372036854775808) && decide (p0q1.length < 9223372036854775808) then
  (bif (!(decide (p0q0 = p0q0) && decide (p0q1 = p0q1))) then
  some ([.one ((.bool false), false)], [])
  else
  (bif szB p1q0 && szB p1q1 then
  (bif decide (p1q0.length < 9223372036854775808) && decide (p1q1.length < 9223372036854775808) && decide (p1q0.length < 9223372036854775808) && decide (p1q1.length < 9223372036854775808) then
  (bif (!(decide (p1q0 = p1q0) && decide (p1q1 = p1q1))) then
  some ([.one ((.bool false), false)], [])
  else
  (bif decide (p0q0.length < 9223372036854775808) && decide (p0q1.length < 9223372036854775808) then
  (bif decide (p1q0.length < 9223372036854775808) && decide (p1q1.length < 9223372036854775808) then
  (bif (decide (((markK p1q1 (markK p1q0 ((markK p0q1 (markK p0q0 1))))) : Int) < 0)) then
  some ([.one ((.bool false), false)], [])
  else
  (bif decide (((fiS p0q0 p0q1 p1q0 p1q1)).length < 9223372036854775808) && decide (((fiD p0q0 p0q1 p1q0 p1q1)).length < 9223372036854775808) && decide (((fiS p0q0 p0q1 p1q0 p1q1)).length < 9223372036854775808) && decide (((fiD p0q0 p0q1 p1q0 p1q1)).length < 9223372036854775808) then
  (bif (!(decide (((fiS p0q0 p0q1 p1q0 p1q1)) = ((fiS p0q0 p0q1 p1q0 p1q1))) && decide (((fiD p0q0 p0q1 p1q0 p1q1)) = ((fiD p0q0 p0q1 p1q0 p1q1))))) then
  some ([.one ((.bool false), false)], [])
  else
  (bif (!((fiB p0q0 p0q1 p1q0 p1q1) == (fiB p0q0 p0q1 p1q0 p1q1))) then
  some ([.one ((.bool false), false)], [])
  else
  (bif decide (((fiS p0q0 p0q1 p1q0 p1q1)).length < 9223372036854775808) && decide (((fiD p0q0 p0q1 p1q0 p1q1)).length < 9223372036854775808) then
  (bif decide (((markL ((fiS p0q0 p0q1 p1q0 p1q1)) 1)).length < 9223372036854775808) && decide (((markL ((fiD p0q0 p0q1 p1q0 p1q1)) (markK ((fiS p0q0 p0q1 p1q0 p1q1)) 1))).length < 9223372036854775808) then
  (bif (decide (((heldA ((markL ((fiS p0q0 p0q1 p1q0 p1q1)) 1)) ((markL ((fiD p0q0 p0q1 p1q0 p1q1)) (markK ((fiS p0q0 p0q1 p1q0 p1q1)) 1))) 1) : Int) < 0)) then
  some ([.one ((.bool false), false)], [])
  else
  (bif (((heldA ((markL ((fiS p0q0 p0q1 p1q0 p1q1)) 1)) ((markL ((fiD p0q0 p0q1 p1q0 p1q1)) (markK ((fiS p0q0 p0q1 p1q0 p1q1)) 1))) 1) : Int) != (markK ((fiD p0q0 p0q1 p1q0 p1q1)) (markK ((fiS p0q0 p0q1 p1q0 p1q1)) 1))) then
  some ([.one ((.bool false), false)], [])
  else
  (bif szB p0q0 && szB p0q1 then
  (bif szB p1q0 && szB p1q1 then
  (bif decide (p0q0.length < 9223372036854775808) && decide (p0q1.length < 9223372036854775808) && decide (p1q0.length < 9223372036854775808) && decide (p1q1.length < 9223372036854775808) then
  (bif decide (((fiS p0q0 p0q1 p1q0 p1q1)).length < 9223372036854775808) && decide (((fiD p0q0 p0q1 p1q0 p1q1)).length < 9223372036854775808) && decide (((fiS p0q0 p0q1 p1q0 p1q1)).length < 9223372036854775808) && decide (((fiD p0q0 p0q1 p1q0 p1q1)).length < 9223372036854775808) then
  (bif (!(decide (((fiS p0q0 p0q1 p1q0 p1q1)) = ((fiS p0q0 p0q1 p1q0 p1q1))) && decide (((fiD p0q0 p0q1 p1q0 p1q1)) = ((fiD p0q0 p0q1 p1q0 p1q1))))) then
  some ([.one ((.bool false), false)], [])
  else
  (bif (!((fiB p0q0 p0q1 p1q0 p1q1) == (fiB p0q0 p0q1 p1q0 p1q1))) then
  some ([.one ((.bool false), false)], [])
  else
  (bif decide (((markL ((fiS p0q0 p0q1 p1q0 p1q1)) 1)).length < 9223372036854775808) && decide (((markL ((fiD p0q0 p0q1 p1q0 p1q1)) (markK ((fiS p0q0 p0q1 p1q0 p1q1)) 1))).length < 9223372036854775808) then
  (bif (decide (((heldA ((markL ((fiS p0q0 p0q1 p1q0 p1q1)) 1)) ((markL ((fiD p0q0 p0q1 p1q0 p1q1)) (markK ((fiS p0q0 p0q1 p1q0 p1q1)) 1))) 1) : Int) < 0)) then
  some ([.one ((.bool false), false)], [])
  else
  (bif (((heldA ((markL ((fiS p0q0 p0q1 p1q0 p1q1)) 1)) ((markL ((fiD p0q0 p0q1 p1q0 p1q1)) (markK ((fiS p0q0 p0q1 p1q0 p1q1)) 1))) 1) : Int) != (markK ((fiD p0q0 p0q1 p1q0 p1q1)) (markK ((fiS p0q0 p0q1 p1q0 p1q1)) 1))) then
  some ([.one ((.bool false), false)], [])
  else
  some ([.one ((.bool true), false)], [])))
  else
  none)))
  else
  none)
  else
  none)
  else
  none)
  else
  none)))
  else
  none)
  else
  none)))
  else
  none))
  else
  none)
  else
  none))
  else
  none)
  else
  none))
  else
  none)
  else
  none)))
  else
  none)
  else
  none)
  else
  none)
  else
  none)
  else
  none)
  else
  none)
  else
  none))) := by kernel_rfl
end laws_FnExactFindItems
theorem laws_FnExactFindItems.ok_of (hX : ∀ E ∈ laws_FnExactFindItems.X, CallSpec Try.prog E) (h : ∀ (sh : List Int) (da : List Int) (s2 : List Int) (d2 : List Int), (decide (sh.length < 9223372036854775808) && decide (da.length < 9223372036854775808) && decide (s2.length < 9223372036854775808) && decide (d2.length < 9223372036854775808)) = true → ∃ fuel, runF Try.prog laws_FnExactFindItems.X laws_FnExactFindItems.I 0 fuel 8 Try.f8 [.d (.agg [(.ints .i64 sh), (.ints .i64 da)]), .d (.agg [(.ints .i64 s2), (.ints .i64 d2)])] = some ([.one ((.bool true), false)], [])) : CallSpec Try.prog laws_FnExactFindItems.E :=
  callSpec_of (d := 0) hX (by kernel_rfl) laws_FnExactFindItems.I_ok (by kernel_rfl) (by kernel_rfl) (by kernel_rfl) (fun _ _ _ _ h => by dsimp only [laws_FnExactFindItems.E] at h; cases h) (fun xs hp => by
    dsimp only [laws_FnExactFindItems.E] at hp ⊢
    split at hp
    · exact h _ _ _ _ hp
    · cases hp)
theorem laws_FnExactFindItems.ok : CallSpec Try.prog laws_FnExactFindItems.E := laws_FnExactFindItems.ok_of (by simp [laws_FnExactFindItems.X, laws_szArray.ok, laws_toArray.ok, spec_FindItems.ok, impl_FindItems.ok, laws_eqArray.ok, laws_markArray.ok, laws_heldArray.ok]) fun sh da s2 d2 h => ⟨0, by
  rw [laws_FnExactFindItems.e]
  simp only [Bool.and_eq_true] at h
  obtain ⟨⟨⟨g0, g1⟩, g2⟩, g3⟩ := h
  by_cases a0 : szA sh da 1048576 < 0
  · rw [decide_eq_true a0]; rfl
  obtain ⟨q0, p0⟩ := szA_le (by omega) (by omega) (of_decide_eq_true g0) (of_decide_eq_true g1) a0
  by_cases a1 : szA s2 d2 (szA sh da 1048576) < 0
  · rw [decide_eq_false a0, decide_eq_true a1]; rfl
  obtain ⟨q1, p1⟩ := szA_le (by omega) (by omega) (of_decide_eq_true g2) (of_decide_eq_true g3) a1
  have z0 := szB_of (xs := sh) (by omega)
  have z1 := szB_of (xs := da) (by omega)
  have z2 := szB_of (xs := s2) (by omega)
  have z3 := szB_of (xs := d2) (by omega)
  have hl := fi_len sh da s2 d2
  obtain ⟨r0a, r0b, r0c, r0d, r0e, r0f⟩ := marks_ok (sh := (fiS sh da s2 d2)) (da := (fiD sh da s2 d2)) (by omega) (by omega)
  have mk := mark4_ok (xs := sh) (ys := da) (zs := s2) (ws := d2) (by omega) (by omega) (by omega) (by omega)
  simp only [decide_eq_false a0, decide_eq_false a1, g0, g1, g2, g3, z0, z1, z2, z3, r0a, r0b, r0c, r0d, r0e, r0f, mk, bne_self_eq_false, beq_self_eq_true, decide_true, Bool.and_self, Bool.not_true, cond_true, cond_false]⟩

end Go.Ab
