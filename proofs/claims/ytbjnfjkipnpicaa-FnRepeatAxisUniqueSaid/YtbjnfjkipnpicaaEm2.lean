import Derived.Test.YtbjnfjkipnpicaaEm1
import Derived.Test.YtbjnfjkipnpicaaProg
import Derived.Test.YtbjnfjkipnpicaaChecked
open Go Go.Ab Go.Proofs
set_option maxRecDepth 100000
set_option linter.unusedVariables false
set_option linter.unusedSimpArgs false
namespace Go.Ab
namespace impl_view_copied
noncomputable def E : Entry := ⟨63, false, false, fun | [.d (.agg [(.ints .i64 sh), (.ints .i64 da), (.int .i64 k), (.int .i64 len), (.fn false dom G)])] => axB sh da k && domB len dom | _ => false, fun | [.d (.agg [(.ints .i64 sh), (.ints .i64 da), (.int .i64 k), (.int .i64 len), (.fn false dom G)])] => ([.agg [((.ints .i64 (cpS sh k len)), true), ((.ints .i64 (cpD sh da k len G)), true)], .one ((.bool (cpB sh k len)), false)], []) | _ => ([], []), fun _ => [], true, fun _ => none⟩
end impl_view_copied
namespace impl_view_copied
noncomputable def X : List Entry := [impl_copyList.E, impl_layoutOf_j.E]
noncomputable def I : List Inl := [⟨63, Try.f63, ⟨[17, 26], [(1000009, [0, 3, 5, 6, 10, 11, 12, 13, 14, 15, 16, 17, 18, 19, 20, 21, 22, 23, 24, 25, 26, 27, 28, 29, 30, 31, 32, 33, 34, 35, 36, 37, 38, 39, 40, 41, 42, 43, 44, 45, 46, 47, 50, 51, 52, 53, 54, 55, 56, 57, 58, 59, 60, 61, 62, 63, 64, 65, 66, 67, 68, 69, 70, 71, 72, 73, 74, 75, 76, 77, 78, 79, 80, 81, 82, 83, 84, 85, 86, 87, 88, 89, 90, 91, 92, 93, 94, 95])], [], [(7, [0, 2, 5, 6, 8, 1, 3, 4, 12, 7, 9, 10, 11, 13]), (12, [0, 2, 3, 1, 4, 5, 6, 7]), (14, [0, 1, 2, 3, 5, 6, 9, 11, 13, 15, 4, 7, 8, 10, 12, 14, 16, 17, 18, 19, 20])], [], []⟩⟩]
theorem I_ok : ∀ i ∈ I, Try.prog.funcs[i.f]? = some i.fn ∧ (i.fn.name == "runtime.NumGoroutine") = false := by
  intro i hi
  simp only [I, List.mem_cons, List.not_mem_nil, or_false] at hi
  subst hi
  exact ⟨by kernel_rfl, by kernel_rfl⟩
noncomputable abbrev L0 (fuel n : Nat) (s : St) (k : Kont) := lAt Try.prog X I fuel true 0 false 63 (bodyOf Try.f63) [1, 1, 1, 1, 1, 1, 1, 0, 1, 0] n s k
noncomputable abbrev k0  (fuel : Nat) : Kont := (kAt Try.prog X I fuel true 0 false 63 (bodyOf Try.f63) [1, 1, 1, 1, 1, 1, 1, 0, 1, 0] [] (endK Try.prog Try.f63))
noncomputable def t0 (p0q0 : List Int) (j1 : Nat) (p0q3 : Int) (p0q1 : List Int) (p0q2 : Int) (p0q4d : List Q → Bool) (p0q4g : List Q → Int) (x0q0 : Int) (x0q1 : Int) (x0q3 : Int) (x0q11 : List Int) : St := ⟨[.dead, (.ptr 1000000000 0 0), (.ptr 1000000001 0 0), .dead, (.all 1000000002 1), .dead, .dead, (.all 1000000003 1), (.imm (.int .i64 x0q0)), (.imm (.int .i64 x0q1)), .dead, .dead, .dead, .dead, .dead, .dead, .dead, .dead, .dead, .dead, .dead, .dead, .dead, .dead, .dead, .dead, .dead, .dead, .dead, .dead, .dead, .dead, .dead, .dead, .dead, .dead, .dead, .dead, .dead, .dead, .dead, .dead, .dead, .dead, .dead, .dead, .dead, .dead, (.imm (.int .i64 (((List.replicate ((volW ((p0q0.set j1 p0q3)))).toNat (0 : Int)).length : Nat) : Int))), (.imm (.int .i64 x0q3)), .dead, .dead, .dead, .dead, .dead, .dead, .dead, .dead, .dead, .dead, .dead, .dead, .dead, .dead, .dead, .dead, .dead, .dead, .dead, .dead, .dead, .dead, .dead, .dead, .dead, .dead, .dead, .dead, .dead, .dead, .dead, .dead, .dead, .dead, .dead, .dead, .dead, .dead, .dead, .dead, .dead, .dead, .dead, .dead, .dead, .dead], hOf [(1000000000, (.box [(.imm (.ints .i64 p0q0)), (.imm (.ints .i64 p0q1)), (.imm (.int .i64 p0q2)), (.imm (.int .i64 p0q3)), (.imm (.fn false p0q4d p0q4g))])), (1000000001, (.box [(.imm .nils), (.imm .nils)])), (1000000002, (.ints .i64 (p0q0.set j1 p0q3))), (1000000003, (.ints .i64 x0q11))], [], []⟩
theorem e (fuel : Nat) (p0q0 : List Int) (p0q1 : List Int) (p0q2 : Int) (p0q3 : Int) (p0q4d : List Q → Bool) (p0q4g : List Q → Int) : runF Try.prog X I 0 fuel 63 Try.f63 [.d (.agg [(.ints .i64 p0q0), (.ints .i64 p0q1), (.int .i64 p0q2), (.int .i64 p0q3), (.fn false p0q4d p0q4g)])] =
  (bif szB p0q0 then
  (idx p0q2 p0q0.length).bind fun j1 =>
  (bif decide (j1 < p0q0.length) then
  (bif decide (((p0q0.set j1 p0q3)).length < 9223372036854775808) then
  (bif validS ((p0q0.set j1 p0q3)) then
  (bif decide (0 ≤ ((volW ((p0q0.set j1 p0q3))) : Int)) && decide (((volW ((p0q0.set j1 p0q3))) : Int) ≤ (volW ((p0q0.set j1 p0q3)))) && decide (((volW ((p0q0.set j1 p0q3))) : Int) ≤ 1152921504606846976) && decide (((8 : Nat) : Int) * (volW ((p0q0.set j1 p0q3))) ≤ 281474976710656) then
  (bif decide (p0q2 = ((0 : Nat) : Int)) then
  (idx p0q2 p0q0.length).bind fun j12 =>
  (p0q0[j12]?).bind fun v13 =>
  L0 fuel fuel (t0 p0q0 j1 p0q3 p0q1 p0q2 p0q4d p0q4g ((strd ((p0q0.set j1 p0q3)) 0)) v13 0 ((List.replicate ((volW ((p0q0.set j1 p0q3)))).toNat (0 : Int)))) (k0  fuel)
  else
  (bif decide (p0q2 = ((1 : Nat) : Int)) then
  (idx p0q2 p0q0.length).bind fun j10 =>
  (p0q0[j10]?).bind fun v11 =>
  L0 fuel fuel (t0 p0q0 j1 p0q3 p0q1 p0q2 p0q4d p0q4g ((strd ((p0q0.set j1 p0q3)) 1)) v11 0 ((List.replicate ((volW ((p0q0.set j1 p0q3)))).toNat (0 : Int)))) (k0  fuel)
  else
  (bif decide (p0q2 = ((2 : Nat) : Int)) then
  (idx p0q2 p0q0.length).bind fun j2 =>
  (p0q0[j2]?).bind fun v3 =>
  L0 fuel fuel (t0 p0q0 j1 p0q3 p0q1 p0q2 p0q4d p0q4g ((strd ((p0q0.set j1 p0q3)) 2)) v3 0 ((List.replicate ((volW ((p0q0.set j1 p0q3)))).toNat (0 : Int)))) (k0  fuel)
  else
  none)))
  else
  none)
  else
  some ([.agg [((.ints .i64 []), true), ((.ints .i64 []), true)], .one ((.bool false), false)], []))
  else
  none)
  else
  none)
  else
  none) := by kernel_rfl
theorem s0 (fuel n0 : Nat) (p0q0 : List Int) (j1 : Nat) (p0q3 : Int) (p0q1 : List Int) (p0q2 : Int) (p0q4d : List Q → Bool) (p0q4g : List Q → Int) (x0q0 : Int) (x0q1 : Int) (x0q3 : Int) (x0q11 : List Int) : L0 fuel (n0 + 1) (t0 p0q0 j1 p0q3 p0q1 p0q2 p0q4d p0q4g x0q0 x0q1 x0q3 x0q11) (k0  fuel) =
  (bif (decide ((x0q3 : Int) < (((List.replicate ((volW ((p0q0.set j1 p0q3)))).toNat (0 : Int)).length : Nat) : Int))) then
  (bif decide ((x0q0 : Int) = 0) then
  none
  else
  (bif decide ((x0q0 : Int) = 0) then
  none
  else
  (bif decide ((p0q3 : Int) = 0) then
  none
  else
  (bif (p0q4d [Q.i ((Int.tmod (IntKind.wrap .i64 (Int.tdiv x0q3 x0q0)) p0q3))]) then
  (bif (decide ((0 : Int) ≤ (p0q4g [Q.i ((Int.tmod (IntKind.wrap .i64 (Int.tdiv x0q3 x0q0)) p0q3))]))) then
  (bif (decide (((p0q4g [Q.i ((Int.tmod (IntKind.wrap .i64 (Int.tdiv x0q3 x0q0)) p0q3))]) : Int) < x0q1)) then
  (bif decide ((p0q3 : Int) = 0) then
  none
  else
  (idx (IntKind.wrap .i64 ((IntKind.wrap .i64 ((IntKind.wrap .i64 ((IntKind.wrap .i64 ((IntKind.wrap .i64 (Int.tdiv (IntKind.wrap .i64 (Int.tdiv x0q3 x0q0)) p0q3)) * x0q1)) + (p0q4g [Q.i ((Int.tmod (IntKind.wrap .i64 (Int.tdiv x0q3 x0q0)) p0q3))]))) * x0q0)) + (Int.tmod x0q3 x0q0))) p0q1.length).bind fun j7 =>
  (p0q1[j7]?).bind fun v8 =>
  (idx x0q3 x0q11.length).bind fun j9 =>
  (bif decide (j9 < x0q11.length) then
  L0 fuel n0 (t0 p0q0 j1 p0q3 p0q1 p0q2 p0q4d p0q4g x0q0 x0q1 ((IntKind.wrap .i64 (x0q3 + 1))) ((x0q11.set j9 v8))) (k0  fuel)
  else
  none))
  else
  L0 fuel n0 (t0 p0q0 j1 p0q3 p0q1 p0q2 p0q4d p0q4g x0q0 x0q1 ((IntKind.wrap .i64 (x0q3 + 1))) x0q11) (k0  fuel))
  else
  L0 fuel n0 (t0 p0q0 j1 p0q3 p0q1 p0q2 p0q4d p0q4g x0q0 x0q1 ((IntKind.wrap .i64 (x0q3 + 1))) x0q11) (k0  fuel))
  else
  none))))
  else
  some ([.agg [((.ints .i64 (p0q0.set j1 p0q3)), true), ((.ints .i64 x0q11), true)], .one ((.bool true), false)], [])) := by kernel_rfl
end impl_view_copied
theorem impl_view_copied.ok_of (hX : ∀ E ∈ impl_view_copied.X, CallSpec Try.prog E) (h : ∀ (sh : List Int) (da : List Int) (k : Int) (len : Int) (dom : List Q → Bool) (G : List Q → Int), (axB sh da k && domB len dom) = true → ∃ fuel, runF Try.prog impl_view_copied.X impl_view_copied.I 0 fuel 63 Try.f63 [.d (.agg [(.ints .i64 sh), (.ints .i64 da), (.int .i64 k), (.int .i64 len), (.fn false dom G)])] = some ([.agg [((.ints .i64 (cpS sh k len)), true), ((.ints .i64 (cpD sh da k len G)), true)], .one ((.bool (cpB sh k len)), false)], [])) : CallSpec Try.prog impl_view_copied.E :=
  callSpec_of (d := 0) hX (by kernel_rfl) impl_view_copied.I_ok (by kernel_rfl) (by kernel_rfl) (by kernel_rfl) (fun _ _ _ _ h => by dsimp only [impl_view_copied.E] at h; cases h) (fun xs hp => by
    dsimp only [impl_view_copied.E] at hp ⊢
    split at hp
    · exact h _ _ _ _ _ _ hp
    · cases hp)
theorem impl_view_copied.loop (fuel : Nat) (sh da : List Int) (k l : Nat) (dom : List Q → Bool) (G : List Q → Int) (ax : Ax sh k) (hd : da.length = befN sh k * lenN sh k * behN sh k) (al : AlOk sh k (cpL sh k l G)) (hdom : domB (l : Int) dom = true)
    (hv : (volW (sh.set k (l : Int))).toNat = befN sh k * l * behN sh k) (hf : 60 < fuel) :
    impl_view_copied.L0 fuel fuel (impl_view_copied.t0 sh k (l : Int) da (k : Int) dom G ((behN sh k : Nat) : Int) ((lenN sh k : Nat) : Int) 0 (List.replicate (volW (sh.set k (l : Int))).toNat 0)) (impl_view_copied.k0 fuel) =
    some ([.agg [((.ints .i64 (sh.set k (l : Int))), true), ((.ints .i64 (alA sh da k (cpL sh k l G))), true)], .one ((.bool true), false)], []) := by
  have hll : (cpL sh k l G).length = l := by simp [cpL, tab_length]
  have hle := al.le
  have hlen : (alA sh da k (cpL sh k l G)).length = befN sh k * l * behN sh k := by rw [alA_length, hll]
  have hlk := ax.lt
  have hdl := ax.le
  rw [hll] at hle
  refine run_loop (N := befN sh k * l * behN sh k) (fun n j out => impl_view_copied.L0 fuel n (impl_view_copied.t0 sh k (l : Int) da (k : Int) dom G ((behN sh k : Nat) : Int) ((lenN sh k : Nat) : Int) (j : Int) out) (impl_view_copied.k0 fuel)) (fun j out => out = part (alA sh da k (cpL sh k l G)) j) ?_ ?_ fuel 0 _ (by omega) (by omega) (by rw [part_zero, hlen, hv])
  · intro n out ho
    rw [← hlen, part_all] at ho
    rw [impl_view_copied.s0, List.length_replicate, hv, dge (by omega), ho]
    rfl
  · intro n j out hj ho
    obtain ⟨d1, d2, d3, d4⟩ := dec3 hj
    have hM : behN sh k ≠ 0 := by omega
    have hL : l ≠ 0 := by omega
    have hol : out.length = befN sh k * l * behN sh k := by rw [ho, part_length (by omega), hlen]
    have hg := alA_get (sh := sh) (da := da) (k := k) (ls := cpL sh k l G) d1 (by rw [hll]; exact d2) d3
    rw [hll, d4] at hg
    have hcl : (cpL sh k l G).getD (j / behN sh k % l) 0 = cpF (lenN sh k) G (j / behN sh k % l) := by
      unfold cpL
      rw [Int.toNat_natCast, Int.toNat_natCast, tab_getD d2]
    rw [hcl] at hg
    have hdm := domB_get hdom (i := j / behN sh k % l) (by simpa using d2)
    have hjM : j / behN sh k ≤ 1000 := Nat.le_trans (Nat.div_le_self _ _) (by omega)
    have hjL : j / behN sh k / l ≤ 1000 := Nat.le_trans (Nat.div_le_self _ _) hjM
    rw [impl_view_copied.s0, List.length_replicate, hv, dlt hj, decide_eq_false (p := ((behN sh k : Nat) : Int) = 0) (by omega), decide_eq_false (p := ((l : Nat) : Int) = 0) (by omega), tdivN, wN (n := j / behN sh k) (by omega), tmodN, tmodN, hdm, tdivN, wN (n := j / behN sh k / l) (by omega), w1 (j := j) (by omega)]
    simp only [cond_true, cond_false]
    generalize hG : G [Q.i ((j / behN sh k % l : Nat) : Int)] = g
    unfold cpF at hg
    rw [hG] at hg
    by_cases h0 : 0 ≤ g
    · by_cases h1 : g < ((lenN sh k : Nat) : Int)
      · obtain ⟨p, rfl⟩ : ∃ p : Nat, g = p := ⟨g.toNat, by omega⟩
        have hpl : p < lenN sh k := by omega
        obtain ⟨e2, _, _, _⟩ := enc3 d1 hpl d3
        have hx : j / behN sh k / l * lenN sh k + p ≤ 1000000000 := by
          have h1 := ax.len_le
          have : j / behN sh k / l * lenN sh k ≤ 1000 * 60 := Nat.mul_le_mul hjL h1
          omega
        rw [decide_eq_true h0, decide_eq_true h1, wIdx hx (by omega), idx_nat (by omega), idx_nat (by omega)]
        simp only [cond_true, Option.bind_some, getD_get (show (j / behN sh k / l * lenN sh k + p) * behN sh k + j % behN sh k < da.length by omega), show j < out.length by omega, decide_true]
        refine ⟨_, ?_, rfl⟩
        rw [ho, part_set (by omega)]
        rw [hg]
        simp [atV, h1]
      · rw [decide_eq_true h0, decide_eq_false h1]
        refine ⟨_, ?_, rfl⟩
        rw [ho, part_same (by omega)]
        rw [hg]
        simp [atV, h1]
    · rw [decide_eq_false h0]
      refine ⟨_, ?_, rfl⟩
      rw [ho, part_same (by omega)]
      rw [hg]
      simp [atV, h0]
theorem impl_view_copied.ok : CallSpec Try.prog impl_view_copied.E := impl_view_copied.ok_of (by simp [impl_view_copied.X, impl_copyList.ok, impl_layoutOf_j.ok]) fun sh da k len dom G h => ⟨61, by
  simp only [Bool.and_eq_true, axB] at h
  obtain ⟨e1, e2⟩ := axOk_nat h.1.2
  have hv := validA_inv h.1.1
  have ax := ax_of hv.1 e2
  have hd := ax_data h.1.1 e2
  have hr := ax.rank
  rw [impl_view_copied.e, szB_of (xs := sh) (by omega)]
  simp only [cpS, cpD, cpB]
  generalize k.toNat = j at *
  subst e1
  rw [idx_nat e2]
  simp only [cond_true, Option.bind_some, e2, decide_true]
  rw [lt_of (xs := sh.set j len) (by simp; omega), cond_true]
  cases hs : validS (sh.set j len) with
  | false => rfl
  | true =>
    have ax2 := ax_of hs (k := j) (by simpa using e2)
    have hb := vol_bd hs
    have hbnd := allB_get ax2.bnd ax2.lt
    have hl0 : (sh.set j len).getD j 0 = len := by simp [e2]
    rw [hl0] at hbnd
    obtain ⟨l, rfl⟩ : ∃ l : Nat, len = l := ⟨len.toNat, by omega⟩
    have hst := strd_beh ax2
    have hvol := ax2.vol
    have hle := ax2.le
    rw [len_set e2, bef_set, beh_set, Int.toNat_natCast] at hvol hle
    rw [beh_set] at hst
    have al : AlOk sh j (cpL sh j l G) := by
      have hll : (cpL sh j l G).length = l := by simp [cpL, tab_length]
      refine ⟨by omega, by rw [hll]; exact hle, fun p hp => ?_⟩
      simp only [cpL, tab, List.mem_map, List.mem_range, Int.toNat_natCast] at hp
      obtain ⟨i, hi, rfl⟩ := hp
      unfold cpF
      by_cases h0 : 0 ≤ G [.i (i : Int)]
      · by_cases h1 : G [.i (i : Int)] < ((lenN sh j : Nat) : Int)
        · simp only [decide_eq_true h0, decide_eq_true h1, Bool.and_self, cond_true]; exact h1
        · simp only [decide_eq_true h0, decide_eq_false h1, Bool.and_false, cond_false]; omega
      · simp only [decide_eq_false h0, Bool.false_and, cond_false]; omega
    have key := impl_view_copied.loop 61 sh da j l dom G ax hd al h.2 (by rw [hvol]; rfl) (by omega)
    rw [mkOk hb.1 (by omega)]
    simp only [cond_true]
    match j, e2, hst, key with
    | 0, e2, hst, key => rw [decide_eq_true (p := ((0 : Nat) : Int) = ((0 : Nat) : Int)) rfl, hst, getD_get e2, ax.len]; exact key
    | 1, e2, hst, key => rw [decide_eq_false (p := ((1 : Nat) : Int) = ((0 : Nat) : Int)) (by omega), decide_eq_true (p := ((1 : Nat) : Int) = ((1 : Nat) : Int)) rfl, hst, getD_get e2, ax.len]; exact key
    | 2, e2, hst, key => rw [decide_eq_false (p := ((2 : Nat) : Int) = ((0 : Nat) : Int)) (by omega), decide_eq_false (p := ((2 : Nat) : Int) = ((1 : Nat) : Int)) (by omega), decide_eq_true (p := ((2 : Nat) : Int) = ((2 : Nat) : Int)) rfl, hst, getD_get e2, ax.len]; exact key
    | j + 3, e2, _, _ => exact absurd e2 (by omega)⟩

namespace impl_withPlaces
noncomputable def E : Entry := ⟨38, false, false, fun | [.d (.agg [(.ints .i64 sh), (.ints .i64 da)]), .d (.int .i64 k), .d (.ints .i64 ls)] => axB sh da k && szB ls | _ => false, fun | [.d (.agg [(.ints .i64 sh), (.ints .i64 da)]), .d (.int .i64 k), .d (.ints .i64 ls)] => ([.agg [((.ints .i64 (wpS sh k ls)), true), ((.ints .i64 (wpD sh da k ls)), true)], .one ((.bool (wpB sh k ls)), false)], []) | _ => ([], []), fun _ => [], true, fun _ => none⟩
end impl_withPlaces
namespace impl_withPlaces
noncomputable def X : List Entry := [impl_withPlaces_1.E, impl_view_copied.E]
noncomputable def I : List Inl := [⟨38, Try.f38, ⟨[16], [], [(1, [5])], [], [], []⟩⟩]
theorem I_ok : ∀ i ∈ I, Try.prog.funcs[i.f]? = some i.fn ∧ (i.fn.name == "runtime.NumGoroutine") = false := by
  intro i hi
  simp only [I, List.mem_cons, List.not_mem_nil, or_false] at hi
  subst hi
  exact ⟨by kernel_rfl, by kernel_rfl⟩
theorem e (fuel : Nat) (p0q0 : List Int) (p0q1 : List Int) (p1 : Int) (p2 : List Int) : runF Try.prog X I 0 fuel 38 Try.f38 [.d (.agg [(.ints .i64 p0q0), (.ints .i64 p0q1)]), .d (.int .i64 p1), .d (.ints .i64 p2)] =
  (bif axB p0q0 p0q1 p1 && domB (((p2.length : Nat) : Int)) ((lsQ p2)) then
  some ([.agg [((.ints .i64 (cpS p0q0 p1 (((p2.length : Nat) : Int)))), true), ((.ints .i64 (cpD p0q0 p0q1 p1 (((p2.length : Nat) : Int)) ((q1v (lsI p2))))), true)], .one ((.bool (cpB p0q0 p1 (((p2.length : Nat) : Int)))), false)], [])
  else
  none) := by kernel_rfl
end impl_withPlaces
theorem impl_withPlaces.ok_of (hX : ∀ E ∈ impl_withPlaces.X, CallSpec Try.prog E) (h : ∀ (sh : List Int) (da : List Int) (k : Int) (ls : List Int), (axB sh da k && szB ls) = true → ∃ fuel, runF Try.prog impl_withPlaces.X impl_withPlaces.I 0 fuel 38 Try.f38 [.d (.agg [(.ints .i64 sh), (.ints .i64 da)]), .d (.int .i64 k), .d (.ints .i64 ls)] = some ([.agg [((.ints .i64 (wpS sh k ls)), true), ((.ints .i64 (wpD sh da k ls)), true)], .one ((.bool (wpB sh k ls)), false)], [])) : CallSpec Try.prog impl_withPlaces.E :=
  callSpec_of (d := 0) hX (by kernel_rfl) impl_withPlaces.I_ok (by kernel_rfl) (by kernel_rfl) (by kernel_rfl) (fun _ _ _ _ h => by dsimp only [impl_withPlaces.E] at h; cases h) (fun xs hp => by
    dsimp only [impl_withPlaces.E] at hp ⊢
    split at hp
    · exact h _ _ _ _ hp
    · cases hp)
theorem impl_withPlaces.ok : CallSpec Try.prog impl_withPlaces.E := impl_withPlaces.ok_of (by simp [impl_withPlaces.X, impl_withPlaces_1.ok, impl_view_copied.ok]) fun sh da k ls h => ⟨0, by
  simp only [Bool.and_eq_true] at h
  rw [impl_withPlaces.e, h.1, ls_dom]
  rfl⟩

namespace impl_RepeatAxis
noncomputable def E : Entry := ⟨13, false, false, fun | [.d (.agg [(.ints .i64 sh), (.ints .i64 da)]), .d (.int .i64 k), .d (.ints .i64 ts)] => decide (sh.length < 9223372036854775808) && decide (da.length < 9223372036854775808) && decide (ts.length < 9223372036854775808) | _ => false, fun | [.d (.agg [(.ints .i64 sh), (.ints .i64 da)]), .d (.int .i64 k), .d (.ints .i64 ts)] => ([.agg [((.ints .i64 (rpS sh da k ts)), true), ((.ints .i64 (rpD sh da k ts)), true)], .one ((.bool (rpB sh da k ts)), false)], []) | _ => ([], []), fun _ => [], true, fun _ => none⟩
end impl_RepeatAxis
namespace impl_RepeatAxis
noncomputable def X : List Entry := [impl_axisLength.E, slices_Repeat_int_int.E, impl_withPlaces.E]
noncomputable def I : List Inl := [⟨13, Try.f13, ⟨[46, 52], [(1000006, [0, 2, 4, 5, 7, 8, 9, 11, 12, 13, 14, 15, 16, 17, 18, 19, 20, 21, 22, 23, 24, 25, 26, 27, 31, 32, 33, 34, 35, 36, 37, 38, 39, 40, 41, 42, 43, 44, 45, 46, 47, 48, 49, 50, 51, 52, 53, 54])], [], [], [44], []⟩⟩]
theorem I_ok : ∀ i ∈ I, Try.prog.funcs[i.f]? = some i.fn ∧ (i.fn.name == "runtime.NumGoroutine") = false := by
  intro i hi
  simp only [I, List.mem_cons, List.not_mem_nil, or_false] at hi
  subst hi
  exact ⟨by kernel_rfl, by kernel_rfl⟩
noncomputable abbrev L0 (fuel n : Nat) (s : St) (k : Kont) := lAt Try.prog X I fuel true 0 false 13 (bodyOf Try.f13) [1, 1, 1, 1, 0, 1, 0] n s k
noncomputable abbrev k0  (fuel : Nat) : Kont := (kAt Try.prog X I fuel true 0 false 13 (bodyOf Try.f13) [1, 1, 1, 1, 0, 1, 0] [] (endK Try.prog Try.f13))
noncomputable def t0 (p1 : Int) (p2 : List Int) (p0q0 : List Int) (p0q1 : List Int) : St := ⟨[.dead, (.imm (.int .i64 p1)), .dead, (.ptr 1000000000 0 0), .dead, .dead, (.ptr 1000000001 0 0), .dead, .dead, .dead, (.imm .nils), .dead, .dead, .dead, .dead, .dead, .dead, .dead, .dead, .dead, .dead, .dead, .dead, .dead, .dead, .dead, .dead, .dead, (.imm (.ints .i64 p2)), (.imm (.int .i64 ((p2.length : Nat) : Int))), (.imm (.int .i64 0)), .dead, .dead, .dead, .dead, .dead, .dead, .dead, .dead, .dead, .dead, .dead, .dead, .dead, .dead, .dead, .dead, .dead, .dead, .dead, .dead, .dead, .dead, .dead, .dead], hOf [(1000000000, (.box [(.imm (.ints .i64 p0q0)), (.imm (.ints .i64 p0q1))])), (1000000001, (.box [(.imm .nils), (.imm .nils)]))], [], []⟩
noncomputable abbrev L1 (fuel n : Nat) (s : St) (k : Kont) := lAt Try.prog X I fuel true 0 false 13 (bodyOf Try.f13) [1, 1, 1, 1, 0, 1, 0] n s k
noncomputable abbrev k1  (fuel : Nat) : Kont := (kAt Try.prog X I fuel true 0 false 13 (bodyOf Try.f13) [1, 1, 1, 1, 0, 1, 0] [] (endK Try.prog Try.f13))
noncomputable def t1 (p1 : Int) (p2 : List Int) (p0q0 : List Int) (p0q1 : List Int) (x1q3 : Int) (x1q6 : List Int) : St := ⟨[.dead, (.imm (.int .i64 p1)), .dead, (.ptr 1000000000 0 0), .dead, .dead, (.ptr 1000000001 0 0), .dead, .dead, .dead, (.all 1000000002 1), .dead, .dead, .dead, .dead, .dead, .dead, .dead, .dead, .dead, .dead, .dead, .dead, .dead, .dead, .dead, .dead, .dead, (.imm (.ints .i64 p2)), (.imm (.int .i64 ((p2.length : Nat) : Int))), (.imm (.int .i64 x1q3)), .dead, .dead, .dead, .dead, .dead, .dead, .dead, .dead, .dead, .dead, .dead, .dead, .dead, .dead, .dead, .dead, .dead, .dead, .dead, .dead, .dead, .dead, .dead, .dead], hOf [(1000000000, (.box [(.imm (.ints .i64 p0q0)), (.imm (.ints .i64 p0q1))])), (1000000001, (.box [(.imm .nils), (.imm .nils)])), (1000000002, (.ints .i64 x1q6))], [], []⟩
theorem e (fuel : Nat) (p0q0 : List Int) (p0q1 : List Int) (p1 : Int) (p2 : List Int) : runF Try.prog X I 0 fuel 13 Try.f13 [.d (.agg [(.ints .i64 p0q0), (.ints .i64 p0q1)]), .d (.int .i64 p1), .d (.ints .i64 p2)] =
  (bif decide (p0q0.length < 9223372036854775808) && decide (p0q1.length < 9223372036854775808) then
  (bif (!(axB p0q0 p0q1 p1)) then
  some ([.agg [((.ints .i64 []), true), ((.ints .i64 []), true)], .one ((.bool false), false)], [])
  else
  (bif ((((p2.length : Nat) : Int) : Int) != (axL p0q0 p0q1 p1)) then
  some ([.agg [((.ints .i64 []), true), ((.ints .i64 []), true)], .one ((.bool false), false)], [])
  else
  L0 fuel fuel (t0 p1 p2 p0q0 p0q1) (k0  fuel)))
  else
  none) := by kernel_rfl
theorem s0 (fuel n0 : Nat) (p1 : Int) (p2 : List Int) (p0q0 : List Int) (p0q1 : List Int) : L0 fuel (n0 + 1) (t0 p1 p2 p0q0 p0q1) (k0  fuel) =
  (bif (decide ((0 : Int) < ((p2.length : Nat) : Int))) then
  (idx 0 p2.length).bind fun j3 =>
  (p2[j3]?).bind fun v4 =>
  (bif (decide ((v4 : Int) < 0)) then
  some ([.agg [((.ints .i64 []), true), ((.ints .i64 []), true)], .one ((.bool false), false)], [])
  else
  (bif (decide ((v4 : Int) > 60)) then
  some ([.agg [((.ints .i64 []), true), ((.ints .i64 []), true)], .one ((.bool false), false)], [])
  else
  (bif decide (((([0] : List Int)) : List Int).length = 1) && decide (0 ≤ v4) && decide (v4 ≤ 60) then
  (bif fits (List.replicate v4.toNat ((([0] : List Int)).getD 0 0)).length 8 then
  L1 fuel n0 (t1 p1 p2 p0q0 p0q1 ((IntKind.wrap .i64 (0 + 1))) ((List.replicate v4.toNat ((([0] : List Int)).getD 0 0)))) (k1  fuel)
  else
  none)
  else
  none)))
  else
  (bif axB p0q0 p0q1 p1 && szB (([] : List Int)) then
  some ([.agg [((.ints .i64 (wpS p0q0 p1 (([] : List Int)))), true), ((.ints .i64 (wpD p0q0 p0q1 p1 (([] : List Int)))), true)], .one ((.bool (wpB p0q0 p1 (([] : List Int)))), false)], [])
  else
  none)) := by kernel_rfl
theorem s1 (fuel n1 : Nat) (p1 : Int) (p2 : List Int) (p0q0 : List Int) (p0q1 : List Int) (x1q3 : Int) (x1q6 : List Int) : L1 fuel (n1 + 1) (t1 p1 p2 p0q0 p0q1 x1q3 x1q6) (k1  fuel) =
  (bif (decide ((x1q3 : Int) < ((p2.length : Nat) : Int))) then
  (idx x1q3 p2.length).bind fun j9 =>
  (p2[j9]?).bind fun v10 =>
  (bif (decide ((v10 : Int) < 0)) then
  some ([.agg [((.ints .i64 []), true), ((.ints .i64 []), true)], .one ((.bool false), false)], [])
  else
  (bif (decide ((v10 : Int) > 60)) then
  some ([.agg [((.ints .i64 []), true), ((.ints .i64 []), true)], .one ((.bool false), false)], [])
  else
  (bif decide (((([x1q3] : List Int)) : List Int).length = 1) && decide (0 ≤ v10) && decide (v10 ≤ 60) then
  (bif fits (x1q6.length + (List.replicate v10.toNat ((([x1q3] : List Int)).getD 0 0)).length) 8 then
  L1 fuel n1 (t1 p1 p2 p0q0 p0q1 ((IntKind.wrap .i64 (x1q3 + 1))) ((x1q6 ++ (List.replicate v10.toNat ((([x1q3] : List Int)).getD 0 0))))) (k1  fuel)
  else
  none)
  else
  none)))
  else
  (bif axB p0q0 p0q1 p1 && szB x1q6 then
  some ([.agg [((.ints .i64 (wpS p0q0 p1 x1q6)), true), ((.ints .i64 (wpD p0q0 p0q1 p1 x1q6)), true)], .one ((.bool (wpB p0q0 p1 x1q6)), false)], [])
  else
  none)) := by kernel_rfl
end impl_RepeatAxis
theorem impl_RepeatAxis.ok_of (hX : ∀ E ∈ impl_RepeatAxis.X, CallSpec Try.prog E) (h : ∀ (sh : List Int) (da : List Int) (k : Int) (ts : List Int), (decide (sh.length < 9223372036854775808) && decide (da.length < 9223372036854775808) && decide (ts.length < 9223372036854775808)) = true → ∃ fuel, runF Try.prog impl_RepeatAxis.X impl_RepeatAxis.I 0 fuel 13 Try.f13 [.d (.agg [(.ints .i64 sh), (.ints .i64 da)]), .d (.int .i64 k), .d (.ints .i64 ts)] = some ([.agg [((.ints .i64 (rpS sh da k ts)), true), ((.ints .i64 (rpD sh da k ts)), true)], .one ((.bool (rpB sh da k ts)), false)], [])) : CallSpec Try.prog impl_RepeatAxis.E :=
  callSpec_of (d := 0) hX (by kernel_rfl) impl_RepeatAxis.I_ok (by kernel_rfl) (by kernel_rfl) (by kernel_rfl) (fun _ _ _ _ h => by dsimp only [impl_RepeatAxis.E] at h; cases h) (fun xs hp => by
    dsimp only [impl_RepeatAxis.E] at hp ⊢
    split at hp
    · exact h _ _ _ _ hp
    · cases hp)
theorem impl_RepeatAxis.wp (sh da : List Int) (j : Nat) (ts : List Int) (hj : j < sh.length) (hv : validA sh da = true) (hl : ts.length = lenN sh j) (ht : allB ts 0 60 = true) :
    szB (rpL ts) = true ∧ wpS sh (j : Int) (rpL ts) = rpS sh da j ts ∧ wpD sh da (j : Int) (rpL ts) = rpD sh da j ts ∧ wpB sh (j : Int) (rpL ts) = rpB sh da j ts := by
  obtain ⟨r1, r2⟩ := rpC_bd ht ts.length (Nat.le_refl _)
  have ax := ax_of (validA_inv hv).1 hj
  have hL := ax.len_le
  have hx := axB_of hv hj
  have hB : rpB sh da j ts = validS (alS sh j (rpL ts)) := by
    simp only [rpB, hx, Int.toNat_natCast, decide_eq_true hl, ht, Bool.true_and]
  obtain ⟨w1, w2, w3⟩ := wp_eq (sh := sh) (da := da) (ls := rpL ts) (j := j) fun x hx => .inr (by have := r2 x hx; omega)
  refine ⟨szB_of ?_, ?_, ?_, ?_⟩
  · have : (rpL ts).length ≤ ts.length * 60 := r1
    omega
  · rw [w1]; unfold rpS; rw [hB]
  · rw [w2]; unfold rpD; rw [hB]
  · rw [w3, hB]
theorem impl_RepeatAxis.loop (fuel : Nat) (sh da : List Int) (j : Nat) (ts : List Int) (hj : j < sh.length) (hv : validA sh da = true) (hl : ts.length = lenN sh j) (i0 : Nat) (hi0 : i0 ≤ ts.length) (h0 : ∀ i, i < i0 → 0 ≤ ts.getD i 0 ∧ ts.getD i 0 ≤ 60) (hf : 61 < fuel) (n1 : Nat) (hn : ts.length - i0 < n1) :
    impl_RepeatAxis.L1 fuel n1 (impl_RepeatAxis.t1 (j : Int) ts sh da (i0 : Int) (rpC ts i0)) (impl_RepeatAxis.k1 fuel) = some ([.agg [((.ints .i64 (rpS sh da j ts)), true), ((.ints .i64 (rpD sh da j ts)), true)], .one ((.bool (rpB sh da j ts)), false)], []) := by
  have ax := ax_of (validA_inv hv).1 hj
  have hL := ax.len_le
  have hx := axB_of hv hj
  have hno : ∀ i, i < ts.length → ¬ (0 ≤ ts.getD i 0 ∧ ts.getD i 0 ≤ 60) → rpB sh da (j : Int) ts = false := by
    intro i hi hn
    cases ht : allB ts 0 60 with
    | true => exact absurd (allB_inv ht hi) hn
    | false => simp only [rpB, ht, Bool.false_and, Bool.and_false]
  have hlen : ∀ i, i ≤ ts.length → (∀ q, q < i → 0 ≤ ts.getD q 0 ∧ ts.getD q 0 ≤ 60) → (rpC ts i).length ≤ i * 60 := by
    intro i
    induction i with
    | zero => intro _ _; simp [rpC]
    | succ i ih =>
      intro hi hq
      have h1 := ih (by omega) (fun q hq' => hq q (by omega))
      have h2 := hq i (by omega)
      simp only [rpC, List.length_append, List.length_replicate]
      omega
  refine cnt_loop (N := ts.length) (fun n i out => impl_RepeatAxis.L1 fuel n (impl_RepeatAxis.t1 (j : Int) ts sh da (i : Int) out) (impl_RepeatAxis.k1 fuel)) (fun i out => out = rpC ts i ∧ ∀ q, q < i → 0 ≤ ts.getD q 0 ∧ ts.getD q 0 ≤ 60) ?_ ?_ n1 i0 (rpC ts i0) hi0 hn ⟨rfl, h0⟩
  · rintro n out ⟨rfl, hq⟩
    have ht : allB ts 0 60 = true := allB_iff.2 fun v hv => by
      obtain ⟨i, hi, rfl⟩ := List.getElem_of_mem hv
      have := hq i hi
      simpa [hi] using this
    obtain ⟨w0, w1, w2, w3⟩ := impl_RepeatAxis.wp sh da j ts hj hv hl ht
    unfold rpL at w0 w1 w2 w3
    rw [impl_RepeatAxis.s1, dge (by omega), cond_false, hx, w0, w1, w2, w3]
    rfl
  · rintro n i out hi ⟨rfl, hq⟩
    have h60 := hlen i (by omega) hq
    rw [impl_RepeatAxis.s1, dlt hi, cond_true, idx_nat hi, w1 (by omega)]
    simp only [Option.bind_some, getD_get hi]
    by_cases c1 : 0 ≤ ts.getD i 0
    · by_cases c2 : ts.getD i 0 ≤ 60
      · refine .inr ⟨rpC ts (i + 1), ⟨rfl, fun q hq' => ?_⟩, ?_⟩
        · by_cases e : q = i
          · subst e; exact ⟨c1, c2⟩
          · exact hq q (by omega)
        · rw [decide_eq_false (p := ts.getD i 0 < 0) (by omega), decide_eq_false (p := ts.getD i 0 > 60) (by omega), decide_eq_true c1, decide_eq_true c2, fitsOk (by rw [List.length_replicate]; omega)]
          rfl
      · refine .inl ?_
        have := hno i hi (fun h => c2 h.2)
        rw [decide_eq_false (p := ts.getD i 0 < 0) (by omega), decide_eq_true (p := ts.getD i 0 > 60) (by omega)]
        simp only [rpS, rpD, this]
        rfl
    · refine .inl ?_
      have := hno i hi (fun h => c1 h.1)
      rw [decide_eq_true (p := ts.getD i 0 < 0) (by omega)]
      simp only [rpS, rpD, this]
      rfl
theorem impl_RepeatAxis.ok : CallSpec Try.prog impl_RepeatAxis.E := impl_RepeatAxis.ok_of (by simp [impl_RepeatAxis.X, impl_axisLength.ok, slices_Repeat_int_int.ok, impl_withPlaces.ok]) fun sh da k ts h => by
  obtain ⟨F, hF⟩ : ∃ F : Nat, 100 < F := ⟨101, by omega⟩
  refine ⟨F + 1, ?_⟩
  simp only [Bool.and_eq_true] at h
  rw [impl_RepeatAxis.e, h.1.1, h.1.2]
  cases hb : axB sh da k with
  | false =>
    have : rpB sh da k ts = false := by simp only [rpB, hb, Bool.false_and]
    simp only [rpS, rpD, this]
    rfl
  | true =>
    obtain ⟨j, rfl, hj, hv, ax, hd, hl⟩ := axB_inv hb
    have hL := ax.len_le
    rw [hl]
    simp only [cond_true, Bool.and_self, Bool.not_true, cond_false]
    by_cases c1 : ts.length = lenN sh j
    · rw [show (((ts.length : Nat) : Int) != ((lenN sh j : Nat) : Int)) = false by simp [c1], cond_false]
      rw [impl_RepeatAxis.s0]
      by_cases h0 : ts.length = 0
      · have e : ts = [] := List.length_eq_zero_iff.1 h0
        obtain ⟨w0, w1, w2, w3⟩ := impl_RepeatAxis.wp sh da j ts hj hv c1 (by rw [e]; rfl)
        have e2 : rpL ts = [] := by rw [e]; rfl
        rw [e2] at w0 w1 w2 w3
        rw [decide_eq_false (p := (0 : Int) < ((ts.length : Nat) : Int)) (by omega), cond_false, hb, w0, w1, w2, w3]
        rfl
      · have hi : 0 < ts.length := by omega
        rw [decide_eq_true (p := (0 : Int) < ((ts.length : Nat) : Int)) (by omega), cond_true, show idx 0 ts.length = some 0 from idx_nat (j := 0) hi]
        simp only [Option.bind_some, getD_get hi]
        have hno : ¬ (0 ≤ ts.getD 0 0 ∧ ts.getD 0 0 ≤ 60) → rpB sh da (j : Int) ts = false := by
          intro hn
          cases ht : allB ts 0 60 with
          | true => exact absurd (allB_inv ht hi) hn
          | false => simp only [rpB, ht, Bool.false_and, Bool.and_false]
        by_cases c2 : 0 ≤ ts.getD 0 0
        · by_cases c3 : ts.getD 0 0 ≤ 60
          · have := impl_RepeatAxis.loop (F + 1) sh da j ts hj hv c1 1 (by omega) (fun i hi' => by
              obtain rfl : i = 0 := (by omega)
              exact ⟨c2, c3⟩) (by omega) F (by omega)
            rw [decide_eq_false (p := ts.getD 0 0 < 0) (by omega), decide_eq_false (p := ts.getD 0 0 > 60) (by omega), decide_eq_true c2, decide_eq_true c3, fitsOk (by rw [List.length_replicate]; omega)]
            exact this
          · have := hno (fun h => c3 h.2)
            rw [decide_eq_false (p := ts.getD 0 0 < 0) (by omega), decide_eq_true (p := ts.getD 0 0 > 60) (by omega)]
            simp only [rpS, rpD, this]
            rfl
        · have := hno (fun h => c2 h.1)
          rw [decide_eq_true (p := ts.getD 0 0 < 0) (by omega)]
          simp only [rpS, rpD, this]
          rfl
    · have : rpB sh da (j : Int) ts = false := by simp only [rpB, Int.toNat_natCast, decide_eq_false c1, Bool.and_false, Bool.false_and]
      rw [show (((ts.length : Nat) : Int) != ((lenN sh j : Nat) : Int)) = true by simp; omega]
      simp only [rpS, rpD, this]
      rfl

namespace laws_FnWhereItemsMask
noncomputable def E : Entry := ⟨7, true, false, fun | [.d (.ints .u8 bs)] => bytesB bs | _ => false, fun | [.d (.ints .u8 bs)] => ([.one ((.bool true), false)], []) | _ => ([], []), fun _ => [], false, fun _ => none⟩
end laws_FnWhereItemsMask
namespace laws_FnWhereItemsMask
noncomputable def X : List Entry := [spec_DrawWhereItems.E, impl_WhereItems.E, spec_WhereItems.E, laws_equalArray.E, impl_ValidArray.E, impl_MapArray.E, impl_RepeatAxis.E]
noncomputable def I : List Inl := [⟨7, Try.f7, ⟨[12, 14, 17, 27, 30, 31, 36, 51], [], [], [(9, [0, 1, 2, 5, 3, 4, 6, 7, 8, 9, 10, 11, 13, 12, 14, 15, 16])], [], []⟩⟩]
theorem I_ok : ∀ i ∈ I, Try.prog.funcs[i.f]? = some i.fn ∧ (i.fn.name == "runtime.NumGoroutine") = false := by
  intro i hi
  simp only [I, List.mem_cons, List.not_mem_nil, or_false] at hi
  subst hi
  exact ⟨by kernel_rfl, by kernel_rfl⟩
theorem e (fuel : Nat) (p0 : List Int) : runF Try.prog X I 0 fuel 7 Try.f7 [.d (.ints .u8 p0)] =
  (bif (decide ((((p0.length : Nat) : Int) : Int) > 1048576)) then
  some ([.one ((.bool true), false)], [])
  else
  (bif bytesB p0 then
  (bif decide (((avS (cutC p0) 0)).length < 9223372036854775808) && decide (((avD (cutC p0) 0)).length < 9223372036854775808) then
  (bif decide (((avS (cutC p0) 0)).length < 9223372036854775808) && decide (((avD (cutC p0) 0)).length < 9223372036854775808) then
  (bif decide (((whS ((avS (cutC p0) 0)) ((avD (cutC p0) 0)))).length < 9223372036854775808) && decide (((whD ((avS (cutC p0) 0)) ((avD (cutC p0) 0)))).length < 9223372036854775808) && decide (((whS ((avS (cutC p0) 0)) ((avD (cutC p0) 0)))).length < 9223372036854775808) && decide (((whD ((avS (cutC p0) 0)) ((avD (cutC p0) 0)))).length < 9223372036854775808) then
  (bif (!(decide (((whS ((avS (cutC p0) 0)) ((avD (cutC p0) 0)))) = ((whS ((avS (cutC p0) 0)) ((avD (cutC p0) 0))))) && decide (((whD ((avS (cutC p0) 0)) ((avD (cutC p0) 0)))) = ((whD ((avS (cutC p0) 0)) ((avD (cutC p0) 0))))))) then
  (bif decide (((avS (cutC p0) 0)).length < 9223372036854775808) && decide (((avD (cutC p0) 0)).length < 9223372036854775808) then
  (bif decide (((whS ((avS (cutC p0) 0)) ((avD (cutC p0) 0)))).length < 9223372036854775808) && decide (((whD ((avS (cutC p0) 0)) ((avD (cutC p0) 0)))).length < 9223372036854775808) && decide (((whS ((avS (cutC p0) 0)) ((avD (cutC p0) 0)))).length < 9223372036854775808) && decide (((whD ((avS (cutC p0) 0)) ((avD (cutC p0) 0)))).length < 9223372036854775808) then
  some ([.one ((.bool (decide (((whS ((avS (cutC p0) 0)) ((avD (cutC p0) 0)))) = ((whS ((avS (cutC p0) 0)) ((avD (cutC p0) 0))))) && decide (((whD ((avS (cutC p0) 0)) ((avD (cutC p0) 0)))) = ((whD ((avS (cutC p0) 0)) ((avD (cutC p0) 0))))))), false)], [])
  else
  none)
  else
  none)
  else
  (bif decide (((whS ((avS (cutC p0) 0)) ((avD (cutC p0) 0)))).length < 9223372036854775808) && decide (((whD ((avS (cutC p0) 0)) ((avD (cutC p0) 0)))).length < 9223372036854775808) then
  (bif (!(validA ((whS ((avS (cutC p0) 0)) ((avD (cutC p0) 0)))) ((whD ((avS (cutC p0) 0)) ((avD (cutC p0) 0)))))) then
  (bif decide (((avS (cutC p0) 0)).length < 9223372036854775808) && decide (((avD (cutC p0) 0)).length < 9223372036854775808) then
  (bif decide (((whS ((avS (cutC p0) 0)) ((avD (cutC p0) 0)))).length < 9223372036854775808) && decide (((whD ((avS (cutC p0) 0)) ((avD (cutC p0) 0)))).length < 9223372036854775808) && decide (((whS ((avS (cutC p0) 0)) ((avD (cutC p0) 0)))).length < 9223372036854775808) && decide (((whD ((avS (cutC p0) 0)) ((avD (cutC p0) 0)))).length < 9223372036854775808) then
  some ([.one ((.bool (decide (((whS ((avS (cutC p0) 0)) ((avD (cutC p0) 0)))) = ((whS ((avS (cutC p0) 0)) ((avD (cutC p0) 0))))) && decide (((whD ((avS (cutC p0) 0)) ((avD (cutC p0) 0)))) = ((whD ((avS (cutC p0) 0)) ((avD (cutC p0) 0))))))), false)], [])
  else
  none)
  else
  none)
  else
  (bif decide (((avS (cutC p0) 0)).length < 9223372036854775808) && decide (((avD (cutC p0) 0)).length < 9223372036854775808) then
  (bif decide (((mapS 4 ((avS (cutC p0) 0)) ((avD (cutC p0) 0)))).length < 9223372036854775808) && decide (((mapD 4 ((avS (cutC p0) 0)) ((avD (cutC p0) 0)))).length < 9223372036854775808) then
  (bif decide (((mapS 4 ((mapS 4 ((avS (cutC p0) 0)) ((avD (cutC p0) 0)))) ((mapD 4 ((avS (cutC p0) 0)) ((avD (cutC p0) 0)))))).length < 9223372036854775808) && decide (((mapD 4 ((mapS 4 ((avS (cutC p0) 0)) ((avD (cutC p0) 0)))) ((mapD 4 ((avS (cutC p0) 0)) ((avD (cutC p0) 0)))))).length < 9223372036854775808) && decide (((mapD 4 ((mapS 4 ((avS (cutC p0) 0)) ((avD (cutC p0) 0)))) ((mapD 4 ((avS (cutC p0) 0)) ((avD (cutC p0) 0)))))).length < 9223372036854775808) then
  (bif (rpB ((mapS 4 ((mapS 4 ((avS (cutC p0) 0)) ((avD (cutC p0) 0)))) ((mapD 4 ((avS (cutC p0) 0)) ((avD (cutC p0) 0)))))) ((mapD 4 ((mapS 4 ((avS (cutC p0) 0)) ((avD (cutC p0) 0)))) ((mapD 4 ((avS (cutC p0) 0)) ((avD (cutC p0) 0)))))) 0 ((mapD 4 ((mapS 4 ((avS (cutC p0) 0)) ((avD (cutC p0) 0)))) ((mapD 4 ((avS (cutC p0) 0)) ((avD (cutC p0) 0))))))) then
  (bif (((((rpD ((mapS 4 ((mapS 4 ((avS (cutC p0) 0)) ((avD (cutC p0) 0)))) ((mapD 4 ((avS (cutC p0) 0)) ((avD (cutC p0) 0)))))) ((mapD 4 ((mapS 4 ((avS (cutC p0) 0)) ((avD (cutC p0) 0)))) ((mapD 4 ((avS (cutC p0) 0)) ((avD (cutC p0) 0)))))) 0 ((mapD 4 ((mapS 4 ((avS (cutC p0) 0)) ((avD (cutC p0) 0)))) ((mapD 4 ((avS (cutC p0) 0)) ((avD (cutC p0) 0))))))).length : Nat) : Int) : Int) == (((whD ((avS (cutC p0) 0)) ((avD (cutC p0) 0))).length : Nat) : Int)) then
  (bif decide (((mapS 4 ((mapS 4 ((avS (cutC p0) 0)) ((avD (cutC p0) 0)))) ((mapD 4 ((avS (cutC p0) 0)) ((avD (cutC p0) 0)))))).length < 9223372036854775808) && decide (((mapD 4 ((mapS 4 ((avS (cutC p0) 0)) ((avD (cutC p0) 0)))) ((mapD 4 ((avS (cutC p0) 0)) ((avD (cutC p0) 0)))))).length < 9223372036854775808) then
  (bif decide (((whS ((mapS 4 ((mapS 4 ((avS (cutC p0) 0)) ((avD (cutC p0) 0)))) ((mapD 4 ((avS (cutC p0) 0)) ((avD (cutC p0) 0)))))) ((mapD 4 ((mapS 4 ((avS (cutC p0) 0)) ((avD (cutC p0) 0)))) ((mapD 4 ((avS (cutC p0) 0)) ((avD (cutC p0) 0)))))))).length < 9223372036854775808) && decide (((whD ((mapS 4 ((mapS 4 ((avS (cutC p0) 0)) ((avD (cutC p0) 0)))) ((mapD 4 ((avS (cutC p0) 0)) ((avD (cutC p0) 0)))))) ((mapD 4 ((mapS 4 ((avS (cutC p0) 0)) ((avD (cutC p0) 0)))) ((mapD 4 ((avS (cutC p0) 0)) ((avD (cutC p0) 0)))))))).length < 9223372036854775808) && decide (((whS ((avS (cutC p0) 0)) ((avD (cutC p0) 0)))).length < 9223372036854775808) && decide (((whD ((avS (cutC p0) 0)) ((avD (cutC p0) 0)))).length < 9223372036854775808) then
  some ([.one ((.bool (decide (((whS ((mapS 4 ((mapS 4 ((avS (cutC p0) 0)) ((avD (cutC p0) 0)))) ((mapD 4 ((avS (cutC p0) 0)) ((avD (cutC p0) 0)))))) ((mapD 4 ((mapS 4 ((avS (cutC p0) 0)) ((avD (cutC p0) 0)))) ((mapD 4 ((avS (cutC p0) 0)) ((avD (cutC p0) 0)))))))) = ((whS ((avS (cutC p0) 0)) ((avD (cutC p0) 0))))) && decide (((whD ((mapS 4 ((mapS 4 ((avS (cutC p0) 0)) ((avD (cutC p0) 0)))) ((mapD 4 ((avS (cutC p0) 0)) ((avD (cutC p0) 0)))))) ((mapD 4 ((mapS 4 ((avS (cutC p0) 0)) ((avD (cutC p0) 0)))) ((mapD 4 ((avS (cutC p0) 0)) ((avD (cutC p0) 0)))))))) = ((whD ((avS (cutC p0) 0)) ((avD (cutC p0) 0))))))), false)], [])
  else
  none)
  else
  none)
  else
  some ([.one ((.bool false), false)], []))
  else
  some ([.one ((.bool false), false)], []))
  else
  none)
  else
  none)
  else
  none))
  else
  none))
  else
  none)
  else
  none)
  else
  none)
  else
  none)) := by kernel_rfl
end laws_FnWhereItemsMask
theorem laws_FnWhereItemsMask.ok_of (hX : ∀ E ∈ laws_FnWhereItemsMask.X, CallSpec Try.prog E) (h : ∀ (bs : List Int), (bytesB bs) = true → ∃ fuel, runF Try.prog laws_FnWhereItemsMask.X laws_FnWhereItemsMask.I 0 fuel 7 Try.f7 [.d (.ints .u8 bs)] = some ([.one ((.bool true), false)], [])) : CallSpec Try.prog laws_FnWhereItemsMask.E :=
  callSpec_of (d := 0) hX (by kernel_rfl) laws_FnWhereItemsMask.I_ok (by kernel_rfl) (by kernel_rfl) (by kernel_rfl) (fun _ _ _ _ h => by dsimp only [laws_FnWhereItemsMask.E] at h; cases h) (fun xs hp => by
    dsimp only [laws_FnWhereItemsMask.E] at hp ⊢
    split at hp
    · exact h _ hp
    · cases hp)
theorem laws_FnWhereItemsMask.ok : CallSpec Try.prog laws_FnWhereItemsMask.E := laws_FnWhereItemsMask.ok_of (by simp [laws_FnWhereItemsMask.X, spec_DrawWhereItems.ok, impl_WhereItems.ok, spec_WhereItems.ok, laws_equalArray.ok, impl_ValidArray.ok, impl_MapArray.ok, impl_RepeatAxis.ok]) fun bs h => by
  obtain ⟨F, hF⟩ : ∃ F : Nat, 4000 < F := ⟨4001, by omega⟩
  refine ⟨F, ?_⟩
  rw [laws_FnWhereItemsMask.e]
  by_cases hl : ((bs.length : Nat) : Int) > 1048576
  · rw [decide_eq_true hl]; rfl
  rw [decide_eq_false hl, cond_false, h, cond_true]
  have r0 := cut_ok h (p := 0) (by omega) (by omega)
  obtain ⟨a1, a2, _, _⟩ := av_bd r0 (by omega)
  obtain ⟨sh, hsh⟩ : ∃ x, avS (cutC bs) 0 = x := ⟨_, rfl⟩
  obtain ⟨da, hda⟩ : ∃ x, avD (cutC bs) 0 = x := ⟨_, rfl⟩
  rw [hsh] at a1
  rw [hda] at a2
  have g1 := lt_of (xs := sh) (by omega)
  have g2 := lt_of (xs := da) (by omega)
  have q1 : ∀ n : Nat, decide (([(n : Int)] : List Int).length < 9223372036854775808) = true := fun n => rfl
  simp only [hsh, hda]
  cases hb : vcB sh da with
  | false =>
    have e0 : whS sh da = [] := by simp only [whS, hb, cond_false]
    have e1 : whD sh da = [] := by simp only [whD, hb, cond_false]
    have g0 : decide (([] : List Int).length < 9223372036854775808) = true := rfl
    have hv0 : validA [] [] = false := rfl
    simp only [Bool.and_self, Bool.and_true, Bool.true_and, cond_true, cond_false, Bool.not_true, Bool.not_false, bne_self_eq_false, beq_self_eq_true, decide_true, eq_self, g1, g2, e0, e1, g0, hv0]
  | true =>
    obtain ⟨hv, hs, hl60, hal⟩ := vcB_inv hb
    obtain ⟨e0, e1, hvo, hul⟩ := wh_facts hb
    have hvu := validA_vec hvo
    have g3 := lt_of (xs := whC da da.length) (by omega)
    obtain ⟨s4, d4⟩ := mapS_eq (fn := 4) rfl hv
    have hv1 := map_valid 4 hv
    obtain ⟨s5, d5⟩ := mapS_eq (fn := 4) rfl hv1
    have hv2 := map_valid 4 hv1
    have ml : (mapX 4 (mapX 4 da)).length = da.length := by rw [mapX_length, mapX_length]
    have mg : ∀ i, i < da.length → (mapX 4 (mapX 4 da)).getD i 0 = mapF 4 (mapF 4 (da.getD i 0)) := fun i hi => by
      rw [mapX_get (by rw [mapX_length]; exact hi), mapX_get hi]
    generalize hmk : mapX 4 (mapX 4 da) = mk at *
    have hmb : allB mk 0 60 = true := allB_iff.2 fun v hv => by
      obtain ⟨i, hi, rfl⟩ := List.getElem_of_mem hv
      have h1 := mg i (by omega)
      have h2 := (mask_get (da.getD i 0)).2.2
      have h3 : mk.getD i 0 = mk[i] := by simp [hi]
      omega
    have hrl : (rpL mk).length = (whC da da.length).length := by
      unfold rpL
      rw [ml]
      exact rp_wh da.length fun i hi => by rw [mg i hi]; exact (mask_get _).2.1
    have hLs : lenN sh 0 = da.length := by rw [hs]; simp [lenN]
    have h0 : 0 < sh.length := by rw [hs]; simp
    have hx := axB_of (k := 0) hv2 h0
    have hvs : validS (alS sh 0 (rpL mk)) = true := by
      have := valid_less (l := (rpL mk).length) (validA_inv hv).1 h0 (by rw [hLs, hrl]; exact whC_len da da.length)
      exact this
    have r1 : rpB sh mk 0 mk = true := by
      have hx' : axB sh mk 0 = true := hx
      simp only [rpB, hx', Int.toNat_zero, hLs, ml, hmb, hvs, decide_true, Bool.and_self]
    have r2 : (rpD sh mk 0 mk).length = (whC da da.length).length := by
      simp only [rpD, r1, cond_true]
      rw [hs]
      have := alA_length [((da.length : Nat) : Int)] mk 0 (rpL mk)
      rw [show (((0 : Nat) : Int)) = 0 from rfl] at this
      rw [this, hrl]
      show 1 * _ * 1 = _
      omega
    have hbm : vcB sh mk = true := by
      simp only [vcB, hv2, Bool.true_and]
      rw [hs]; rfl
    obtain ⟨f0, f1, _, _⟩ := wh_facts hbm
    have hsame : whC mk mk.length = whC da da.length := by
      rw [ml]
      exact wh_same da.length fun i hi => by rw [mg i hi]; exact (mask_get _).1
    rw [hsame] at f0 f1
    have g4 := lt_of (xs := mapX 4 da) (by rw [mapX_length]; omega)
    have g5 := lt_of (xs := mk) (by omega)
    simp only [Bool.and_self, Bool.and_true, Bool.true_and, cond_true, cond_false, Bool.not_true, Bool.not_false, bne_self_eq_false, beq_self_eq_true, decide_true, eq_self, g1, g2, g3, g4, g5, q1, e0, e1, hvu, s4, d4, s5, d5, hmk, r1, r2, f0, f1]

namespace spec_anyAxis
noncomputable def E : Entry := ⟨33, false, false, fun | [.box [(.ints .u8 bs), (.int .i64 p)], .d (.agg [(.ints .i64 sh), (.ints .i64 da)])] => rdOk bs p && decide ((p : Int) ≤ 2000000) && decide ((sh : List Int).length ≤ 1000) | _ => false, fun | [.box [(.ints .u8 bs), (.int .i64 p)], .d (.agg [(.ints .i64 sh), (.ints .i64 da)])] => ([.one ((.int .i64 (aAx bs p sh)), false)], [[(.ints .u8 bs), (.int .i64 (aAxP p sh))]]) | _ => ([], []), fun _ => [], false, fun _ => none⟩
end spec_anyAxis
namespace spec_anyAxis
noncomputable def X : List Entry := [spec_reader_pick.E, spec_reader_one.E]
noncomputable def I : List Inl := [⟨33, Try.f33, ⟨[], [], [], [], [20], []⟩⟩]
theorem I_ok : ∀ i ∈ I, Try.prog.funcs[i.f]? = some i.fn ∧ (i.fn.name == "runtime.NumGoroutine") = false := by
  intro i hi
  simp only [I, List.mem_cons, List.not_mem_nil, or_false] at hi
  subst hi
  exact ⟨by kernel_rfl, by kernel_rfl⟩
theorem e (fuel : Nat) (p0q0 : List Int) (p0q1 : Int) (p1q0 : List Int) (p1q1 : List Int) : runF Try.prog X I 0 fuel 33 Try.f33 [.box [(.ints .u8 p0q0), (.int .i64 p0q1)], .d (.agg [(.ints .i64 p1q0), (.ints .i64 p1q1)])] =
  (bif (decide ((((p1q0.length : Nat) : Int) : Int) > 0)) then
  (bif rdOk p0q0 p0q1 && decide ((8 : Int) ≤ 1048576) then
  (bif (decide (((pickV p0q0 p0q1 8) : Int) > 0)) then
  (bif rdOk p0q0 ((p0q1 + 1)) && decide (((((p1q0.length : Nat) : Int)) : Int) ≤ 1048576) then
  some ([.one ((.int .i64 (pickV p0q0 ((p0q1 + 1)) (((p1q0.length : Nat) : Int)))), false)], [[(.ints .u8 p0q0), (.int .i64 (((p0q1 + 1)) + 1))]])
  else
  none)
  else
  (bif rdOk p0q0 ((p0q1 + 1)) && decide (0 < ((([0, 1, 3, (-1)] : List Int)) : List Int).length) && decide (((([0, 1, 3, (-1)] : List Int)) : List Int).length ≤ 1048576) then
  some ([.one ((.int .i64 (oneV p0q0 ((p0q1 + 1)) (([0, 1, 3, (-1)] : List Int)))), false)], [[(.ints .u8 p0q0), (.int .i64 (((p0q1 + 1)) + 1))]])
  else
  none))
  else
  none)
  else
  (bif rdOk p0q0 p0q1 && decide (0 < ((([0, 1, 3, (-1)] : List Int)) : List Int).length) && decide (((([0, 1, 3, (-1)] : List Int)) : List Int).length ≤ 1048576) then
  some ([.one ((.int .i64 (oneV p0q0 p0q1 (([0, 1, 3, (-1)] : List Int)))), false)], [[(.ints .u8 p0q0), (.int .i64 (p0q1 + 1))]])
  else
  none)) := by kernel_rfl
end spec_anyAxis
theorem spec_anyAxis.ok_of (hX : ∀ E ∈ spec_anyAxis.X, CallSpec Try.prog E) (h : ∀ (bs : List Int) (p : Int) (sh : List Int) (da : List Int), (rdOk bs p && decide ((p : Int) ≤ 2000000) && decide ((sh : List Int).length ≤ 1000)) = true → ∃ fuel, runF Try.prog spec_anyAxis.X spec_anyAxis.I 0 fuel 33 Try.f33 [.box [(.ints .u8 bs), (.int .i64 p)], .d (.agg [(.ints .i64 sh), (.ints .i64 da)])] = some ([.one ((.int .i64 (aAx bs p sh)), false)], [[(.ints .u8 bs), (.int .i64 (aAxP p sh))]])) : CallSpec Try.prog spec_anyAxis.E :=
  callSpec_of (d := 0) hX (by kernel_rfl) spec_anyAxis.I_ok (by kernel_rfl) (by kernel_rfl) (by kernel_rfl) (fun _ _ _ _ h => by dsimp only [spec_anyAxis.E] at h; cases h) (fun xs hp => by
    dsimp only [spec_anyAxis.E] at hp ⊢
    split at hp
    · exact h _ _ _ _ hp
    · cases hp)
theorem spec_anyAxis.ok : CallSpec Try.prog spec_anyAxis.E := spec_anyAxis.ok_of (by simp [spec_anyAxis.X, spec_reader_pick.ok, spec_reader_one.ok]) fun bs p sh da h => ⟨0, by
  simp only [Bool.and_eq_true, decide_eq_true_eq] at h
  obtain ⟨⟨h1, h2⟩, h3⟩ := h
  have r1 := rd_le (q := p + 1) h1 (by omega) (by omega)
  rw [spec_anyAxis.e, h1, r1, decide_eq_true (p := ((sh.length : Nat) : Int) ≤ 1048576) (by omega), decide_eq_true (p := (8 : Int) ≤ 1048576) (by omega)]
  unfold aAx aAxP
  by_cases h0 : 0 < sh.length
  · rw [decide_eq_true (p := ((sh.length : Nat) : Int) > 0) (by omega), decide_eq_true h0]
    cases decide (pickV bs p 8 > 0) <;> rfl
  · rw [decide_eq_false (p := ((sh.length : Nat) : Int) > 0) (by omega), decide_eq_false h0]
    rfl⟩

namespace spec_isAxis
noncomputable def E : Entry := ⟨34, true, false, fun | [.d (.agg [(.ints .i64 sh), (.ints .i64 da)]), .d (.int .i64 k)] => decide (sh.length < 9223372036854775808) && decide (da.length < 9223372036854775808) | _ => false, fun | [.d (.agg [(.ints .i64 sh), (.ints .i64 da)]), .d (.int .i64 k)] => ([.one ((.bool (axB sh da k)), false)], []) | _ => ([], []), fun _ => [], false, fun _ => none⟩
end spec_isAxis
namespace spec_isAxis
noncomputable def X : List Entry := [spec_valid.E, spec_inRange.E]
noncomputable def I : List Inl := [⟨34, Try.f34, ⟨[], [], [], [], [], []⟩⟩]
theorem I_ok : ∀ i ∈ I, Try.prog.funcs[i.f]? = some i.fn ∧ (i.fn.name == "runtime.NumGoroutine") = false := by
  intro i hi
  simp only [I, List.mem_cons, List.not_mem_nil, or_false] at hi
  subst hi
  exact ⟨by kernel_rfl, by kernel_rfl⟩
theorem e (fuel : Nat) (p0q0 : List Int) (p0q1 : List Int) (p1 : Int) : runF Try.prog X I 0 fuel 34 Try.f34 [.d (.agg [(.ints .i64 p0q0), (.ints .i64 p0q1)]), .d (.int .i64 p1)] =
  (bif decide (p0q0.length < 9223372036854775808) && decide (p0q1.length < 9223372036854775808) then
  (bif (validA p0q0 p0q1) then
  some ([.one ((.bool (decide (0 ≤ p1) && decide (p1 ≤ ((IntKind.wrap .i64 (((p0q0.length : Nat) : Int) - 1)))))), false)], [])
  else
  some ([.one ((.bool false), false)], []))
  else
  none) := by kernel_rfl
end spec_isAxis
theorem spec_isAxis.ok_of (hX : ∀ E ∈ spec_isAxis.X, CallSpec Try.prog E) (h : ∀ (sh : List Int) (da : List Int) (k : Int), (decide (sh.length < 9223372036854775808) && decide (da.length < 9223372036854775808)) = true → ∃ fuel, runF Try.prog spec_isAxis.X spec_isAxis.I 0 fuel 34 Try.f34 [.d (.agg [(.ints .i64 sh), (.ints .i64 da)]), .d (.int .i64 k)] = some ([.one ((.bool (axB sh da k)), false)], [])) : CallSpec Try.prog spec_isAxis.E :=
  callSpec_of (d := 0) hX (by kernel_rfl) spec_isAxis.I_ok (by kernel_rfl) (by kernel_rfl) (by kernel_rfl) (fun _ _ _ _ h => by dsimp only [spec_isAxis.E] at h; cases h) (fun xs hp => by
    dsimp only [spec_isAxis.E] at hp ⊢
    split at hp
    · exact h _ _ _ hp
    · cases hp)
theorem spec_isAxis.ok : CallSpec Try.prog spec_isAxis.E := spec_isAxis.ok_of (by simp [spec_isAxis.X, spec_valid.ok, spec_inRange.ok]) fun sh da k h => ⟨0, by
  rw [spec_isAxis.e, h]
  simp only [Bool.and_eq_true, decide_eq_true_eq] at h
  unfold axB axOk
  rw [wS (by omega) (by omega)]
  cases hv : validA sh da with
  | false => rfl
  | true =>
    have : decide (k ≤ ((sh.length : Nat) : Int) - 1) = decide (k < ((sh.length : Nat) : Int)) := decide_eq_decide.2 (by omega)
    simp only [this, Bool.true_and, cond_true]⟩

namespace spec_DrawRepeatAxis
noncomputable def E : Entry := ⟨14, false, false, fun | [.d (.ints .u8 bs)] => bytesB bs | _ => false, fun | [.d (.ints .u8 bs)] => ([.agg [((.ints .i64 (aArS (cutC bs) 0)), false), ((.ints .i64 (aArD (cutC bs) 0)), false)], .one ((.int .i64 (dAx (cutC bs))), false), .one ((.ints .i64 (drT (cutC bs))), false)], []) | _ => ([], []), fun _ => [], true, fun _ => none⟩
end spec_DrawRepeatAxis
namespace spec_DrawRepeatAxis
noncomputable def X : List Entry := [spec_newReader.E, spec_anyArray.E, spec_anyAxis.E, spec_isAxis.E, spec_reader_one.E, spec_reader_spoil.E]
noncomputable def I : List Inl := [⟨14, Try.f14, ⟨[13, 42], [(1000006, [0, 1, 3, 4, 10, 11, 12, 13, 14, 15, 16, 17, 18, 19, 20, 21, 22, 23, 24, 25, 26, 27, 28, 29, 30, 31, 32, 33, 34, 35, 36, 37, 38, 39, 40, 41, 42])], [(9, [8, 6])], [], [34, 38], []⟩⟩]
theorem I_ok : ∀ i ∈ I, Try.prog.funcs[i.f]? = some i.fn ∧ (i.fn.name == "runtime.NumGoroutine") = false := by
  intro i hi
  simp only [I, List.mem_cons, List.not_mem_nil, or_false] at hi
  subst hi
  exact ⟨by kernel_rfl, by kernel_rfl⟩
noncomputable abbrev L0 (fuel n : Nat) (s : St) (k : Kont) := lAt Try.prog X I fuel true 0 false 14 (bodyOf Try.f14) [1, 1, 1, 1, 1, 0, 1, 0] n s k
noncomputable abbrev k0  (fuel : Nat) : Kont := (kAt Try.prog X I fuel true 0 false 14 (bodyOf Try.f14) [1, 1, 1, 1, 1, 0, 1, 0] [] (endK Try.prog Try.f14))
noncomputable def t0 (p0 : List Int) (x0q1 : Int) (x0q2 : List Int) (x0q3 : Int) (x0q6 : List Int) : St := ⟨[.dead, .dead, (.ptr 1000000000 0 0), .dead, .dead, (.ptr 1000000001 0 0), (.ptr 1000000002 0 0), (.imm (.int .i64 (aAx (((cutC p0))) ((aArP ((cutC p0)) 0)) ((aArS ((cutC p0)) 0))))), (.all 1000000003 1), (.imm (.int .i64 x0q1)), .dead, .dead, .dead, .dead, .dead, .dead, .dead, .dead, .dead, .dead, .dead, .dead, .dead, .dead, .dead, .dead, .dead, .dead, .dead, .dead, .dead, .dead, .dead, .dead, .dead, .dead, .dead, .dead, .dead, .dead, .dead, .dead, .dead], hOf [(1000000000, (.box [(.imm .nils), (.imm .nils)])), (1000000001, (.box [(.imm (.ints .u8 x0q2)), (.imm (.int .i64 x0q3))])), (1000000002, (.box [(.imm (.ints .i64 (aArS ((cutC p0)) 0))), (.imm (.ints .i64 (aArD ((cutC p0)) 0)))])), (1000000003, (.ints .i64 x0q6))], [], []⟩
theorem e (fuel : Nat) (p0 : List Int) : runF Try.prog X I 0 fuel 14 Try.f14 [.d (.ints .u8 p0)] =
  (bif rdOk ((cutC p0)) 0 && decide ((0 : Int) ≤ 1000000) then
  (bif rdOk (((cutC p0))) ((aArP ((cutC p0)) 0)) && decide ((((aArP ((cutC p0)) 0)) : Int) ≤ 2000000) && decide ((((aArS ((cutC p0)) 0)) : List Int).length ≤ 1000) then
  L0 fuel fuel (t0 p0 0 ((((cutC p0)))) ((aAxP ((aArP ((cutC p0)) 0)) ((aArS ((cutC p0)) 0)))) ([])) (k0  fuel)
  else
  none)
  else
  none) := by kernel_rfl
theorem s0 (fuel n0 : Nat) (p0 : List Int) (x0q1 : Int) (x0q2 : List Int) (x0q3 : Int) (x0q6 : List Int) : L0 fuel (n0 + 1) (t0 p0 x0q1 x0q2 x0q3 x0q6) (k0  fuel) =
  (bif decide (((aArS ((cutC p0)) 0)).length < 9223372036854775808) && decide (((aArD ((cutC p0)) 0)).length < 9223372036854775808) then
  (bif (axB ((aArS ((cutC p0)) 0)) ((aArD ((cutC p0)) 0)) ((aAx (((cutC p0))) ((aArP ((cutC p0)) 0)) ((aArS ((cutC p0)) 0))))) then
  (idx (aAx (((cutC p0))) ((aArP ((cutC p0)) 0)) ((aArS ((cutC p0)) 0))) (aArS ((cutC p0)) 0).length).bind fun j5 =>
  ((aArS ((cutC p0)) 0)[j5]?).bind fun v6 =>
  (bif (decide ((x0q1 : Int) < v6)) then
  (bif rdOk x0q2 x0q3 && decide (0 < ((([1, 0, 2, 1, 3] : List Int)) : List Int).length) && decide (((([1, 0, 2, 1, 3] : List Int)) : List Int).length ≤ 1048576) then
  (bif fits (x0q6.length + ([(oneV x0q2 x0q3 (([1, 0, 2, 1, 3] : List Int)))] : List Int).length) 8 then
  L0 fuel n0 (t0 p0 ((IntKind.wrap .i64 (x0q1 + 1))) x0q2 ((x0q3 + 1)) ((x0q6 ++ [(oneV x0q2 x0q3 (([1, 0, 2, 1, 3] : List Int)))]))) (k0  fuel)
  else
  none)
  else
  none)
  else
  (bif rdOk x0q2 x0q3 && decide ((x0q3 : Int) ≤ 2000000) && decide ((x0q6 : List Int).length ≤ 1000000) then
  some ([.agg [((.ints .i64 (aArS ((cutC p0)) 0)), false), ((.ints .i64 (aArD ((cutC p0)) 0)), false)], .one ((.int .i64 (aAx (((cutC p0))) ((aArP ((cutC p0)) 0)) ((aArS ((cutC p0)) 0)))), false), .one ((.ints .i64 (spV x0q2 x0q3 x0q6 61)), false)], [])
  else
  none))
  else
  (bif rdOk x0q2 x0q3 && decide ((x0q3 : Int) ≤ 2000000) && decide ((x0q6 : List Int).length ≤ 1000000) then
  some ([.agg [((.ints .i64 (aArS ((cutC p0)) 0)), false), ((.ints .i64 (aArD ((cutC p0)) 0)), false)], .one ((.int .i64 (aAx (((cutC p0))) ((aArP ((cutC p0)) 0)) ((aArS ((cutC p0)) 0)))), false), .one ((.ints .i64 (spV x0q2 x0q3 x0q6 61)), false)], [])
  else
  none))
  else
  none) := by kernel_rfl
end spec_DrawRepeatAxis
theorem spec_DrawRepeatAxis.ok_of (hX : ∀ E ∈ spec_DrawRepeatAxis.X, CallSpec Try.prog E) (h : ∀ (bs : List Int), (bytesB bs) = true → ∃ fuel, runF Try.prog spec_DrawRepeatAxis.X spec_DrawRepeatAxis.I 0 fuel 14 Try.f14 [.d (.ints .u8 bs)] = some ([.agg [((.ints .i64 (aArS (cutC bs) 0)), false), ((.ints .i64 (aArD (cutC bs) 0)), false)], .one ((.int .i64 (dAx (cutC bs))), false), .one ((.ints .i64 (drT (cutC bs))), false)], [])) : CallSpec Try.prog spec_DrawRepeatAxis.E :=
  callSpec_of (d := 0) hX (by kernel_rfl) spec_DrawRepeatAxis.I_ok (by kernel_rfl) (by kernel_rfl) (by kernel_rfl) (fun _ _ _ _ h => by dsimp only [spec_DrawRepeatAxis.E] at h; cases h) (fun xs hp => by
    dsimp only [spec_DrawRepeatAxis.E] at hp ⊢
    split at hp
    · exact h _ hp
    · cases hp)
theorem spec_DrawRepeatAxis.ok : CallSpec Try.prog spec_DrawRepeatAxis.E := spec_DrawRepeatAxis.ok_of (by simp [spec_DrawRepeatAxis.X, spec_newReader.ok, spec_anyArray.ok, spec_anyAxis.ok, spec_isAxis.ok, spec_reader_one.ok, spec_reader_spoil.ok]) fun bs h => by
  obtain ⟨F, hF⟩ : ∃ F : Nat, 1000 < F := ⟨1001, by omega⟩
  refine ⟨F, ?_⟩
  have r0 := cut_ok h (p := 0) (by omega) (by omega)
  obtain ⟨_, _, a1, a2, p1, p2⟩ := dj_bd r0
  obtain ⟨_, _, a3, a4⟩ := aAr_bd r0 (by omega)
  have hN := drN_bd (bs := cutC bs)
  have hlen : (dr0 (cutC bs)).length = drN (cutC bs) := tab_length _ _
  have e1 : aAxP (aArP (cutC bs) 0) (aArS (cutC bs) 0) = dAxP (cutC bs) := rfl
  have e2 : aAx (cutC bs) (aArP (cutC bs) 0) (aArS (cutC bs) 0) = dAx (cutC bs) := rfl
  have g1 := lt_of (xs := aArS (cutC bs) 0) (by omega)
  have g2 := lt_of (xs := aArD (cutC bs) 0) (by omega)
  rw [spec_DrawRepeatAxis.e, e1, r0, rd_le (q := aArP (cutC bs) 0) r0 (by omega) (by omega), decide_eq_true (p := aArP (cutC bs) 0 ≤ 2000000) (by omega), decide_eq_true (p := (aArS (cutC bs) 0).length ≤ 1000) (by omega)]
  show spec_DrawRepeatAxis.L0 F F _ _ = _
  refine run_loop (N := drN (cutC bs)) (fun n j (st : Int × List Int) => spec_DrawRepeatAxis.L0 F n (spec_DrawRepeatAxis.t0 bs (j : Int) (cutC bs) st.1 st.2) (spec_DrawRepeatAxis.k0 F)) (fun j st => st.1 = dAxP (cutC bs) + ((j : Nat) : Int) ∧ st.2 = (dr0 (cutC bs)).take j) ?_ ?_ F 0 (dAxP (cutC bs), []) (by omega) (by omega) ⟨by simp, by simp⟩
  · rintro n ⟨q, out⟩ ⟨e3, e4⟩
    simp only at e3 e4
    rw [← hlen, List.take_length] at e4
    subst e3
    subst e4
    have r1 := rd_le (q := dAxP (cutC bs) + ((drN (cutC bs) : Nat) : Int)) r0 (by omega) (by omega)
    dsimp only
    rw [spec_DrawRepeatAxis.s0, e2, g1, g2, r1, decide_eq_true (p := dAxP (cutC bs) + ((drN (cutC bs) : Nat) : Int) ≤ 2000000) (by omega), decide_eq_true (p := (dr0 (cutC bs)).length ≤ 1000000) (by omega)]
    cases hb : axB (aArS (cutC bs) 0) (aArD (cutC bs) 0) (dAx (cutC bs)) with
    | false => rfl
    | true =>
      obtain ⟨k, hk, hk2, hv, ax, hd, hl⟩ := axB_inv hb
      have hn : drN (cutC bs) = lenN (aArS (cutC bs) 0) k := by
        have hb2 := hb
        rw [hk] at hb2
        simp only [drN, djB1, hk, hb2, cond_true, lenK, Int.toNat_natCast]
      rw [hk, idx_nat hk2]
      simp only [Option.bind_some, getD_get hk2, ax.len]
      rw [← hk, decide_eq_false (by omega)]
      rfl
  · rintro n j ⟨q, out⟩ hj ⟨e3, e4⟩
    simp only at e3 e4
    subst e3
    have hol : out.length = j := by rw [e4, take_len (by omega)]
    have r1 := rd_le (q := dAxP (cutC bs) + ((j : Nat) : Int)) r0 (by omega) (by omega)
    cases hb : axB (aArS (cutC bs) 0) (aArD (cutC bs) 0) (dAx (cutC bs)) with
    | false =>
      have : drN (cutC bs) = 0 := by simp only [drN, djB1, hb, cond_false]
      omega
    | true =>
      obtain ⟨k, hk, hk2, hv, ax, hd, hl⟩ := axB_inv hb
      have hn : drN (cutC bs) = lenN (aArS (cutC bs) 0) k := by
        have hb2 := hb
        rw [hk] at hb2
        simp only [drN, djB1, hk, hb2, cond_true, lenK, Int.toNat_natCast]
      dsimp only
      rw [spec_DrawRepeatAxis.s0, e2, g1, g2, hb, hk, idx_nat hk2]
      simp only [Option.bind_some, getD_get hk2, ax.len, Bool.and_self, cond_true]
      rw [decide_eq_true (by omega), cond_true, r1, fitsOk (by simp only [List.length_cons, List.length_nil]; omega), w1 (by omega)]
      refine ⟨(dAxP (cutC bs) + ((j + 1 : Nat) : Int), out ++ [oneV (cutC bs) (dAxP (cutC bs) + ((j : Nat) : Int)) [1, 0, 2, 1, 3]]), ⟨rfl, ?_⟩, ?_⟩
      · simp only
        rw [e4]
        refine take_push (by omega) ?_
        simp only [dr0]
        rw [tab_getD hj]
      · dsimp only
        rw [show dAxP (cutC bs) + ((j + 1 : Nat) : Int) = dAxP (cutC bs) + ((j : Nat) : Int) + 1 by omega]
        rfl

namespace spec_around
noncomputable def E : Entry := ⟨68, true, false, fun | [.d (.ints .i64 sh), .d (.int .i64 k)] => validS sh && axOk sh k | _ => false, fun | [.d (.ints .i64 sh), .d (.int .i64 k)] => ([.one ((.int .i64 ((befN sh k.toNat : Nat) : Int)), false), .one ((.int .i64 ((behN sh k.toNat : Nat) : Int)), false)], []) | _ => ([], []), fun _ => [], false, fun _ => none⟩
end spec_around
namespace spec_around
noncomputable def X : List Entry := [spec_volume.E]
noncomputable def I : List Inl := [⟨68, Try.f68, ⟨[], [], [], [(1, [0, 1, 4, 5, 6, 2, 3, 7, 8, 9, 10])], [], []⟩⟩]
theorem I_ok : ∀ i ∈ I, Try.prog.funcs[i.f]? = some i.fn ∧ (i.fn.name == "runtime.NumGoroutine") = false := by
  intro i hi
  simp only [I, List.mem_cons, List.not_mem_nil, or_false] at hi
  subst hi
  exact ⟨by kernel_rfl, by kernel_rfl⟩
theorem e (fuel : Nat) (p0 : List Int) (p1 : Int) : runF Try.prog X I 0 fuel 68 Try.f68 [.d (.ints .i64 p0), .d (.int .i64 p1)] =
  (cutEnds p0.length (none) (some (.imm (.int .i64 p1)))).bind fun cq1 =>
  (bif decide ((((p0.drop cq1.1).take (cq1.2 - cq1.1))).length < 9223372036854775808) then
  (cutEnds p0.length (some (.imm (.int .i64 (IntKind.wrap .i64 (p1 + 1))))) (none)).bind fun cq2 =>
  (bif decide ((((p0.drop cq2.1).take (cq2.2 - cq2.1))).length < 9223372036854775808) then
  some ([.one ((.int .i64 (volW (((p0.drop cq1.1).take (cq1.2 - cq1.1))))), false), .one ((.int .i64 (volW (((p0.drop cq2.1).take (cq2.2 - cq2.1))))), false)], [])
  else
  none)
  else
  none) := by kernel_rfl
end spec_around
theorem spec_around.ok_of (hX : ∀ E ∈ spec_around.X, CallSpec Try.prog E) (h : ∀ (sh : List Int) (k : Int), (validS sh && axOk sh k) = true → ∃ fuel, runF Try.prog spec_around.X spec_around.I 0 fuel 68 Try.f68 [.d (.ints .i64 sh), .d (.int .i64 k)] = some ([.one ((.int .i64 ((befN sh k.toNat : Nat) : Int)), false), .one ((.int .i64 ((behN sh k.toNat : Nat) : Int)), false)], [])) : CallSpec Try.prog spec_around.E :=
  callSpec_of (d := 0) hX (by kernel_rfl) spec_around.I_ok (by kernel_rfl) (by kernel_rfl) (by kernel_rfl) (fun _ _ _ _ h => by dsimp only [spec_around.E] at h; cases h) (fun xs hp => by
    dsimp only [spec_around.E] at hp ⊢
    split at hp
    · exact h _ _ hp
    · cases hp)
theorem spec_around.ok : CallSpec Try.prog spec_around.E := spec_around.ok_of (by simp [spec_around.X, spec_volume.ok]) fun sh k h => ⟨0, by
  rw [spec_around.e]
  simp only [Bool.and_eq_true] at h
  obtain ⟨e1, e2⟩ := axOk_nat h.2
  have ax := ax_of h.1 e2
  have hr := ax.rank
  generalize k.toNat = j at *
  subst e1
  rw [cut_hi (by omega), w1 (by omega), cut_lo (by omega)]
  simp only [Option.bind_some, List.drop_zero, Nat.sub_zero, drop_take]
  rw [lt_of (by simp; omega), lt_of (by simp; omega), ax.bef, ax.beh]
  rfl⟩

namespace spec_along
noncomputable def E : Entry := ⟨42, false, false, fun | [.d (.agg [(.ints .i64 sh), (.ints .i64 da)]), .d (.int .i64 k), .d (.ints .i64 ls)] => axB sh da k && alP sh k ls | _ => false, fun | [.d (.agg [(.ints .i64 sh), (.ints .i64 da)]), .d (.int .i64 k), .d (.ints .i64 ls)] => ([.agg [((.ints .i64 (alS sh k ls)), true), ((.ints .i64 (alA sh da k ls)), true)]], []) | _ => ([], []), fun _ => [], true, fun _ => none⟩
end spec_along
namespace spec_along
noncomputable def X : List Entry := [spec_copyInts.E, spec_around.E, spec_make1.E]
noncomputable def I : List Inl := [⟨42, Try.f42, ⟨[17, 78], [(1000006, [0, 4, 5, 12, 13, 14, 15, 16, 17, 18, 19, 20, 21, 22, 23, 24, 25, 26, 27, 28, 29, 30, 31, 32, 33, 34, 35, 36, 37, 38, 39, 40, 41, 42, 43, 44, 45, 46, 47, 48, 49, 50, 51, 52, 53, 54, 55, 56, 57, 58, 59, 60, 61, 62, 63, 64, 65, 66, 67, 68, 69, 70, 71, 72, 73, 74, 75, 76, 77, 78]), (1000009, [0, 4, 5, 13, 14, 15, 16, 17, 18, 19, 20, 21, 22, 23, 24, 25, 26, 27, 28, 29, 30, 31, 32, 33, 34, 35, 36, 37, 38, 39, 40, 41, 42, 43, 44, 45, 46, 47, 48, 49, 50, 51, 52, 53, 54, 55, 56, 57, 58, 59, 60, 61, 62, 63, 64, 65, 66, 67, 68, 69, 70, 71, 72, 73, 74, 75, 76, 77, 78]), (1000012, [0, 4, 5, 14, 15, 16, 17, 18, 19, 20, 21, 22, 23, 24, 25, 26, 27, 28, 29, 30, 31, 32, 33, 34, 35, 36, 37, 38, 39, 40, 41, 42, 43, 44, 45, 46, 47, 48, 49, 50, 51, 52, 53, 54, 55, 56, 57, 58, 59, 60, 61, 62, 63, 64, 65, 66, 67, 68, 69, 70, 71, 72, 73, 74, 75, 76, 77, 78])], [], [(16, [0, 2, 3, 5, 9, 10, 14, 16, 1, 4, 6, 7, 8, 11, 12, 13, 15, 17, 18, 19, 20])], [], []⟩⟩]
theorem I_ok : ∀ i ∈ I, Try.prog.funcs[i.f]? = some i.fn ∧ (i.fn.name == "runtime.NumGoroutine") = false := by
  intro i hi
  simp only [I, List.mem_cons, List.not_mem_nil, or_false] at hi
  subst hi
  exact ⟨by kernel_rfl, by kernel_rfl⟩
noncomputable abbrev L0 (fuel n : Nat) (s : St) (k : Kont) := lAt Try.prog X I fuel true 0 false 42 (bodyOf Try.f42) [1, 1, 1, 1, 1, 0, 1, 0] n s k
noncomputable abbrev k0  (fuel : Nat) : Kont := (kAt Try.prog X I fuel true 0 false 42 (bodyOf Try.f42) [1, 1, 1, 1, 1, 0, 1, 0] [] (endK Try.prog Try.f42))
noncomputable def t0 (p1 : Int) (p2 : List Int) (p0q0 : List Int) (p0q1 : List Int) (j1 : Nat) (x0q4 : Int) (x0q8 : List Int) : St := ⟨[.dead, (.imm (.int .i64 p1)), (.imm (.ints .i64 p2)), (.ptr 1000000000 0 0), .dead, .dead, (.ptr 1000000001 0 0), (.all 1000000002 1), (.imm (.int .i64 ((befN p0q0 p1.toNat : Nat) : Int))), (.imm (.int .i64 ((behN p0q0 p1.toNat : Nat) : Int))), (.all 1000000003 1), (.imm (.int .i64 x0q4)), .dead, .dead, .dead, .dead, .dead, .dead, .dead, .dead, .dead, .dead, .dead, .dead, .dead, .dead, .dead, .dead, .dead, .dead, .dead, .dead, .dead, .dead, .dead, .dead, .dead, .dead, .dead, .dead, .dead, .dead, .dead, .dead, .dead, .dead, .dead, .dead, .dead, .dead, .dead, .dead, .dead, .dead, .dead, .dead, .dead, .dead, .dead, .dead, .dead, .dead, .dead, .dead, .dead, .dead, .dead, .dead, .dead, .dead, .dead, .dead, .dead, .dead, .dead, .dead, .dead, .dead, .dead], hOf [(1000000000, (.box [(.imm (.ints .i64 p0q0)), (.imm (.ints .i64 p0q1))])), (1000000001, (.box [(.imm .nils), (.imm .nils)])), (1000000002, (.ints .i64 (p0q0.set j1 ((p2.length : Nat) : Int)))), (1000000003, (.ints .i64 x0q8))], [], []⟩
noncomputable abbrev L1 (fuel n : Nat) (s : St) (k : Kont) := lAt Try.prog X I fuel true 0 false 42 (bodyOf Try.f42) [1, 1, 1, 1, 1, 0, 1, 0, 0, 1, 0, 0, 1, 0] n s k
noncomputable abbrev k1 (n0 : Nat) (fuel : Nat) : Kont := (kAt Try.prog X I fuel true 0 false 42 (bodyOf Try.f42) [1, 1, 1, 1, 1, 0, 1, 0, 0, 1, 0, 0, 1, 0] [n0] (endK Try.prog Try.f42))
noncomputable def t1 (p1 : Int) (p2 : List Int) (p0q0 : List Int) (x0q4 : Int) (p0q1 : List Int) (j1 : Nat) (x1q5 : Int) (x1q9 : List Int) : St := ⟨[.dead, (.imm (.int .i64 p1)), (.imm (.ints .i64 p2)), (.ptr 1000000000 0 0), .dead, .dead, (.ptr 1000000001 0 0), (.all 1000000002 1), (.imm (.int .i64 ((befN p0q0 p1.toNat : Nat) : Int))), (.imm (.int .i64 ((behN p0q0 p1.toNat : Nat) : Int))), (.all 1000000003 1), (.imm (.int .i64 x0q4)), (.imm (.int .i64 x1q5)), .dead, .dead, .dead, .dead, .dead, .dead, .dead, .dead, .dead, .dead, .dead, .dead, .dead, .dead, .dead, .dead, .dead, .dead, .dead, .dead, .dead, .dead, .dead, .dead, .dead, .dead, .dead, .dead, .dead, .dead, .dead, .dead, .dead, .dead, .dead, .dead, .dead, .dead, .dead, .dead, .dead, .dead, .dead, .dead, .dead, .dead, .dead, .dead, .dead, .dead, .dead, .dead, .dead, .dead, .dead, .dead, .dead, .dead, .dead, .dead, .dead, .dead, .dead, .dead, .dead, .dead], hOf [(1000000000, (.box [(.imm (.ints .i64 p0q0)), (.imm (.ints .i64 p0q1))])), (1000000001, (.box [(.imm .nils), (.imm .nils)])), (1000000002, (.ints .i64 (p0q0.set j1 ((p2.length : Nat) : Int)))), (1000000003, (.ints .i64 x1q9))], [], []⟩
noncomputable abbrev L2 (fuel n : Nat) (s : St) (k : Kont) := lAt Try.prog X I fuel true 0 false 42 (bodyOf Try.f42) [1, 1, 1, 1, 1, 0, 1, 0, 0, 1, 0, 0, 1, 0, 0, 1, 0, 0, 1, 0] n s k
noncomputable abbrev k2 (n0 : Nat) (n1 : Nat) (fuel : Nat) : Kont := (kAt Try.prog X I fuel true 0 false 42 (bodyOf Try.f42) [1, 1, 1, 1, 1, 0, 1, 0, 0, 1, 0, 0, 1, 0, 0, 1, 0, 0, 1, 0] [n0, n1] (endK Try.prog Try.f42))
noncomputable def t2 (p1 : Int) (p2 : List Int) (p0q0 : List Int) (x0q4 : Int) (x1q5 : Int) (p0q1 : List Int) (j1 : Nat) (x2q6 : Int) (x2q10 : List Int) : St := ⟨[.dead, (.imm (.int .i64 p1)), (.imm (.ints .i64 p2)), (.ptr 1000000000 0 0), .dead, .dead, (.ptr 1000000001 0 0), (.all 1000000002 1), (.imm (.int .i64 ((befN p0q0 p1.toNat : Nat) : Int))), (.imm (.int .i64 ((behN p0q0 p1.toNat : Nat) : Int))), (.all 1000000003 1), (.imm (.int .i64 x0q4)), (.imm (.int .i64 x1q5)), (.imm (.int .i64 x2q6)), .dead, .dead, .dead, .dead, .dead, .dead, .dead, .dead, .dead, .dead, .dead, .dead, .dead, .dead, .dead, .dead, .dead, .dead, .dead, .dead, .dead, .dead, .dead, .dead, .dead, .dead, .dead, .dead, .dead, .dead, .dead, .dead, .dead, .dead, .dead, .dead, .dead, .dead, .dead, .dead, .dead, .dead, .dead, .dead, .dead, .dead, .dead, .dead, .dead, .dead, .dead, .dead, .dead, .dead, .dead, .dead, .dead, .dead, .dead, .dead, .dead, .dead, .dead, .dead, .dead], hOf [(1000000000, (.box [(.imm (.ints .i64 p0q0)), (.imm (.ints .i64 p0q1))])), (1000000001, (.box [(.imm .nils), (.imm .nils)])), (1000000002, (.ints .i64 (p0q0.set j1 ((p2.length : Nat) : Int)))), (1000000003, (.ints .i64 x2q10))], [], []⟩
theorem e (fuel : Nat) (p0q0 : List Int) (p0q1 : List Int) (p1 : Int) (p2 : List Int) : runF Try.prog X I 0 fuel 42 Try.f42 [.d (.agg [(.ints .i64 p0q0), (.ints .i64 p0q1)]), .d (.int .i64 p1), .d (.ints .i64 p2)] =
  (bif szB p0q0 then
  (idx p1 p0q0.length).bind fun j1 =>
  (bif decide (j1 < p0q0.length) then
  (bif validS p0q0 && axOk p0q0 p1 then
  L0 fuel fuel (t0 p1 p2 p0q0 p0q1 j1 0 ([])) (k0  fuel)
  else
  none)
  else
  none)
  else
  none) := by kernel_rfl
theorem s0 (fuel n0 : Nat) (p1 : Int) (p2 : List Int) (p0q0 : List Int) (p0q1 : List Int) (j1 : Nat) (x0q4 : Int) (x0q8 : List Int) : L0 fuel (n0 + 1) (t0 p1 p2 p0q0 p0q1 j1 x0q4 x0q8) (k0  fuel) =
  (bif (decide ((x0q4 : Int) < ((befN p0q0 p1.toNat : Nat) : Int))) then
  L1 fuel fuel (t1 p1 p2 p0q0 x0q4 p0q1 j1 0 x0q8) (k1 n0 fuel)
  else
  (bif szB ((p0q0.set j1 ((p2.length : Nat) : Int))) && szB x0q8 then
  some ([.agg [((.ints .i64 ((p0q0.set j1 ((p2.length : Nat) : Int)))), true), ((.ints .i64 x0q8), true)]], [])
  else
  none)) := by kernel_rfl
theorem s1 (fuel n0 n1 : Nat) (p1 : Int) (p2 : List Int) (p0q0 : List Int) (x0q4 : Int) (p0q1 : List Int) (j1 : Nat) (x1q5 : Int) (x1q9 : List Int) : L1 fuel (n1 + 1) (t1 p1 p2 p0q0 x0q4 p0q1 j1 x1q5 x1q9) (k1 n0 fuel) =
  (bif (decide ((x1q5 : Int) < ((p2.length : Nat) : Int))) then
  L2 fuel fuel (t2 p1 p2 p0q0 x0q4 x1q5 p0q1 j1 0 x1q9) (k2 n0 n1 fuel)
  else
  L0 fuel n0 (t0 p1 p2 p0q0 p0q1 j1 ((IntKind.wrap .i64 (x0q4 + 1))) x1q9) (k0  fuel)) := by kernel_rfl
theorem s2 (fuel n0 n1 n2 : Nat) (p1 : Int) (p2 : List Int) (p0q0 : List Int) (x0q4 : Int) (x1q5 : Int) (p0q1 : List Int) (j1 : Nat) (x2q6 : Int) (x2q10 : List Int) : L2 fuel (n2 + 1) (t2 p1 p2 p0q0 x0q4 x1q5 p0q1 j1 x2q6 x2q10) (k2 n0 n1 fuel) =
  (bif (decide ((x2q6 : Int) < ((behN p0q0 p1.toNat : Nat) : Int))) then
  (idx x1q5 p2.length).bind fun j114 =>
  (p2[j114]?).bind fun v115 =>
  (bif (decide ((v115 : Int) ≥ 0)) then
  (idx p1 p0q0.length).bind fun j116 =>
  (p0q0[j116]?).bind fun v117 =>
  (idx x1q5 p2.length).bind fun j118 =>
  (p2[j118]?).bind fun v119 =>
  (idx (IntKind.wrap .i64 ((IntKind.wrap .i64 ((IntKind.wrap .i64 ((IntKind.wrap .i64 (x0q4 * v117)) + v119)) * ((behN p0q0 p1.toNat : Nat) : Int))) + x2q6)) p0q1.length).bind fun j120 =>
  (p0q1[j120]?).bind fun v121 =>
  (bif fits (x2q10.length + ([v121] : List Int).length) 8 then
  L2 fuel n2 (t2 p1 p2 p0q0 x0q4 x1q5 p0q1 j1 ((IntKind.wrap .i64 (x2q6 + 1))) ((x2q10 ++ [v121]))) (k2 n0 n1 fuel)
  else
  none)
  else
  (bif fits (x2q10.length + ([0] : List Int).length) 8 then
  L2 fuel n2 (t2 p1 p2 p0q0 x0q4 x1q5 p0q1 j1 ((IntKind.wrap .i64 (x2q6 + 1))) ((x2q10 ++ [0]))) (k2 n0 n1 fuel)
  else
  none))
  else
  L1 fuel n1 (t1 p1 p2 p0q0 x0q4 p0q1 j1 ((IntKind.wrap .i64 (x1q5 + 1))) x2q10) (k1 n0 fuel)) := by kernel_rfl
end spec_along
theorem spec_along.ok_of (hX : ∀ E ∈ spec_along.X, CallSpec Try.prog E) (h : ∀ (sh : List Int) (da : List Int) (k : Int) (ls : List Int), (axB sh da k && alP sh k ls) = true → ∃ fuel, runF Try.prog spec_along.X spec_along.I 0 fuel 42 Try.f42 [.d (.agg [(.ints .i64 sh), (.ints .i64 da)]), .d (.int .i64 k), .d (.ints .i64 ls)] = some ([.agg [((.ints .i64 (alS sh k ls)), true), ((.ints .i64 (alA sh da k ls)), true)]], [])) : CallSpec Try.prog spec_along.E :=
  callSpec_of (d := 0) hX (by kernel_rfl) spec_along.I_ok (by kernel_rfl) (by kernel_rfl) (by kernel_rfl) (fun _ _ _ _ h => by dsimp only [spec_along.E] at h; cases h) (fun xs hp => by
    dsimp only [spec_along.E] at hp ⊢
    split at hp
    · exact h _ _ _ _ hp
    · cases hp)
theorem spec_along.lp2 (fuel n0 n1 : Nat) (k b j : Nat) (sh da ls : List Int) (ax : Ax sh k) (hd : da.length = befN sh k * lenN sh k * behN sh k) (al : AlOk sh k ls) (hb : b < befN sh k) (hj : j < ls.length) (hf : 3600 < fuel) :
    spec_along.L2 fuel fuel (spec_along.t2 (k : Int) ls sh (b : Int) (j : Int) da k 0 ((alA sh da k ls).take ((b * ls.length + j) * behN sh k))) (spec_along.k2 n0 n1 fuel) =
    spec_along.L1 fuel n1 (spec_along.t1 (k : Int) ls sh (b : Int) da k ((j + 1 : Nat) : Int) ((alA sh da k ls).take ((b * ls.length + (j + 1)) * behN sh k))) (spec_along.k1 n0 fuel) := by
  have hM := ax.beh_le
  have hl := al.len
  have hlen : (alA sh da k ls).length = befN sh k * ls.length * behN sh k := alA_length _ _ _ _
  have hle := al.le
  refine run_loop (N := behN sh k) (fun n m out => spec_along.L2 fuel n (spec_along.t2 (k : Int) ls sh (b : Int) (j : Int) da k (m : Int) out) (spec_along.k2 n0 n1 fuel)) (fun m out => out = (alA sh da k ls).take ((b * ls.length + j) * behN sh k + m)) ?_ ?_ fuel 0 _ (by omega) (by omega) rfl
  · intro n out ho
    rw [spec_along.s2, Int.toNat_natCast, decide_eq_false (p := ((behN sh k : Nat) : Int) < _) (by omega), w1 (j := j) (by omega), ho]
    rw [cond_false, show (b * ls.length + j) * behN sh k + behN sh k = (b * ls.length + (j + 1)) * behN sh k by rw [← Nat.add_assoc, Nat.add_mul, Nat.add_mul, Nat.add_mul, Nat.one_mul]]
  · intro n m out hm ho
    obtain ⟨e1, _, _, _⟩ := enc3 hb hj hm
    have hp := al.lt _ (mem_getD hj)
    have hg : (alA sh da k ls).getD ((b * ls.length + j) * behN sh k + m) 0 = atV (lenN sh k) (behN sh k) da b (ls.getD j 0) m := alA_get hb hj hm
    have hol : out.length ≤ 60 := by rw [ho, take_len (by omega)]; omega
    rw [spec_along.s2, Int.toNat_natCast, decide_eq_true (p := ((m : Nat) : Int) < _) (by omega), idx_nat hj, w1 (j := m) (by omega)]
    simp only [cond_true, Option.bind_some, getD_get hj]
    by_cases h0 : ls.getD j 0 ≥ 0
    · obtain ⟨p, hpp⟩ : ∃ p : Nat, ls.getD j 0 = p := ⟨(ls.getD j 0).toNat, by omega⟩
      rw [hpp] at hg h0 hp ⊢
      have hpl : p < lenN sh k := by omega
      obtain ⟨e2, _, _, _⟩ := enc3 hb hpl hm
      have hlk := ax.lt
      have hdl := ax.le
      have hx : b * lenN sh k + p ≤ 1000000000 := by
        have h1 := ax.len_le
        have h2 := ax.bef_le
        have : b * lenN sh k ≤ 3600 * 60 := Nat.mul_le_mul (by omega) h1
        omega
      simp only [decide_eq_true h0, cond_true, idx_nat hlk, Option.bind_some, getD_get hlk]
      rw [ax.len, wIdx hx (by omega), idx_nat (by omega)]
      simp only [Option.bind_some, getD_get (show (b * lenN sh k + p) * behN sh k + m < da.length by omega)]
      rw [fitsOk (by simp only [List.length_cons, List.length_nil]; omega), cond_true]
      refine ⟨_, ?_, rfl⟩
      have hg2 : atV (lenN sh k) (behN sh k) da b ((p : Nat) : Int) m = da.getD ((b * lenN sh k + p) * behN sh k + m) 0 := by simp [atV]
      rw [ho, ← hg2, take_push (by omega) hg, Nat.add_assoc]
    · simp only [decide_eq_false h0, cond_false]
      rw [fitsOk (by simp only [List.length_cons, List.length_nil]; omega), cond_true]
      refine ⟨_, ?_, rfl⟩
      have hg2 : atV (lenN sh k) (behN sh k) da b (ls.getD j 0) m = 0 := by simp only [atV, decide_eq_false h0, cond_false]
      rw [ho, ← hg2, take_push (by omega) hg, Nat.add_assoc]
theorem spec_along.lp1 (fuel n0 : Nat) (k b : Nat) (sh da ls : List Int) (ax : Ax sh k) (hd : da.length = befN sh k * lenN sh k * behN sh k) (al : AlOk sh k ls) (hb : b < befN sh k) (hf : 3600 < fuel) :
    spec_along.L1 fuel fuel (spec_along.t1 (k : Int) ls sh (b : Int) da k 0 ((alA sh da k ls).take (b * ls.length * behN sh k))) (spec_along.k1 n0 fuel) =
    spec_along.L0 fuel n0 (spec_along.t0 (k : Int) ls sh da k ((b + 1 : Nat) : Int) ((alA sh da k ls).take ((b + 1) * ls.length * behN sh k))) (spec_along.k0 fuel) := by
  have hB := ax.bef_le
  have hl := al.len
  refine run_loop (N := ls.length) (fun n j out => spec_along.L1 fuel n (spec_along.t1 (k : Int) ls sh (b : Int) da k (j : Int) out) (spec_along.k1 n0 fuel)) (fun j out => out = (alA sh da k ls).take ((b * ls.length + j) * behN sh k)) ?_ ?_ fuel 0 _ (by omega) (by omega) rfl
  · intro n out ho
    rw [spec_along.s1, decide_eq_false (p := ((ls.length : Nat) : Int) < _) (by omega), w1 (j := b) (by omega), ho, cond_false, Nat.add_mul b 1, Nat.one_mul]
  · intro n j out hj ho
    rw [spec_along.s1, decide_eq_true (p := ((j : Nat) : Int) < _) (by omega), cond_true, ho, spec_along.lp2 fuel n0 n k b j sh da ls ax hd al hb hj hf]
    exact ⟨_, rfl, rfl⟩
theorem spec_along.lp0 (fuel : Nat) (k : Nat) (sh da ls : List Int) (ax : Ax sh k) (hd : da.length = befN sh k * lenN sh k * behN sh k) (al : AlOk sh k ls) (hf : 3600 < fuel) :
    spec_along.L0 fuel fuel (spec_along.t0 (k : Int) ls sh da k 0 []) (spec_along.k0 fuel) = some ([.agg [((.ints .i64 (sh.set k ((ls.length : Nat) : Int))), true), ((.ints .i64 (alA sh da k ls)), true)]], []) := by
  have hB := ax.bef_le
  have hl := al.len
  have hle := al.le
  have hr := ax.rank
  have hlen : (alA sh da k ls).length = befN sh k * ls.length * behN sh k := alA_length _ _ _ _
  refine run_loop (N := befN sh k) (fun n b out => spec_along.L0 fuel n (spec_along.t0 (k : Int) ls sh da k (b : Int) out) (spec_along.k0 fuel)) (fun b out => out = (alA sh da k ls).take (b * ls.length * behN sh k)) ?_ ?_ fuel 0 _ (by omega) (by omega) (by simp)
  · intro n out ho
    rw [← hlen, List.take_length] at ho
    rw [spec_along.s0, Int.toNat_natCast, decide_eq_false (p := ((befN sh k : Nat) : Int) < _) (by omega), ho, szB_of (xs := sh.set _ _) (by simp; omega), szB_of (xs := alA sh da k ls) (by omega)]
    rfl
  · intro n b out hb ho
    rw [spec_along.s0, Int.toNat_natCast, decide_eq_true (p := ((b : Nat) : Int) < _) (by omega), cond_true, ho, spec_along.lp1 fuel n k b sh da ls ax hd al hb hf]
    exact ⟨_, rfl, rfl⟩
theorem spec_along.ok : CallSpec Try.prog spec_along.E := spec_along.ok_of (by simp [spec_along.X, spec_copyInts.ok, spec_around.ok, spec_make1.ok]) fun sh da k ls h => by
  obtain ⟨F, hF⟩ : ∃ F : Nat, 3600 < F := ⟨3601, by omega⟩
  refine ⟨F, ?_⟩
  simp only [Bool.and_eq_true, axB] at h
  obtain ⟨e1, e2⟩ := axOk_nat h.1.2
  have hv := validA_inv h.1.1
  have ax := ax_of hv.1 e2
  have hd := ax_data h.1.1 e2
  have hr := ax.rank
  rw [spec_along.e, szB_of (xs := sh) (by omega), hv.1, h.1.2]
  generalize k.toNat = j at *
  subst e1
  have al := alP_inv e2 h.2
  rw [idx_nat e2]
  simp only [cond_true, Option.bind_some, e2, decide_true, Bool.and_self]
  rw [spec_along.lp0 F j sh da ls ax hd al hF]
  simp only [alS, Int.toNat_natCast]

namespace spec_RepeatAxis
noncomputable def E : Entry := ⟨15, false, false, fun | [.d (.agg [(.ints .i64 sh), (.ints .i64 da)]), .d (.int .i64 k), .d (.ints .i64 ts)] => decide (sh.length < 9223372036854775808) && decide (da.length < 9223372036854775808) && decide (ts.length < 9223372036854775808) | _ => false, fun | [.d (.agg [(.ints .i64 sh), (.ints .i64 da)]), .d (.int .i64 k), .d (.ints .i64 ts)] => ([.agg [((.ints .i64 (rpS sh da k ts)), true), ((.ints .i64 (rpD sh da k ts)), true)], .one ((.bool (rpB sh da k ts)), false)], []) | _ => ([], []), fun _ => [], true, fun _ => none⟩
end spec_RepeatAxis
namespace spec_RepeatAxis
noncomputable def X : List Entry := [spec_isAxis.E, spec_allIn.E, spec_copyInts.E, spec_validShape.E, spec_along.E]
noncomputable def I : List Inl := [⟨15, Try.f15, ⟨[53, 66], [(1000005, [0, 4, 5, 7, 10, 11, 12, 13, 14, 15, 16, 17, 18, 19, 20, 21, 22, 23, 24, 25, 26, 27, 28, 29, 30, 31, 32, 33, 34, 35, 36, 37, 38, 39, 40, 41, 42, 43, 44, 45, 46, 47, 48, 49, 50, 51, 52, 53, 54, 55, 56, 57, 58, 59, 60, 61, 62, 63, 64, 65, 66]), (1000008, [0, 4, 5, 7, 11, 12, 13, 14, 15, 16, 17, 18, 19, 20, 21, 22, 23, 24, 25, 26, 27, 28, 29, 30, 31, 32, 33, 34, 35, 36, 37, 38, 39, 40, 41, 42, 43, 44, 45, 46, 47, 48, 49, 50, 51, 52, 53, 54, 55, 56, 57, 58, 59, 60, 61, 62, 63, 64, 65, 66])], [], [], [], []⟩⟩]
theorem I_ok : ∀ i ∈ I, Try.prog.funcs[i.f]? = some i.fn ∧ (i.fn.name == "runtime.NumGoroutine") = false := by
  intro i hi
  simp only [I, List.mem_cons, List.not_mem_nil, or_false] at hi
  subst hi
  exact ⟨by kernel_rfl, by kernel_rfl⟩
noncomputable abbrev L0 (fuel n : Nat) (s : St) (k : Kont) := lAt Try.prog X I fuel true 0 false 15 (bodyOf Try.f15) [1, 1, 1, 0, 1, 0] n s k
noncomputable abbrev k0  (fuel : Nat) : Kont := (kAt Try.prog X I fuel true 0 false 15 (bodyOf Try.f15) [1, 1, 1, 0, 1, 0] [] (endK Try.prog Try.f15))
noncomputable def t0 (p1 : Int) (p2 : List Int) (p0q0 : List Int) (p0q1 : List Int) (x0q2 : Int) (x0q5 : List Int) : St := ⟨[.dead, (.imm (.int .i64 p1)), (.imm (.ints .i64 p2)), (.ptr 1000000000 0 0), .dead, .dead, (.ptr 1000000001 0 0), .dead, (.all 1000000002 1), (.imm (.int .i64 x0q2)), .dead, .dead, .dead, .dead, .dead, .dead, .dead, .dead, .dead, .dead, .dead, .dead, .dead, .dead, .dead, .dead, .dead, .dead, .dead, .dead, .dead, .dead, .dead, .dead, .dead, .dead, .dead, .dead, .dead, .dead, .dead, .dead, .dead, .dead, .dead, .dead, .dead, .dead, .dead, .dead, .dead, .dead, .dead, .dead, .dead, .dead, .dead, .dead, .dead, .dead, .dead, .dead, .dead, .dead, .dead, .dead, .dead], hOf [(1000000000, (.box [(.imm (.ints .i64 p0q0)), (.imm (.ints .i64 p0q1))])), (1000000001, (.box [(.imm .nils), (.imm .nils)])), (1000000002, (.ints .i64 x0q5))], [], []⟩
noncomputable abbrev L1 (fuel n : Nat) (s : St) (k : Kont) := lAt Try.prog X I fuel true 0 false 15 (bodyOf Try.f15) [1, 1, 1, 0, 1, 0, 0, 1, 0, 0, 1, 0] n s k
noncomputable abbrev k1 (n0 : Nat) (fuel : Nat) : Kont := (kAt Try.prog X I fuel true 0 false 15 (bodyOf Try.f15) [1, 1, 1, 0, 1, 0, 0, 1, 0, 0, 1, 0] [n0] (endK Try.prog Try.f15))
noncomputable def t1 (p1 : Int) (p2 : List Int) (x0q2 : Int) (p0q0 : List Int) (p0q1 : List Int) (x1q3 : Int) (x1q6 : List Int) : St := ⟨[.dead, (.imm (.int .i64 p1)), (.imm (.ints .i64 p2)), (.ptr 1000000000 0 0), .dead, .dead, (.ptr 1000000001 0 0), .dead, (.all 1000000002 1), (.imm (.int .i64 x0q2)), (.imm (.int .i64 x1q3)), .dead, .dead, .dead, .dead, .dead, .dead, .dead, .dead, .dead, .dead, .dead, .dead, .dead, .dead, .dead, .dead, .dead, .dead, .dead, .dead, .dead, .dead, .dead, .dead, .dead, .dead, .dead, .dead, .dead, .dead, .dead, .dead, .dead, .dead, .dead, .dead, .dead, .dead, .dead, .dead, .dead, .dead, .dead, .dead, .dead, .dead, .dead, .dead, .dead, .dead, .dead, .dead, .dead, .dead, .dead, .dead], hOf [(1000000000, (.box [(.imm (.ints .i64 p0q0)), (.imm (.ints .i64 p0q1))])), (1000000001, (.box [(.imm .nils), (.imm .nils)])), (1000000002, (.ints .i64 x1q6))], [], []⟩
theorem e (fuel : Nat) (p0q0 : List Int) (p0q1 : List Int) (p1 : Int) (p2 : List Int) : runF Try.prog X I 0 fuel 15 Try.f15 [.d (.agg [(.ints .i64 p0q0), (.ints .i64 p0q1)]), .d (.int .i64 p1), .d (.ints .i64 p2)] =
  (bif decide (p0q0.length < 9223372036854775808) && decide (p0q1.length < 9223372036854775808) then
  (bif (!(axB p0q0 p0q1 p1)) then
  some ([.agg [((.ints .i64 []), true), ((.ints .i64 []), true)], .one ((.bool false), false)], [])
  else
  (idx p1 p0q0.length).bind fun j1 =>
  (p0q0[j1]?).bind fun v2 =>
  (bif ((((p2.length : Nat) : Int) : Int) != v2) then
  some ([.agg [((.ints .i64 []), true), ((.ints .i64 []), true)], .one ((.bool false), false)], [])
  else
  (bif decide (p2.length < 9223372036854775808) then
  (bif (!(allB p2 0 60)) then
  some ([.agg [((.ints .i64 []), true), ((.ints .i64 []), true)], .one ((.bool false), false)], [])
  else
  L0 fuel fuel (t0 p1 p2 p0q0 p0q1 0 ([])) (k0  fuel))
  else
  none)))
  else
  none) := by kernel_rfl
theorem s0 (fuel n0 : Nat) (p1 : Int) (p2 : List Int) (p0q0 : List Int) (p0q1 : List Int) (x0q2 : Int) (x0q5 : List Int) : L0 fuel (n0 + 1) (t0 p1 p2 p0q0 p0q1 x0q2 x0q5) (k0  fuel) =
  (bif (decide ((x0q2 : Int) < ((p2.length : Nat) : Int))) then
  L1 fuel fuel (t1 p1 p2 x0q2 p0q0 p0q1 0 x0q5) (k1 n0 fuel)
  else
  (bif szB p0q0 then
  (idx p1 p0q0.length).bind fun j19 =>
  (bif decide (j19 < p0q0.length) then
  (bif decide (((p0q0.set j19 ((x0q5.length : Nat) : Int))).length < 9223372036854775808) then
  (bif (!(validS ((p0q0.set j19 ((x0q5.length : Nat) : Int))))) then
  some ([.agg [((.ints .i64 []), true), ((.ints .i64 []), true)], .one ((.bool false), false)], [])
  else
  (bif axB p0q0 p0q1 p1 && alP p0q0 p1 x0q5 then
  some ([.agg [((.ints .i64 (alS p0q0 p1 x0q5)), true), ((.ints .i64 (alA p0q0 p0q1 p1 x0q5)), true)], .one ((.bool true), false)], [])
  else
  none))
  else
  none)
  else
  none)
  else
  none)) := by kernel_rfl
theorem s1 (fuel n0 n1 : Nat) (p1 : Int) (p2 : List Int) (x0q2 : Int) (p0q0 : List Int) (p0q1 : List Int) (x1q3 : Int) (x1q6 : List Int) : L1 fuel (n1 + 1) (t1 p1 p2 x0q2 p0q0 p0q1 x1q3 x1q6) (k1 n0 fuel) =
  (idx x0q2 p2.length).bind fun j17 =>
  (p2[j17]?).bind fun v18 =>
  (bif (decide ((x1q3 : Int) < v18)) then
  (bif fits (x1q6.length + ([x0q2] : List Int).length) 8 then
  L1 fuel n1 (t1 p1 p2 x0q2 p0q0 p0q1 ((IntKind.wrap .i64 (x1q3 + 1))) ((x1q6 ++ [x0q2]))) (k1 n0 fuel)
  else
  none)
  else
  L0 fuel n0 (t0 p1 p2 p0q0 p0q1 ((IntKind.wrap .i64 (x0q2 + 1))) x1q6) (k0  fuel)) := by kernel_rfl
end spec_RepeatAxis
theorem spec_RepeatAxis.ok_of (hX : ∀ E ∈ spec_RepeatAxis.X, CallSpec Try.prog E) (h : ∀ (sh : List Int) (da : List Int) (k : Int) (ts : List Int), (decide (sh.length < 9223372036854775808) && decide (da.length < 9223372036854775808) && decide (ts.length < 9223372036854775808)) = true → ∃ fuel, runF Try.prog spec_RepeatAxis.X spec_RepeatAxis.I 0 fuel 15 Try.f15 [.d (.agg [(.ints .i64 sh), (.ints .i64 da)]), .d (.int .i64 k), .d (.ints .i64 ts)] = some ([.agg [((.ints .i64 (rpS sh da k ts)), true), ((.ints .i64 (rpD sh da k ts)), true)], .one ((.bool (rpB sh da k ts)), false)], [])) : CallSpec Try.prog spec_RepeatAxis.E :=
  callSpec_of (d := 0) hX (by kernel_rfl) spec_RepeatAxis.I_ok (by kernel_rfl) (by kernel_rfl) (by kernel_rfl) (fun _ _ _ _ h => by dsimp only [spec_RepeatAxis.E] at h; cases h) (fun xs hp => by
    dsimp only [spec_RepeatAxis.E] at hp ⊢
    split at hp
    · exact h _ _ _ _ hp
    · cases hp)
theorem spec_RepeatAxis.fin (fuel n0 : Nat) (sh da : List Int) (j : Nat) (ts : List Int) (hj : j < sh.length) (hv : validA sh da = true) (hl : ts.length = lenN sh j) (ht : allB ts 0 60 = true) :
    spec_RepeatAxis.L0 fuel (n0 + 1) (spec_RepeatAxis.t0 (j : Int) ts sh da ((ts.length : Nat) : Int) (rpC ts ts.length)) (spec_RepeatAxis.k0 fuel) = some ([.agg [((.ints .i64 (rpS sh da j ts)), true), ((.ints .i64 (rpD sh da j ts)), true)], .one ((.bool (rpB sh da j ts)), false)], []) := by
  obtain ⟨r1, r2⟩ := rpC_bd ht ts.length (Nat.le_refl _)
  have ax := ax_of (validA_inv hv).1 hj
  have hr := ax.rank
  have hL := ax.len_le
  have hx := axB_of hv hj
  have hB : rpB sh da j ts = validS (alS sh j (rpL ts)) := by
    simp only [rpB, hx, Int.toNat_natCast, decide_eq_true hl, ht, Bool.true_and]
  have hS : alS sh j (rpL ts) = sh.set j (((rpC ts ts.length).length : Nat) : Int) := rfl
  rw [spec_RepeatAxis.s0, dge (by omega), cond_false, szB_of (xs := sh) (by omega), idx_nat hj]
  simp only [cond_true, Option.bind_some]
  rw [decide_eq_true hj, cond_true, lt_of (by rw [List.length_set]; omega), cond_true]
  unfold rpS rpD
  rw [hB, hS]
  cases hvs : validS (sh.set j (((rpC ts ts.length).length : Nat) : Int)) with
  | false => rfl
  | true =>
    have hp : alP sh (j : Int) (rpC ts ts.length) = true := alP_of hvs fun p hp => by have := r2 p hp; omega
    rw [hx, hp]
    rfl
theorem spec_RepeatAxis.inner (fuel n0 : Nat) (sh da : List Int) (j i : Nat) (ts : List Int) (hi : i < ts.length) (hl : ts.length ≤ 60) (ht : allB ts 0 60 = true) (hf : 3700 < fuel) :
    spec_RepeatAxis.L1 fuel fuel (spec_RepeatAxis.t1 (j : Int) ts (i : Int) sh da 0 (rpC ts i)) (spec_RepeatAxis.k1 n0 fuel) = spec_RepeatAxis.L0 fuel n0 (spec_RepeatAxis.t0 (j : Int) ts sh da ((i + 1 : Nat) : Int) (rpC ts (i + 1))) (spec_RepeatAxis.k0 fuel) := by
  have ht1 := allB_inv ht hi
  obtain ⟨r1, r2⟩ := rpC_bd ht i (by omega)
  obtain ⟨m, hm⟩ : ∃ m : Nat, ts.getD i 0 = m := ⟨(ts.getD i 0).toNat, by omega⟩
  refine run_loop (N := m) (fun n q out => spec_RepeatAxis.L1 fuel n (spec_RepeatAxis.t1 (j : Int) ts (i : Int) sh da (q : Int) out) (spec_RepeatAxis.k1 n0 fuel)) (fun q out => out = rpC ts i ++ List.replicate q (i : Int)) ?_ ?_ fuel 0 (rpC ts i) (by omega) (by omega) (by simp)
  · rintro n out rfl
    rw [spec_RepeatAxis.s1, idx_nat hi]
    simp only [Option.bind_some, getD_get hi, hm]
    rw [dge (by omega), cond_false, w1 (by omega)]
    simp only [rpC, hm, Int.toNat_natCast]
  · rintro n q out hq rfl
    rw [spec_RepeatAxis.s1, idx_nat hi]
    simp only [Option.bind_some, getD_get hi, hm]
    rw [dlt hq, cond_true, fitsOk (by simp only [List.length_append, List.length_replicate, List.length_cons, List.length_nil]; omega), cond_true, w1 (by omega)]
    exact ⟨_, by rw [List.append_assoc, ← List.replicate_succ'], rfl⟩
theorem spec_RepeatAxis.ok : CallSpec Try.prog spec_RepeatAxis.E := spec_RepeatAxis.ok_of (by simp [spec_RepeatAxis.X, spec_isAxis.ok, spec_allIn.ok, spec_copyInts.ok, spec_validShape.ok, spec_along.ok]) fun sh da k ts h => by
  obtain ⟨F, hF⟩ : ∃ F : Nat, 3700 < F := ⟨3701, by omega⟩
  refine ⟨F, ?_⟩
  simp only [Bool.and_eq_true] at h
  rw [spec_RepeatAxis.e, h.1.1, h.1.2, h.2]
  cases hb : axB sh da k with
  | false =>
    have : rpB sh da k ts = false := by simp only [rpB, hb, Bool.false_and]
    simp only [rpS, rpD, this]
    rfl
  | true =>
    obtain ⟨j, rfl, hj, hv, ax, hd, hl⟩ := axB_inv hb
    have hL := ax.len_le
    rw [idx_nat hj]
    simp only [cond_true, Bool.and_self, Bool.not_true, cond_false, Option.bind_some, getD_get hj, ax.len]
    by_cases c1 : ts.length = lenN sh j
    · rw [show (((ts.length : Nat) : Int) != ((lenN sh j : Nat) : Int)) = false by simp [c1], cond_false]
      cases ht : allB ts 0 60 with
      | false =>
        have : rpB sh da (j : Int) ts = false := by simp only [rpB, ht, Bool.false_and, Bool.and_false]
        simp only [rpS, rpD, this]
        rfl
      | true =>
        simp only [Bool.not_true, cond_false]
        refine run_loop (N := ts.length) (fun n i out => spec_RepeatAxis.L0 F n (spec_RepeatAxis.t0 (j : Int) ts sh da (i : Int) out) (spec_RepeatAxis.k0 F)) (fun i out => out = rpC ts i) ?_ ?_ F 0 [] (by omega) (by omega) rfl
        · rintro n out rfl
          exact spec_RepeatAxis.fin F n sh da j ts hj hv c1 ht
        · rintro n i out hi rfl
          refine ⟨_, rfl, ?_⟩
          rw [spec_RepeatAxis.s0, dlt hi, cond_true]
          exact spec_RepeatAxis.inner F n sh da j i ts hi (by omega) ht hF
    · have : rpB sh da (j : Int) ts = false := by simp only [rpB, Int.toNat_natCast, decide_eq_false c1, Bool.and_false, Bool.false_and]
      rw [show (((ts.length : Nat) : Int) != ((lenN sh j : Nat) : Int)) = true by simp; omega]
      simp only [rpS, rpD, this]
      rfl

namespace impl_RankOf
noncomputable def E : Entry := ⟨16, true, false, fun | [.d (.agg [(.ints .i64 sh), (.ints .i64 da)])] => decide (sh.length < 9223372036854775808) && decide (da.length < 9223372036854775808) | _ => false, fun | [.d (.agg [(.ints .i64 sh), (.ints .i64 da)])] => ([.one ((.int .i64 (rankV sh da)), false)], []) | _ => ([], []), fun _ => [], false, fun _ => none⟩
end impl_RankOf
namespace impl_RankOf
noncomputable def X : List Entry := [impl_ValidArray.E]
noncomputable def I : List Inl := [⟨16, Try.f16, ⟨[], [], [], [], [], []⟩⟩]
theorem I_ok : ∀ i ∈ I, Try.prog.funcs[i.f]? = some i.fn ∧ (i.fn.name == "runtime.NumGoroutine") = false := by
  intro i hi
  simp only [I, List.mem_cons, List.not_mem_nil, or_false] at hi
  subst hi
  exact ⟨by kernel_rfl, by kernel_rfl⟩
theorem e (fuel : Nat) (p0q0 : List Int) (p0q1 : List Int) : runF Try.prog X I 0 fuel 16 Try.f16 [.d (.agg [(.ints .i64 p0q0), (.ints .i64 p0q1)])] =
  (bif decide (p0q0.length < 9223372036854775808) && decide (p0q1.length < 9223372036854775808) then
  (bif (!(validA p0q0 p0q1)) then
  some ([.one ((.int .i64 (-1)), false)], [])
  else
  some ([.one ((.int .i64 ((p0q0.length : Nat) : Int)), false)], []))
  else
  none) := by kernel_rfl
end impl_RankOf
theorem impl_RankOf.ok_of (hX : ∀ E ∈ impl_RankOf.X, CallSpec Try.prog E) (h : ∀ (sh : List Int) (da : List Int), (decide (sh.length < 9223372036854775808) && decide (da.length < 9223372036854775808)) = true → ∃ fuel, runF Try.prog impl_RankOf.X impl_RankOf.I 0 fuel 16 Try.f16 [.d (.agg [(.ints .i64 sh), (.ints .i64 da)])] = some ([.one ((.int .i64 (rankV sh da)), false)], [])) : CallSpec Try.prog impl_RankOf.E :=
  callSpec_of (d := 0) hX (by kernel_rfl) impl_RankOf.I_ok (by kernel_rfl) (by kernel_rfl) (by kernel_rfl) (fun _ _ _ _ h => by dsimp only [impl_RankOf.E] at h; cases h) (fun xs hp => by
    dsimp only [impl_RankOf.E] at hp ⊢
    split at hp
    · exact h _ _ hp
    · cases hp)
theorem impl_RankOf.ok : CallSpec Try.prog impl_RankOf.E := impl_RankOf.ok_of (by simp [impl_RankOf.X, impl_ValidArray.ok]) fun sh da h => ⟨0, by
  rw [impl_RankOf.e, h]
  unfold rankV
  cases validA sh da <;> rfl⟩

namespace laws_FnRepeatAxisUnique
noncomputable def E : Entry := ⟨5, true, false, fun | [.d (.ints .u8 bs)] => bytesB bs | _ => false, fun | [.d (.ints .u8 bs)] => ([.one ((.bool true), false)], []) | _ => ([], []), fun _ => [], false, fun _ => none⟩
end laws_FnRepeatAxisUnique
namespace laws_FnRepeatAxisUnique
noncomputable def X : List Entry := [spec_DrawRepeatAxis.E, impl_RepeatAxis.E, spec_RepeatAxis.E, laws_equalArray.E, impl_RankOf.E, impl_UniqueItems.E]
noncomputable def I : List Inl := [⟨5, Try.f5, ⟨[19, 27, 34, 82, 89, 91], [(1000010, [0, 1, 2, 6, 7, 8, 9, 12, 13, 14, 15, 16, 17, 18, 19, 20, 21, 22, 23, 24, 25, 26, 27, 28, 29, 30, 31, 32, 33, 34, 35, 36, 37, 38, 39, 40, 41, 42, 43, 44, 45, 46, 47, 48, 49, 50, 51, 52, 53, 54, 55, 56, 57, 58, 59, 60, 61, 62, 63, 64, 65, 66, 67, 68, 69, 70, 71, 72, 73, 74, 75, 76, 77, 78, 79, 80, 81, 82, 83, 84, 85, 86, 87, 88, 89, 90, 91, 92, 93])], [], [(14, [0, 1, 2, 3, 5, 4, 6, 7, 8, 9])], [], []⟩⟩]
theorem I_ok : ∀ i ∈ I, Try.prog.funcs[i.f]? = some i.fn ∧ (i.fn.name == "runtime.NumGoroutine") = false := by
  intro i hi
  simp only [I, List.mem_cons, List.not_mem_nil, or_false] at hi
  subst hi
  exact ⟨by kernel_rfl, by kernel_rfl⟩
noncomputable abbrev L0 (fuel n : Nat) (s : St) (k : Kont) := lAt Try.prog X I fuel true 0 false 5 (bodyOf Try.f5) [1, 1, 1, 1, 1, 1, 1, 0, 1, 0] n s k
noncomputable abbrev k0  (fuel : Nat) : Kont := (kAt Try.prog X I fuel true 0 false 5 (bodyOf Try.f5) [1, 1, 1, 1, 1, 1, 1, 0, 1, 0] [] (endK Try.prog Try.f5))
noncomputable def t0 (p0 : List Int) (x0q2 : Int) (x0q5 : List Int) : St := ⟨[.dead, .dead, .dead, (.ptr 1000000000 0 0), (.imm (.int .i64 (dAx (cutC p0)))), (.imm (.ints .i64 (drT (cutC p0)))), .dead, .dead, .dead, .dead, (.all 1000000001 1), (.imm (.int .i64 x0q2)), .dead, .dead, .dead, .dead, .dead, .dead, .dead, .dead, .dead, .dead, .dead, .dead, .dead, .dead, .dead, .dead, .dead, .dead, .dead, .dead, .dead, .dead, .dead, .dead, .dead, .dead, .dead, .dead, .dead, .dead, .dead, .dead, .dead, .dead, .dead, .dead, .dead, .dead, .dead, .dead, .dead, .dead, .dead, .dead, .dead, .dead, .dead, .dead, .dead, .dead, .dead, .dead, .dead, .dead, .dead, .dead, .dead, .dead, .dead, .dead, .dead, .dead, .dead, .dead, .dead, .dead, .dead, .dead, .dead, .dead, .dead, .dead, .dead, .dead, .dead, .dead, .dead, .dead, .dead, .dead, .dead, .dead], hOf [(1000000000, (.box [(.imm (.ints .i64 (aArS (cutC p0) 0))), (.imm (.ints .i64 (aArD (cutC p0) 0)))])), (1000000001, (.ints .i64 x0q5))], [], []⟩
theorem e (fuel : Nat) (p0 : List Int) : runF Try.prog X I 0 fuel 5 Try.f5 [.d (.ints .u8 p0)] =
  (bif (decide ((((p0.length : Nat) : Int) : Int) > 1048576)) then
  some ([.one ((.bool true), false)], [])
  else
  (bif bytesB p0 then
  (bif decide (((aArS (cutC p0) 0)).length < 9223372036854775808) && decide (((aArD (cutC p0) 0)).length < 9223372036854775808) && decide (((drT (cutC p0))).length < 9223372036854775808) then
  (bif decide (((aArS (cutC p0) 0)).length < 9223372036854775808) && decide (((aArD (cutC p0) 0)).length < 9223372036854775808) && decide (((drT (cutC p0))).length < 9223372036854775808) then
  (bif decide (((rpS ((aArS (cutC p0) 0)) ((aArD (cutC p0) 0)) ((dAx (cutC p0))) ((drT (cutC p0))))).length < 9223372036854775808) && decide (((rpD ((aArS (cutC p0) 0)) ((aArD (cutC p0) 0)) ((dAx (cutC p0))) ((drT (cutC p0))))).length < 9223372036854775808) && decide (((rpS ((aArS (cutC p0) 0)) ((aArD (cutC p0) 0)) ((dAx (cutC p0))) ((drT (cutC p0))))).length < 9223372036854775808) && decide (((rpD ((aArS (cutC p0) 0)) ((aArD (cutC p0) 0)) ((dAx (cutC p0))) ((drT (cutC p0))))).length < 9223372036854775808) then
  (bif (!(decide (((rpS ((aArS (cutC p0) 0)) ((aArD (cutC p0) 0)) ((dAx (cutC p0))) ((drT (cutC p0))))) = ((rpS ((aArS (cutC p0) 0)) ((aArD (cutC p0) 0)) ((dAx (cutC p0))) ((drT (cutC p0)))))) && decide (((rpD ((aArS (cutC p0) 0)) ((aArD (cutC p0) 0)) ((dAx (cutC p0))) ((drT (cutC p0))))) = ((rpD ((aArS (cutC p0) 0)) ((aArD (cutC p0) 0)) ((dAx (cutC p0))) ((drT (cutC p0)))))))) then
  (bif decide (((rpS ((aArS (cutC p0) 0)) ((aArD (cutC p0) 0)) ((dAx (cutC p0))) ((drT (cutC p0))))).length < 9223372036854775808) && decide (((rpD ((aArS (cutC p0) 0)) ((aArD (cutC p0) 0)) ((dAx (cutC p0))) ((drT (cutC p0))))).length < 9223372036854775808) && decide (((rpS ((aArS (cutC p0) 0)) ((aArD (cutC p0) 0)) ((dAx (cutC p0))) ((drT (cutC p0))))).length < 9223372036854775808) && decide (((rpD ((aArS (cutC p0) 0)) ((aArD (cutC p0) 0)) ((dAx (cutC p0))) ((drT (cutC p0))))).length < 9223372036854775808) then
  (bif (decide (((rpS ((aArS (cutC p0) 0)) ((aArD (cutC p0) 0)) ((dAx (cutC p0))) ((drT (cutC p0))))) = ((rpS ((aArS (cutC p0) 0)) ((aArD (cutC p0) 0)) ((dAx (cutC p0))) ((drT (cutC p0)))))) && decide (((rpD ((aArS (cutC p0) 0)) ((aArD (cutC p0) 0)) ((dAx (cutC p0))) ((drT (cutC p0))))) = ((rpD ((aArS (cutC p0) 0)) ((aArD (cutC p0) 0)) ((dAx (cutC p0))) ((drT (cutC p0))))))) then
  some ([.one ((.bool ((rpB ((aArS (cutC p0) 0)) ((aArD (cutC p0) 0)) ((dAx (cutC p0))) ((drT (cutC p0)))) == (rpB ((aArS (cutC p0) 0)) ((aArD (cutC p0) 0)) ((dAx (cutC p0))) ((drT (cutC p0)))))), false)], [])
  else
  some ([.one ((.bool false), false)], []))
  else
  none)
  else
  (bif (!((rpB ((aArS (cutC p0) 0)) ((aArD (cutC p0) 0)) ((dAx (cutC p0))) ((drT (cutC p0)))) == (rpB ((aArS (cutC p0) 0)) ((aArD (cutC p0) 0)) ((dAx (cutC p0))) ((drT (cutC p0)))))) then
  (bif decide (((rpS ((aArS (cutC p0) 0)) ((aArD (cutC p0) 0)) ((dAx (cutC p0))) ((drT (cutC p0))))).length < 9223372036854775808) && decide (((rpD ((aArS (cutC p0) 0)) ((aArD (cutC p0) 0)) ((dAx (cutC p0))) ((drT (cutC p0))))).length < 9223372036854775808) && decide (((rpS ((aArS (cutC p0) 0)) ((aArD (cutC p0) 0)) ((dAx (cutC p0))) ((drT (cutC p0))))).length < 9223372036854775808) && decide (((rpD ((aArS (cutC p0) 0)) ((aArD (cutC p0) 0)) ((dAx (cutC p0))) ((drT (cutC p0))))).length < 9223372036854775808) then
  (bif (decide (((rpS ((aArS (cutC p0) 0)) ((aArD (cutC p0) 0)) ((dAx (cutC p0))) ((drT (cutC p0))))) = ((rpS ((aArS (cutC p0) 0)) ((aArD (cutC p0) 0)) ((dAx (cutC p0))) ((drT (cutC p0)))))) && decide (((rpD ((aArS (cutC p0) 0)) ((aArD (cutC p0) 0)) ((dAx (cutC p0))) ((drT (cutC p0))))) = ((rpD ((aArS (cutC p0) 0)) ((aArD (cutC p0) 0)) ((dAx (cutC p0))) ((drT (cutC p0))))))) then
  some ([.one ((.bool ((rpB ((aArS (cutC p0) 0)) ((aArD (cutC p0) 0)) ((dAx (cutC p0))) ((drT (cutC p0)))) == (rpB ((aArS (cutC p0) 0)) ((aArD (cutC p0) 0)) ((dAx (cutC p0))) ((drT (cutC p0)))))), false)], [])
  else
  some ([.one ((.bool false), false)], []))
  else
  none)
  else
  (bif (!(rpB ((aArS (cutC p0) 0)) ((aArD (cutC p0) 0)) ((dAx (cutC p0))) ((drT (cutC p0))))) then
  (bif decide (((rpS ((aArS (cutC p0) 0)) ((aArD (cutC p0) 0)) ((dAx (cutC p0))) ((drT (cutC p0))))).length < 9223372036854775808) && decide (((rpD ((aArS (cutC p0) 0)) ((aArD (cutC p0) 0)) ((dAx (cutC p0))) ((drT (cutC p0))))).length < 9223372036854775808) && decide (((rpS ((aArS (cutC p0) 0)) ((aArD (cutC p0) 0)) ((dAx (cutC p0))) ((drT (cutC p0))))).length < 9223372036854775808) && decide (((rpD ((aArS (cutC p0) 0)) ((aArD (cutC p0) 0)) ((dAx (cutC p0))) ((drT (cutC p0))))).length < 9223372036854775808) then
  (bif (decide (((rpS ((aArS (cutC p0) 0)) ((aArD (cutC p0) 0)) ((dAx (cutC p0))) ((drT (cutC p0))))) = ((rpS ((aArS (cutC p0) 0)) ((aArD (cutC p0) 0)) ((dAx (cutC p0))) ((drT (cutC p0)))))) && decide (((rpD ((aArS (cutC p0) 0)) ((aArD (cutC p0) 0)) ((dAx (cutC p0))) ((drT (cutC p0))))) = ((rpD ((aArS (cutC p0) 0)) ((aArD (cutC p0) 0)) ((dAx (cutC p0))) ((drT (cutC p0))))))) then
  some ([.one ((.bool ((rpB ((aArS (cutC p0) 0)) ((aArD (cutC p0) 0)) ((dAx (cutC p0))) ((drT (cutC p0)))) == (rpB ((aArS (cutC p0) 0)) ((aArD (cutC p0) 0)) ((dAx (cutC p0))) ((drT (cutC p0)))))), false)], [])
  else
  some ([.one ((.bool false), false)], []))
  else
  none)
  else
  (bif decide (((aArS (cutC p0) 0)).length < 9223372036854775808) && decide (((aArD (cutC p0) 0)).length < 9223372036854775808) then
  (bif (((rankV ((aArS (cutC p0) 0)) ((aArD (cutC p0) 0))) : Int) != 1) then
  (bif decide (((rpS ((aArS (cutC p0) 0)) ((aArD (cutC p0) 0)) ((dAx (cutC p0))) ((drT (cutC p0))))).length < 9223372036854775808) && decide (((rpD ((aArS (cutC p0) 0)) ((aArD (cutC p0) 0)) ((dAx (cutC p0))) ((drT (cutC p0))))).length < 9223372036854775808) && decide (((rpS ((aArS (cutC p0) 0)) ((aArD (cutC p0) 0)) ((dAx (cutC p0))) ((drT (cutC p0))))).length < 9223372036854775808) && decide (((rpD ((aArS (cutC p0) 0)) ((aArD (cutC p0) 0)) ((dAx (cutC p0))) ((drT (cutC p0))))).length < 9223372036854775808) then
  (bif (decide (((rpS ((aArS (cutC p0) 0)) ((aArD (cutC p0) 0)) ((dAx (cutC p0))) ((drT (cutC p0))))) = ((rpS ((aArS (cutC p0) 0)) ((aArD (cutC p0) 0)) ((dAx (cutC p0))) ((drT (cutC p0)))))) && decide (((rpD ((aArS (cutC p0) 0)) ((aArD (cutC p0) 0)) ((dAx (cutC p0))) ((drT (cutC p0))))) = ((rpD ((aArS (cutC p0) 0)) ((aArD (cutC p0) 0)) ((dAx (cutC p0))) ((drT (cutC p0))))))) then
  some ([.one ((.bool ((rpB ((aArS (cutC p0) 0)) ((aArD (cutC p0) 0)) ((dAx (cutC p0))) ((drT (cutC p0)))) == (rpB ((aArS (cutC p0) 0)) ((aArD (cutC p0) 0)) ((dAx (cutC p0))) ((drT (cutC p0)))))), false)], [])
  else
  some ([.one ((.bool false), false)], []))
  else
  none)
  else
  L0 fuel fuel (t0 p0 0 ([])) (k0  fuel))
  else
  none))))
  else
  none)
  else
  none)
  else
  none)
  else
  none)) := by kernel_rfl
theorem s0 (fuel n0 : Nat) (p0 : List Int) (x0q2 : Int) (x0q5 : List Int) : L0 fuel (n0 + 1) (t0 p0 x0q2 x0q5) (k0  fuel) =
  (bif (decide ((x0q2 : Int) < (((drT (cutC p0)).length : Nat) : Int))) then
  (idx x0q2 (drT (cutC p0)).length).bind fun j5 =>
  ((drT (cutC p0))[j5]?).bind fun v6 =>
  (bif fits (x0q5.length + ([(maxI 1 v6)] : List Int).length) 8 then
  L0 fuel n0 (t0 p0 ((IntKind.wrap .i64 (x0q2 + 1))) ((x0q5 ++ [(maxI 1 v6)]))) (k0  fuel)
  else
  none)
  else
  (bif decide (((aArS (cutC p0) 0)).length < 9223372036854775808) && decide (((aArD (cutC p0) 0)).length < 9223372036854775808) && decide (x0q5.length < 9223372036854775808) then
  (bif (!(rpB ((aArS (cutC p0) 0)) ((aArD (cutC p0) 0)) ((dAx (cutC p0))) x0q5)) then
  some ([.one ((.bool true), false)], [])
  else
  (bif decide (((rpS ((aArS (cutC p0) 0)) ((aArD (cutC p0) 0)) ((dAx (cutC p0))) x0q5)).length < 9223372036854775808) && decide (((rpD ((aArS (cutC p0) 0)) ((aArD (cutC p0) 0)) ((dAx (cutC p0))) x0q5)).length < 9223372036854775808) then
  (bif decide (((aArS (cutC p0) 0)).length < 9223372036854775808) && decide (((aArD (cutC p0) 0)).length < 9223372036854775808) then
  (bif decide (((uqS ((rpS ((aArS (cutC p0) 0)) ((aArD (cutC p0) 0)) ((dAx (cutC p0))) x0q5)) ((rpD ((aArS (cutC p0) 0)) ((aArD (cutC p0) 0)) ((dAx (cutC p0))) x0q5)))).length < 9223372036854775808) && decide (((uqD ((rpS ((aArS (cutC p0) 0)) ((aArD (cutC p0) 0)) ((dAx (cutC p0))) x0q5)) ((rpD ((aArS (cutC p0) 0)) ((aArD (cutC p0) 0)) ((dAx (cutC p0))) x0q5)))).length < 9223372036854775808) && decide (((uqS ((aArS (cutC p0) 0)) ((aArD (cutC p0) 0)))).length < 9223372036854775808) && decide (((uqD ((aArS (cutC p0) 0)) ((aArD (cutC p0) 0)))).length < 9223372036854775808) then
  some ([.one ((.bool (decide (((uqS ((rpS ((aArS (cutC p0) 0)) ((aArD (cutC p0) 0)) ((dAx (cutC p0))) x0q5)) ((rpD ((aArS (cutC p0) 0)) ((aArD (cutC p0) 0)) ((dAx (cutC p0))) x0q5)))) = ((uqS ((aArS (cutC p0) 0)) ((aArD (cutC p0) 0))))) && decide (((uqD ((rpS ((aArS (cutC p0) 0)) ((aArD (cutC p0) 0)) ((dAx (cutC p0))) x0q5)) ((rpD ((aArS (cutC p0) 0)) ((aArD (cutC p0) 0)) ((dAx (cutC p0))) x0q5)))) = ((uqD ((aArS (cutC p0) 0)) ((aArD (cutC p0) 0))))))), false)], [])
  else
  none)
  else
  none)
  else
  none))
  else
  none)) := by kernel_rfl
end laws_FnRepeatAxisUnique
theorem laws_FnRepeatAxisUnique.ok_of (hX : ∀ E ∈ laws_FnRepeatAxisUnique.X, CallSpec Try.prog E) (h : ∀ (bs : List Int), (bytesB bs) = true → ∃ fuel, runF Try.prog laws_FnRepeatAxisUnique.X laws_FnRepeatAxisUnique.I 0 fuel 5 Try.f5 [.d (.ints .u8 bs)] = some ([.one ((.bool true), false)], [])) : CallSpec Try.prog laws_FnRepeatAxisUnique.E :=
  callSpec_of (d := 0) hX (by kernel_rfl) laws_FnRepeatAxisUnique.I_ok (by kernel_rfl) (by kernel_rfl) (by kernel_rfl) (fun _ _ _ _ h => by dsimp only [laws_FnRepeatAxisUnique.E] at h; cases h) (fun xs hp => by
    dsimp only [laws_FnRepeatAxisUnique.E] at hp ⊢
    split at hp
    · exact h _ hp
    · cases hp)
theorem laws_FnRepeatAxisUnique.ok : CallSpec Try.prog laws_FnRepeatAxisUnique.E := laws_FnRepeatAxisUnique.ok_of (by simp [laws_FnRepeatAxisUnique.X, spec_DrawRepeatAxis.ok, impl_RepeatAxis.ok, spec_RepeatAxis.ok, laws_equalArray.ok, impl_RankOf.ok, impl_UniqueItems.ok]) fun bs h => by
  obtain ⟨F, hF⟩ : ∃ F : Nat, 4000 < F := ⟨4001, by omega⟩
  refine ⟨F, ?_⟩
  rw [laws_FnRepeatAxisUnique.e]
  by_cases hl : ((bs.length : Nat) : Int) > 1048576
  · rw [decide_eq_true hl]; rfl
  rw [decide_eq_false hl, cond_false, h, cond_true]
  have r0 := cut_ok h (p := 0) (by omega) (by omega)
  obtain ⟨_, _, a1, a2, _, _⟩ := dj_bd r0
  have tl := drT_len (cutC bs)
  obtain ⟨sh, hsh⟩ : ∃ x, aArS (cutC bs) 0 = x := ⟨_, rfl⟩
  obtain ⟨da, hda⟩ : ∃ x, aArD (cutC bs) 0 = x := ⟨_, rfl⟩
  obtain ⟨k, hk⟩ : ∃ x, dAx (cutC bs) = x := ⟨_, rfl⟩
  obtain ⟨ts, hts⟩ : ∃ x, drT (cutC bs) = x := ⟨_, rfl⟩
  rw [hsh] at a1
  rw [hda] at a2
  rw [hts] at tl
  have g1 := lt_of (xs := sh) (by omega)
  have g2 := lt_of (xs := da) (by omega)
  have g3 := lt_of (xs := ts) (by omega)
  simp only [hsh, hda, hk, hts]
  have rl := rp_len sh da k ts
  have h1 := lt_of (xs := rpS sh da k ts) (by omega)
  have h2 := lt_of (xs := rpD sh da k ts) (by omega)
  cases hb : rpB sh da k ts with
  | false =>
    simp only [Bool.and_self, Bool.and_true, Bool.true_and, cond_true, cond_false, Bool.not_true, Bool.not_false, bne_self_eq_false, beq_self_eq_true, decide_true, eq_self, g1, g2, g3, h1, h2]
  | true =>
    obtain ⟨j, rfl, hj, hv, ax, hl, hal, hvs⟩ := rpB_inv hb
    have hL := ax.len_le
    have e0 : rpS sh da (j : Int) ts = alS sh j (rpL ts) := by simp only [rpS, hb, cond_true]
    have e1 : rpD sh da (j : Int) ts = alA sh da j (rpL ts) := by simp only [rpD, hb, cond_true]
    by_cases hr : sh.length = 1
    · have hvc : vcB sh da = true := by simp only [vcB, hv, hr, decide_true, Bool.and_self]
      obtain ⟨_, hs, hl60, hall⟩ := vcB_inv hvc
      have hrk : rankV sh da = 1 := by simp only [rankV, hv, cond_true, hr]; rfl
      obtain rfl : j = 0 := by omega
      simp only [Bool.and_self, Bool.and_true, Bool.true_and, cond_true, cond_false, Bool.not_true, Bool.not_false, bne_self_eq_false, beq_self_eq_true, decide_true, eq_self, g1, g2, g3, h1, h2, hrk]
      have hLn : ts.length = da.length := by rw [hl, hs]; simp [lenN]
      refine run_loop (N := ts.length) (fun m i (out : List Int) => laws_FnRepeatAxisUnique.L0 F m (laws_FnRepeatAxisUnique.t0 bs (i : Int) out) (laws_FnRepeatAxisUnique.k0 F)) (fun i out => out = tab i fun q => maxI 1 (ts.getD q 0)) ?_ ?_ F 0 [] (by omega) (by omega) rfl
      · rintro m out rfl
        generalize hmo : (tab ts.length fun q => maxI 1 (ts.getD q 0)) = mo
        have mol : mo.length = ts.length := by rw [← hmo, tab_length]
        have mog : ∀ i, i < ts.length → 1 ≤ mo.getD i 0 := fun i hi => by
          rw [← hmo, tab_getD hi]
          unfold maxI
          split <;> omega
        have g5 := lt_of (xs := mo) (by omega)
        rw [laws_FnRepeatAxisUnique.s0]
        simp only [hsh, hda, hk, hts]
        rw [dge (by omega)]
        have rl2 := rp_len sh da ((0 : Nat) : Int) mo
        have h3 := lt_of (xs := rpS sh da ((0 : Nat) : Int) mo) (by omega)
        have h4 := lt_of (xs := rpD sh da ((0 : Nat) : Int) mo) (by omega)
        cases hb2 : rpB sh da ((0 : Nat) : Int) mo with
        | false => simp only [Bool.and_self, Bool.and_true, Bool.true_and, cond_true, cond_false, Bool.not_true, Bool.not_false, bne_self_eq_false, beq_self_eq_true, decide_true, eq_self, g1, g2, g5, h3, h4, hb2]
        | true =>
          obtain ⟨j2, hj2, _, _, _, ml2, mal, mvs⟩ := rpB_inv hb2
          obtain rfl : j2 = 0 := by omega
          have z0 : rpS sh da ((0 : Nat) : Int) mo = alS sh 0 (rpL mo) := by simp only [rpS, hb2, cond_true]; rfl
          have z1 : rpD sh da ((0 : Nat) : Int) mo = alA sh da 0 (rpL mo) := by simp only [rpD, hb2, cond_true]; rfl
          have hal2 : alA sh da 0 (rpL mo) = rpV da mo da.length := by
            rw [hs, al_vec fun i hi => ?_]
            · refine (tab_ext ?_ fun i hi => ?_).symm
              · rw [rpV_len]
                unfold rpL
                rw [mol, hLn]
              · unfold rpL at hi ⊢
                rw [mol, hLn] at hi ⊢
                exact rpV_get da mo da.length i hi
            · have := (rpC_bd mal mo.length (Nat.le_refl _)).2 _ (mem_getD (A := rpL mo) hi)
              exact this.1
          have hvr := al_valid (ls := rpL mo) hv hj mvs
          have hvc2 : vcB (alS sh 0 (rpL mo)) (rpV da mo da.length) = true := by
            have h5 : validA (alS sh 0 (rpL mo)) (alA sh da 0 (rpL mo)) = true := hvr
            rw [hal2] at h5
            simp only [vcB, h5, alS_len, hr, decide_true, Bool.and_self]
          obtain ⟨u0, u1, _, _⟩ := uq_facts hvc
          obtain ⟨u2, u3, _, _⟩ := uq_facts hvc2
          have hq : uqC (rpV da mo da.length) (rpV da mo da.length).length = uqC da da.length := by
            rw [uq_all]
            exact rpV_uq da.length (Nat.le_refl _) fun i hi => mog i (by omega)
          rw [hq] at u2 u3
          have ul := uqC_len da da.length
          have g6 := lt_of (xs := uqC da da.length) (by omega)
          have q1 : ∀ n : Nat, decide (([(n : Int)] : List Int).length < 9223372036854775808) = true := fun n => rfl
          have l6 := validA_len (show validA (alS sh 0 (rpL mo)) (alA sh da 0 (rpL mo)) = true from hvr)
          rw [hal2] at l6 z1
          have g7 := lt_of (xs := alS sh 0 (rpL mo)) (by omega)
          have g8 := lt_of (xs := rpV da mo da.length) (by omega)
          simp only [Bool.and_self, Bool.and_true, Bool.true_and, cond_true, cond_false, Bool.not_true, Bool.not_false, bne_self_eq_false, beq_self_eq_true, decide_true, eq_self, g1, g2, g5, g6, g7, g8, hb2, z0, z1, u0, u1, u2, u3, q1]
      · rintro m i out hi rfl
        rw [laws_FnRepeatAxisUnique.s0]
        simp only [hsh, hda, hk, hts]
        rw [dlt hi, cond_true, idx_nat hi, w1 (by omega)]
        simp only [Option.bind_some, getD_get hi, cond_true]
        rw [fitsOk (by simp only [tab_length, List.length_cons, List.length_nil]; omega)]
        exact ⟨_, by rw [tab_succ], rfl⟩
    · have hrk : (rankV sh da != 1) = true := by
        simp only [rankV, hv, cond_true]
        simp; omega
      simp only [Bool.and_self, Bool.and_true, Bool.true_and, cond_true, cond_false, Bool.not_true, Bool.not_false, bne_self_eq_false, beq_self_eq_true, decide_true, eq_self, g1, g2, g3, h1, h2, hrk]

end Go.Ab
