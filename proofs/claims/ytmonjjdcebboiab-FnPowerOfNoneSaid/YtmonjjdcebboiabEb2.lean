import Derived.Test.YtmonjjdcebboiabEb1
import Derived.Test.YtmonjjdcebboiabProg
import Derived.Test.YtmonjjdcebboiabChecked
open Go Go.Ab Go.Proofs
set_option maxRecDepth 100000
set_option linter.unusedVariables false
set_option linter.unusedSimpArgs false
namespace Go.Ab
namespace laws_FnIdentity
noncomputable def E : Entry := ⟨5, true, false, fun | [.d (.ints .u8 bs)] => bytesB bs | _ => false, fun | [.d (.ints .u8 bs)] => ([.one ((.bool true), false)], []) | _ => ([], []), fun _ => [], false, fun _ => none⟩
end laws_FnIdentity
namespace laws_FnIdentity
noncomputable def X : List Entry := [spec_DrawIdentity.E, impl_Identity.E, spec_Identity.E, laws_equalArray.E, impl_ValidArray.E, impl_CountTo.E, impl_SumProduct.E, impl_Transpose.E]
noncomputable def I : List Inl := [⟨5, Try.f5, ⟨[14, 17, 27, 30, 34, 45], [], [], [(5, [1, 0, 2, 3, 4, 5, 6, 7, 8, 9]), (6, [1, 0, 2, 3, 4]), (9, [0, 1, 2, 3, 4, 5, 6, 7, 9, 8, 10, 11, 12])], [], []⟩⟩]
theorem I_ok : ∀ i ∈ I, Try.prog.funcs[i.f]? = some i.fn ∧ (i.fn.name == "runtime.NumGoroutine") = false := by
  intro i hi
  simp only [I, List.mem_cons, List.not_mem_nil, or_false] at hi
  subst hi
  exact ⟨by kernel_rfl, by kernel_rfl⟩
theorem e (fuel : Nat) (p0 : List Int) : runF Try.prog X I 0 fuel 5 Try.f5 [.d (.ints .u8 p0)] =
  (bif (decide ((((p0.length : Nat) : Int) : Int) > 1048576)) then
  some ([.one ((.bool true), false)], [])
  else
  (bif bytesB p0 then
  (bif decide (((idS ((dId (cutC p0))))).length < 9223372036854775808) && decide (((idD ((dId (cutC p0))))).length < 9223372036854775808) && decide (((idS ((dId (cutC p0))))).length < 9223372036854775808) && decide (((idD ((dId (cutC p0))))).length < 9223372036854775808) then
  (bif (!(decide (((idS ((dId (cutC p0))))) = ((idS ((dId (cutC p0)))))) && decide (((idD ((dId (cutC p0))))) = ((idD ((dId (cutC p0)))))))) then
  (bif decide (((idS ((dId (cutC p0))))).length < 9223372036854775808) && decide (((idD ((dId (cutC p0))))).length < 9223372036854775808) && decide (((idS ((dId (cutC p0))))).length < 9223372036854775808) && decide (((idD ((dId (cutC p0))))).length < 9223372036854775808) then
  some ([.one ((.bool (decide (((idS ((dId (cutC p0))))) = ((idS ((dId (cutC p0)))))) && decide (((idD ((dId (cutC p0))))) = ((idD ((dId (cutC p0)))))))), false)], [])
  else
  none)
  else
  (bif decide (((idS ((dId (cutC p0))))).length < 9223372036854775808) && decide (((idD ((dId (cutC p0))))).length < 9223372036854775808) then
  (bif (!(validA ((idS ((dId (cutC p0))))) ((idD ((dId (cutC p0))))))) then
  (bif decide (((idS ((dId (cutC p0))))).length < 9223372036854775808) && decide (((idD ((dId (cutC p0))))).length < 9223372036854775808) && decide (((idS ((dId (cutC p0))))).length < 9223372036854775808) && decide (((idD ((dId (cutC p0))))).length < 9223372036854775808) then
  some ([.one ((.bool (decide (((idS ((dId (cutC p0))))) = ((idS ((dId (cutC p0)))))) && decide (((idD ((dId (cutC p0))))) = ((idD ((dId (cutC p0)))))))), false)], [])
  else
  none)
  else
  (bif decide (((cntS ((dId (cutC p0))))).length < 9223372036854775808) && decide (((cntD ((dId (cutC p0))))).length < 9223372036854775808) && decide (((idS ((dId (cutC p0))))).length < 9223372036854775808) && decide (((idD ((dId (cutC p0))))).length < 9223372036854775808) then
  (bif (inB 1 3 ((cntS ((dId (cutC p0))))) ((cntD ((dId (cutC p0))))) ((idS ((dId (cutC p0))))) ((idD ((dId (cutC p0)))))) then
  (bif decide (((inS 1 3 ((cntS ((dId (cutC p0))))) ((cntD ((dId (cutC p0))))) ((idS ((dId (cutC p0))))) ((idD ((dId (cutC p0))))))).length < 9223372036854775808) && decide (((inD 1 3 ((cntS ((dId (cutC p0))))) ((cntD ((dId (cutC p0))))) ((idS ((dId (cutC p0))))) ((idD ((dId (cutC p0))))))).length < 9223372036854775808) && decide (((cntS ((dId (cutC p0))))).length < 9223372036854775808) && decide (((cntD ((dId (cutC p0))))).length < 9223372036854775808) then
  (bif (decide (((inS 1 3 ((cntS ((dId (cutC p0))))) ((cntD ((dId (cutC p0))))) ((idS ((dId (cutC p0))))) ((idD ((dId (cutC p0))))))) = ((cntS ((dId (cutC p0)))))) && decide (((inD 1 3 ((cntS ((dId (cutC p0))))) ((cntD ((dId (cutC p0))))) ((idS ((dId (cutC p0))))) ((idD ((dId (cutC p0))))))) = ((cntD ((dId (cutC p0))))))) then
  (bif decide (((idS ((dId (cutC p0))))).length < 9223372036854775808) && decide (((idD ((dId (cutC p0))))).length < 9223372036854775808) then
  (bif decide (((trS ((idS ((dId (cutC p0))))) ((idD ((dId (cutC p0))))))).length < 9223372036854775808) && decide (((trD ((idS ((dId (cutC p0))))) ((idD ((dId (cutC p0))))))).length < 9223372036854775808) && decide (((idS ((dId (cutC p0))))).length < 9223372036854775808) && decide (((idD ((dId (cutC p0))))).length < 9223372036854775808) then
  some ([.one ((.bool (decide (((trS ((idS ((dId (cutC p0))))) ((idD ((dId (cutC p0))))))) = ((idS ((dId (cutC p0)))))) && decide (((trD ((idS ((dId (cutC p0))))) ((idD ((dId (cutC p0))))))) = ((idD ((dId (cutC p0)))))))), false)], [])
  else
  none)
  else
  none)
  else
  some ([.one ((.bool false), false)], []))
  else
  none)
  else
  some ([.one ((.bool false), false)], []))
  else
  none))
  else
  none))
  else
  none)
  else
  none)) := by kernel_rfl
end laws_FnIdentity
theorem laws_FnIdentity.ok_of (hX : ∀ E ∈ laws_FnIdentity.X, CallSpec Try.prog E) (h : ∀ (bs : List Int), (bytesB bs) = true → ∃ fuel, runF Try.prog laws_FnIdentity.X laws_FnIdentity.I 0 fuel 5 Try.f5 [.d (.ints .u8 bs)] = some ([.one ((.bool true), false)], [])) : CallSpec Try.prog laws_FnIdentity.E :=
  callSpec_of (d := 0) hX (by kernel_rfl) laws_FnIdentity.I_ok (by kernel_rfl) (by kernel_rfl) (by kernel_rfl) (fun _ _ _ _ h => by dsimp only [laws_FnIdentity.E] at h; cases h) (fun xs hp => by
    dsimp only [laws_FnIdentity.E] at hp ⊢
    split at hp
    · exact h _ hp
    · cases hp)
theorem laws_FnIdentity.ok : CallSpec Try.prog laws_FnIdentity.E := laws_FnIdentity.ok_of (by simp [laws_FnIdentity.X, spec_DrawIdentity.ok, impl_Identity.ok, spec_Identity.ok, laws_equalArray.ok, impl_ValidArray.ok, impl_CountTo.ok, impl_SumProduct.ok, impl_Transpose.ok]) fun bs h => by
  obtain ⟨F, hF⟩ : ∃ F : Nat, 4000 < F := ⟨4001, by omega⟩
  refine ⟨F, ?_⟩
  rw [laws_FnIdentity.e]
  by_cases hl : ((bs.length : Nat) : Int) > 1048576
  · rw [decide_eq_true hl]; rfl
  rw [decide_eq_false hl, cond_false, h, cond_true]
  have r0 := cut_ok h (p := 0) (by omega) (by omega)
  obtain ⟨b1, b2⟩ := dId_bd r0
  obtain ⟨n, hn⟩ : ∃ x, dId (cutC bs) = x := ⟨_, rfl⟩
  rw [hn] at b1 b2
  have w := id_len n
  have g1 := lt_of (xs := idS n) (by omega)
  have g2 := lt_of (xs := idD n) (by omega)
  simp only [hn]
  cases hb : idOk n with
  | false =>
    have e1 : idS n = [] := by simp only [idS, hb]; rfl
    have e2 : idD n = [] := by simp only [idD, hb]; rfl
    rw [e1, e2]
    rfl
  | true =>
    obtain ⟨k, rfl, hk⟩ := idOk_inv hb
    obtain ⟨e1, e2⟩ := idSD hk
    have hv := id_valid hk
    obtain ⟨c1, c2⟩ := cnt_up (n := k) (by omega)
    have hvv : validA [((k : Nat) : Int)] (upN k) = true := by
      have := validA_vec (upN_vec (n := k) (by omega))
      rwa [upN_length] at this
    have hin : inB 1 3 [((k : Nat) : Int)] (upN k) [(k : Int), (k : Int)] (idN k) = true := by
      have v1 := (vol_sq hk).1
      have hs := (validS_one (m := (k : Int)) (by omega) (by omega)).1
      have e : inSh [((k : Nat) : Int)] [(k : Int), (k : Int)] = [(k : Int)] := rfl
      have a1 : axB [((k : Nat) : Int)] (upN k) (inK [((k : Nat) : Int)]) = true := by simp [axB, hvv, inK, axOk]
      have a2 : axB [(k : Int), (k : Int)] (idN k) 0 = true := by simp [axB, hv, axOk]
      simp only [inB, e, hs, a1, a2]
      simp [opOk, lenN]
    have i1 : inS 1 3 [((k : Nat) : Int)] (upN k) [(k : Int), (k : Int)] (idN k) = [((k : Nat) : Int)] := by simp only [inS, hin, cond_true]; rfl
    have i2 : inD 1 3 [((k : Nat) : Int)] (upN k) [(k : Int), (k : Int)] (idN k) = upN k := by simp only [inD, hin, cond_true]; exact id_right_vec (upN_length k) hvv
    obtain ⟨t1, t2, t3⟩ := tr_two hv
    have t4 : trD [(k : Int), (k : Int)] (idN k) = idN k := by
      have hl2 : (trD [(k : Int), (k : Int)] (idN k)).length = k * k := by have := data_prod t2; simpa [prodN] using this
      rw [← tab_ext' (f := fun n => (idN k).getD n 0) (xs := trD [(k : Int), (k : Int)] (idN k)) hl2 fun n hn => ?_]
      · exact tab_ext' (idN_length k) fun i _ => rfl
      · have h0 : 0 < k := mulr_pos hn
        have e : n / k * k + n % k = n := by rw [Nat.mul_comm]; exact Nat.div_add_mod n k
        have hd := Nat.div_lt_of_lt_mul hn
        have hm := Nat.mod_lt n h0
        have := t3 (n % k) (n / k) hm hd
        rw [e, id_get hm hd] at this
        rw [this]
        have := id_get hd hm
        rw [e] at this
        rw [this]
        congr 1
        rw [Bool.eq_iff_iff]
        simp
        omega
    have s1 := lt_of (xs := [(k : Int), (k : Int)]) (by simp)
    have s2 := lt_of (xs := idN k) (by rw [idN_length]; have := sq4 hk; omega)
    have s3 := lt_of (xs := [(k : Int)]) (by simp)
    have s4 := lt_of (xs := upN k) (by rw [upN_length]; omega)
    rw [e1, e2, c1, c2, t1, t4, i1, i2, hin]
    simp only [Bool.and_self, Bool.and_true, Bool.true_and, cond_true, cond_false, Bool.not_true, Bool.not_false, bne_self_eq_false, beq_self_eq_true, decide_true, eq_self, s1, s2, s3, s4, hv]

namespace spec_reader_one
noncomputable def E : Entry := ⟨69, false, false, fun | [.box [(.ints .u8 bs), (.int .i64 p)], .d (.ints .i64 xs)] => rdOk bs p && decide (0 < (xs : List Int).length) && decide ((xs : List Int).length ≤ 1048576) | _ => false, fun | [.box [(.ints .u8 bs), (.int .i64 p)], .d (.ints .i64 xs)] => ([.one ((.int .i64 (oneV bs p xs)), false)], [[(.ints .u8 bs), (.int .i64 (p + 1))]]) | _ => ([], []), fun _ => [], false, fun _ => none⟩
end spec_reader_one
namespace spec_reader_one
noncomputable def X : List Entry := [spec_reader_pick.E]
noncomputable def I : List Inl := [⟨69, Try.f69, ⟨[], [], [], [], [], []⟩⟩]
theorem I_ok : ∀ i ∈ I, Try.prog.funcs[i.f]? = some i.fn ∧ (i.fn.name == "runtime.NumGoroutine") = false := by
  intro i hi
  simp only [I, List.mem_cons, List.not_mem_nil, or_false] at hi
  subst hi
  exact ⟨by kernel_rfl, by kernel_rfl⟩
theorem e (fuel : Nat) (p0q0 : List Int) (p0q1 : Int) (p1 : List Int) : runF Try.prog X I 0 fuel 69 Try.f69 [.box [(.ints .u8 p0q0), (.int .i64 p0q1)], .d (.ints .i64 p1)] =
  (bif rdOk p0q0 p0q1 && decide (((((p1.length : Nat) : Int)) : Int) ≤ 1048576) then
  (idx (pickV p0q0 p0q1 (((p1.length : Nat) : Int))) p1.length).bind fun j1 =>
  (p1[j1]?).bind fun v2 =>
  some ([.one ((.int .i64 v2), false)], [[(.ints .u8 p0q0), (.int .i64 (p0q1 + 1))]])
  else
  none) := by kernel_rfl
end spec_reader_one
theorem spec_reader_one.ok_of (hX : ∀ E ∈ spec_reader_one.X, CallSpec Try.prog E) (h : ∀ (bs : List Int) (p : Int) (xs : List Int), (rdOk bs p && decide (0 < (xs : List Int).length) && decide ((xs : List Int).length ≤ 1048576)) = true → ∃ fuel, runF Try.prog spec_reader_one.X spec_reader_one.I 0 fuel 69 Try.f69 [.box [(.ints .u8 bs), (.int .i64 p)], .d (.ints .i64 xs)] = some ([.one ((.int .i64 (oneV bs p xs)), false)], [[(.ints .u8 bs), (.int .i64 (p + 1))]])) : CallSpec Try.prog spec_reader_one.E :=
  callSpec_of (d := 0) hX (by kernel_rfl) spec_reader_one.I_ok (by kernel_rfl) (by kernel_rfl) (by kernel_rfl) (fun _ _ _ _ h => by dsimp only [spec_reader_one.E] at h; cases h) (fun xs hp => by
    dsimp only [spec_reader_one.E] at hp ⊢
    split at hp
    · exact h _ _ _ hp
    · cases hp)
theorem spec_reader_one.ok : CallSpec Try.prog spec_reader_one.E := spec_reader_one.ok_of (by simp [spec_reader_one.X, spec_reader_pick.ok]) fun bs p xs h => ⟨0, by
  simp only [Bool.and_eq_true, decide_eq_true_eq] at h
  have hb := pick_bd (n := ((xs.length : Nat) : Int)) h.1.1 (by omega)
  have hi : idx (pickV bs p ((xs.length : Nat) : Int)) xs.length = some (pickV bs p ((xs.length : Nat) : Int)).toNat := by unfold idx; rw [if_pos hb]
  have g : (pickV bs p ((xs.length : Nat) : Int)).toNat < xs.length := by omega
  rw [spec_reader_one.e, h.1.1, decide_eq_true (p := (((xs.length : Nat) : Int) ≤ 1048576)) (by omega), hi]
  unfold oneV
  simp [g]⟩

namespace spec_someShape
noncomputable def E : Entry := ⟨124, false, false, fun | [.box [(.ints .u8 bs), (.int .i64 p)]] => rdOk bs p && decide ((p : Int) ≤ 2000000) | _ => false, fun | [.box [(.ints .u8 bs), (.int .i64 p)]] => ([.one ((.ints .i64 (sShV bs p)), true)], [[(.ints .u8 bs), (.int .i64 (sShP bs p))]]) | _ => ([], []), fun _ => [], false, fun _ => none⟩
end spec_someShape
namespace spec_someShape
noncomputable def X : List Entry := [spec_reader_pick.E]
noncomputable def I : List Inl := [⟨124, Try.f124, ⟨[], [], [], [], [], []⟩⟩]
theorem I_ok : ∀ i ∈ I, Try.prog.funcs[i.f]? = some i.fn ∧ (i.fn.name == "runtime.NumGoroutine") = false := by
  intro i hi
  simp only [I, List.mem_cons, List.not_mem_nil, or_false] at hi
  subst hi
  exact ⟨by kernel_rfl, by kernel_rfl⟩
theorem e (fuel : Nat) (p0q0 : List Int) (p0q1 : Int) : runF Try.prog X I 0 fuel 124 Try.f124 [.box [(.ints .u8 p0q0), (.int .i64 p0q1)]] =
  (bif rdOk p0q0 p0q1 && decide ((8 : Int) ≤ 1048576) then
  (bif (((pickV p0q0 p0q1 8) : Int) == 0) then
  some ([.one ((.ints .i64 []), true)], [[(.ints .u8 p0q0), (.int .i64 (p0q1 + 1))]])
  else
  (bif (((pickV p0q0 p0q1 8) : Int) == 1) then
  (bif rdOk p0q0 ((p0q1 + 1)) && decide ((7 : Int) ≤ 1048576) then
  some ([.one ((.ints .i64 [(pickV p0q0 ((p0q1 + 1)) 7)]), true)], [[(.ints .u8 p0q0), (.int .i64 (((p0q1 + 1)) + 1))]])
  else
  none)
  else
  (bif (((pickV p0q0 p0q1 8) : Int) == 2) then
  (bif rdOk p0q0 ((p0q1 + 1)) && decide ((7 : Int) ≤ 1048576) then
  some ([.one ((.ints .i64 [(pickV p0q0 ((p0q1 + 1)) 7)]), true)], [[(.ints .u8 p0q0), (.int .i64 (((p0q1 + 1)) + 1))]])
  else
  none)
  else
  (bif (((pickV p0q0 p0q1 8) : Int) == 3) then
  (bif rdOk p0q0 ((p0q1 + 1)) && decide ((7 : Int) ≤ 1048576) then
  some ([.one ((.ints .i64 [(pickV p0q0 ((p0q1 + 1)) 7)]), true)], [[(.ints .u8 p0q0), (.int .i64 (((p0q1 + 1)) + 1))]])
  else
  none)
  else
  (bif (((pickV p0q0 p0q1 8) : Int) == 4) then
  (bif rdOk p0q0 ((p0q1 + 1)) && decide ((5 : Int) ≤ 1048576) then
  (bif rdOk p0q0 ((((p0q1 + 1)) + 1)) && decide ((5 : Int) ≤ 1048576) then
  some ([.one ((.ints .i64 [(pickV p0q0 ((p0q1 + 1)) 5), (pickV p0q0 ((((p0q1 + 1)) + 1)) 5)]), true)], [[(.ints .u8 p0q0), (.int .i64 (((((p0q1 + 1)) + 1)) + 1))]])
  else
  none)
  else
  none)
  else
  (bif (((pickV p0q0 p0q1 8) : Int) == 5) then
  (bif rdOk p0q0 ((p0q1 + 1)) && decide ((5 : Int) ≤ 1048576) then
  (bif rdOk p0q0 ((((p0q1 + 1)) + 1)) && decide ((5 : Int) ≤ 1048576) then
  some ([.one ((.ints .i64 [(pickV p0q0 ((p0q1 + 1)) 5), (pickV p0q0 ((((p0q1 + 1)) + 1)) 5)]), true)], [[(.ints .u8 p0q0), (.int .i64 (((((p0q1 + 1)) + 1)) + 1))]])
  else
  none)
  else
  none)
  else
  (bif (((pickV p0q0 p0q1 8) : Int) == 6) then
  (bif rdOk p0q0 ((p0q1 + 1)) && decide ((5 : Int) ≤ 1048576) then
  (bif rdOk p0q0 ((((p0q1 + 1)) + 1)) && decide ((5 : Int) ≤ 1048576) then
  some ([.one ((.ints .i64 [(pickV p0q0 ((p0q1 + 1)) 5), (pickV p0q0 ((((p0q1 + 1)) + 1)) 5)]), true)], [[(.ints .u8 p0q0), (.int .i64 (((((p0q1 + 1)) + 1)) + 1))]])
  else
  none)
  else
  none)
  else
  (bif rdOk p0q0 ((p0q1 + 1)) && decide ((4 : Int) ≤ 1048576) then
  (bif rdOk p0q0 ((((p0q1 + 1)) + 1)) && decide ((4 : Int) ≤ 1048576) then
  (bif rdOk p0q0 ((((((p0q1 + 1)) + 1)) + 1)) && decide ((4 : Int) ≤ 1048576) then
  some ([.one ((.ints .i64 [(pickV p0q0 ((p0q1 + 1)) 4), (pickV p0q0 ((((p0q1 + 1)) + 1)) 4), (pickV p0q0 ((((((p0q1 + 1)) + 1)) + 1)) 4)]), true)], [[(.ints .u8 p0q0), (.int .i64 (((((((p0q1 + 1)) + 1)) + 1)) + 1))]])
  else
  none)
  else
  none)
  else
  none))))))))
  else
  none) := by kernel_rfl
end spec_someShape
theorem spec_someShape.ok_of (hX : ∀ E ∈ spec_someShape.X, CallSpec Try.prog E) (h : ∀ (bs : List Int) (p : Int), (rdOk bs p && decide ((p : Int) ≤ 2000000)) = true → ∃ fuel, runF Try.prog spec_someShape.X spec_someShape.I 0 fuel 124 Try.f124 [.box [(.ints .u8 bs), (.int .i64 p)]] = some ([.one ((.ints .i64 (sShV bs p)), true)], [[(.ints .u8 bs), (.int .i64 (sShP bs p))]])) : CallSpec Try.prog spec_someShape.E :=
  callSpec_of (d := 0) hX (by kernel_rfl) spec_someShape.I_ok (by kernel_rfl) (by kernel_rfl) (by kernel_rfl) (fun _ _ _ _ h => by dsimp only [spec_someShape.E] at h; cases h) (fun xs hp => by
    dsimp only [spec_someShape.E] at hp ⊢
    split at hp
    · exact h _ _ hp
    · cases hp)
theorem spec_someShape.ok : CallSpec Try.prog spec_someShape.E := spec_someShape.ok_of (by simp [spec_someShape.X, spec_reader_pick.ok]) fun bs p h => ⟨0, by
  simp only [Bool.and_eq_true, decide_eq_true_eq] at h
  have r0 := h.1
  have r1 := rd_le (q := p + 1) h.1 (by omega) (by omega)
  have r2 := rd_le (q := p + 1 + 1) h.1 (by omega) (by omega)
  have r3 := rd_le (q := p + 1 + 1 + 1) h.1 (by omega) (by omega)
  rw [spec_someShape.e, r0, r1, r2, r3]
  unfold sShV sShP
  cases pickV bs p 8 == 0 <;> cases pickV bs p 8 == 1 <;> cases pickV bs p 8 == 2 <;> cases pickV bs p 8 == 3 <;> cases pickV bs p 8 == 4 <;> cases pickV bs p 8 == 5 <;> cases pickV bs p 8 == 6 <;> rfl⟩

namespace spec_volume
noncomputable def E : Entry := ⟨97, true, false, fun | [.d (.ints .i64 xs)] => decide (xs.length < 9223372036854775808) | _ => false, fun | [.d (.ints .i64 xs)] => ([.one ((.int .i64 (volW xs)), false)], []) | _ => ([], []), fun _ => [], false, fun _ => none⟩
end spec_volume
namespace spec_volume
noncomputable def X : List Entry := []
noncomputable def I : List Inl := [⟨97, Try.f97, ⟨[], [(1000003, [1, 2, 5, 6, 7, 8, 9, 10, 11, 12, 13, 14, 15, 16, 17])], [], [], [], []⟩⟩]
theorem I_ok : ∀ i ∈ I, Try.prog.funcs[i.f]? = some i.fn ∧ (i.fn.name == "runtime.NumGoroutine") = false := by
  intro i hi
  simp only [I, List.mem_cons, List.not_mem_nil, or_false] at hi
  subst hi
  exact ⟨by kernel_rfl, by kernel_rfl⟩
noncomputable abbrev L0 (fuel n : Nat) (s : St) (k : Kont) := lAt Try.prog X I fuel true 0 false 97 (bodyOf Try.f97) [1, 1, 0, 1, 0] n s k
noncomputable abbrev k0  (fuel : Nat) : Kont := (kAt Try.prog X I fuel true 0 false 97 (bodyOf Try.f97) [1, 1, 0, 1, 0] [] (endK Try.prog Try.f97))
noncomputable def t0 (p0 : List Int) (x0q1 : Int) (x0q2 : Int) : St := ⟨[(.imm (.ints .i64 p0)), .dead, .dead, (.imm (.int .i64 x0q1)), (.imm (.int .i64 x0q2)), .dead, .dead, .dead, .dead, .dead, .dead, .dead, .dead, .dead, .dead, .dead, .dead, .dead], hOf [], [], []⟩
theorem e (fuel : Nat) (p0 : List Int) : runF Try.prog X I 0 fuel 97 Try.f97 [.d (.ints .i64 p0)] =
  L0 fuel fuel (t0 p0 1 0) (k0  fuel) := by kernel_rfl
theorem s0 (fuel n0 : Nat) (p0 : List Int) (x0q1 : Int) (x0q2 : Int) : L0 fuel (n0 + 1) (t0 p0 x0q1 x0q2) (k0  fuel) =
  (bif (decide ((x0q2 : Int) < ((p0.length : Nat) : Int))) then
  (idx x0q2 p0.length).bind fun j5 =>
  (p0[j5]?).bind fun v6 =>
  L0 fuel n0 (t0 p0 ((IntKind.wrap .i64 (x0q1 * v6))) ((IntKind.wrap .i64 (x0q2 + 1)))) (k0  fuel)
  else
  some ([.one ((.int .i64 x0q1), false)], [])) := by kernel_rfl
end spec_volume
theorem spec_volume.ok_of (hX : ∀ E ∈ spec_volume.X, CallSpec Try.prog E) (h : ∀ (xs : List Int), (decide (xs.length < 9223372036854775808)) = true → ∃ fuel, runF Try.prog spec_volume.X spec_volume.I 0 fuel 97 Try.f97 [.d (.ints .i64 xs)] = some ([.one ((.int .i64 (volW xs)), false)], [])) : CallSpec Try.prog spec_volume.E :=
  callSpec_of (d := 0) hX (by kernel_rfl) spec_volume.I_ok (by kernel_rfl) (by kernel_rfl) (by kernel_rfl) (fun _ _ _ _ h => by dsimp only [spec_volume.E] at h; cases h) (fun xs hp => by
    dsimp only [spec_volume.E] at hp ⊢
    split at hp
    · exact h _ hp
    · cases hp)
theorem spec_volume.loop (fuel : Nat) (xs : List Int) (hx : xs.length < 9223372036854775808) : ∀ (m n j : Nat) (a : Int), xs.length - j = m → m < n → j ≤ xs.length →
    spec_volume.L0 fuel n (spec_volume.t0 xs a (j : Int)) (spec_volume.k0 fuel) = some ([.one (.int .i64 (volFrom (xs.drop j) a), false)], []) := by
  intro m
  induction m with
  | zero =>
    intro n j a h1 h2 h3
    obtain ⟨n, rfl⟩ : ∃ n', n = n' + 1 := ⟨n - 1, by omega⟩
    have hj : ¬ j < xs.length := by omega
    rw [spec_volume.s0, dge hj, dropE hj]
    rfl
  | succ m ih =>
    intro n j a h1 h2 h3
    obtain ⟨n, rfl⟩ : ∃ n', n = n' + 1 := ⟨n - 1, by omega⟩
    have hj : j < xs.length := by omega
    rw [spec_volume.s0, dlt hj, idx_nat hj, w1 (by omega), dropS hj]
    simp only [cond_true, Option.bind_some, getS hj, volFrom]
    exact ih n (j + 1) _ (by omega) (by omega) (by omega)

theorem spec_volume.ok : CallSpec Try.prog spec_volume.E := spec_volume.ok_of (by simp [spec_volume.X]) fun xs h => by
  simp only [decide_eq_true_eq] at h
  refine ⟨xs.length + 1, ?_⟩
  rw [spec_volume.e]
  exact spec_volume.loop (xs.length + 1) xs h xs.length (xs.length + 1) 0 1 (by omega) (by omega) (by omega)

namespace spec_someNum
noncomputable def E : Entry := ⟨129, false, false, fun | [.box [(.ints .u8 bs), (.int .i64 p)]] => rdOk bs p | _ => false, fun | [.box [(.ints .u8 bs), (.int .i64 p)]] => ([.one ((.int .i64 (oneV bs p someL)), false)], [[(.ints .u8 bs), (.int .i64 (p + 1))]]) | _ => ([], []), fun _ => [], false, fun _ => none⟩
end spec_someNum
namespace spec_someNum
noncomputable def X : List Entry := [spec_reader_one.E]
noncomputable def I : List Inl := [⟨129, Try.f129, ⟨[], [], [], [], [4], []⟩⟩]
theorem I_ok : ∀ i ∈ I, Try.prog.funcs[i.f]? = some i.fn ∧ (i.fn.name == "runtime.NumGoroutine") = false := by
  intro i hi
  simp only [I, List.mem_cons, List.not_mem_nil, or_false] at hi
  subst hi
  exact ⟨by kernel_rfl, by kernel_rfl⟩
theorem e (fuel : Nat) (p0q0 : List Int) (p0q1 : Int) : runF Try.prog X I 0 fuel 129 Try.f129 [.box [(.ints .u8 p0q0), (.int .i64 p0q1)]] =
  (bif rdOk p0q0 p0q1 && decide (0 < ((([0, 1, 2, 3, (-1), 5, 7, (-4), 1000000, (-1000000), 10, 1] : List Int)) : List Int).length) && decide (((([0, 1, 2, 3, (-1), 5, 7, (-4), 1000000, (-1000000), 10, 1] : List Int)) : List Int).length ≤ 1048576) then
  some ([.one ((.int .i64 (oneV p0q0 p0q1 (([0, 1, 2, 3, (-1), 5, 7, (-4), 1000000, (-1000000), 10, 1] : List Int)))), false)], [[(.ints .u8 p0q0), (.int .i64 (p0q1 + 1))]])
  else
  none) := by kernel_rfl
end spec_someNum
theorem spec_someNum.ok_of (hX : ∀ E ∈ spec_someNum.X, CallSpec Try.prog E) (h : ∀ (bs : List Int) (p : Int), (rdOk bs p) = true → ∃ fuel, runF Try.prog spec_someNum.X spec_someNum.I 0 fuel 129 Try.f129 [.box [(.ints .u8 bs), (.int .i64 p)]] = some ([.one ((.int .i64 (oneV bs p someL)), false)], [[(.ints .u8 bs), (.int .i64 (p + 1))]])) : CallSpec Try.prog spec_someNum.E :=
  callSpec_of (d := 0) hX (by kernel_rfl) spec_someNum.I_ok (by kernel_rfl) (by kernel_rfl) (by kernel_rfl) (fun _ _ _ _ h => by dsimp only [spec_someNum.E] at h; cases h) (fun xs hp => by
    dsimp only [spec_someNum.E] at hp ⊢
    split at hp
    · exact h _ _ hp
    · cases hp)
theorem spec_someNum.ok : CallSpec Try.prog spec_someNum.E := spec_someNum.ok_of (by simp [spec_someNum.X, spec_reader_one.ok]) fun bs p h => ⟨0, by
  rw [spec_someNum.e, h]
  rfl⟩

namespace spec_fill
noncomputable def E : Entry := ⟨123, false, false, fun | [.box [(.ints .u8 bs), (.int .i64 p)], .d (.ints .i64 sh)] => rdOk bs p && decide ((p : Int) ≤ 2000000) && validS sh | _ => false, fun | [.box [(.ints .u8 bs), (.int .i64 p)], .d (.ints .i64 sh)] => ([.agg [((.ints .i64 sh), true), ((.ints .i64 (fillV bs p sh)), true)]], [[(.ints .u8 bs), (.int .i64 (p + volW sh))]]) | _ => ([], []), fun _ => [], false, fun _ => none⟩
end spec_fill
namespace spec_fill
noncomputable def X : List Entry := [spec_volume.E, spec_someNum.E, spec_make1.E]
noncomputable def I : List Inl := [⟨123, Try.f123, ⟨[21], [(1000003, [2, 3, 7, 8, 9, 10, 11, 12, 13, 14, 15, 16, 17, 18, 19, 20, 21])], [], [], [], []⟩⟩]
theorem I_ok : ∀ i ∈ I, Try.prog.funcs[i.f]? = some i.fn ∧ (i.fn.name == "runtime.NumGoroutine") = false := by
  intro i hi
  simp only [I, List.mem_cons, List.not_mem_nil, or_false] at hi
  subst hi
  exact ⟨by kernel_rfl, by kernel_rfl⟩
noncomputable abbrev L0 (fuel n : Nat) (s : St) (k : Kont) := lAt Try.prog X I fuel false 0 false 123 (bodyOf Try.f123) [1, 1, 0, 1, 0] n s k
noncomputable abbrev k0  (fuel : Nat) : Kont := (kAt Try.prog X I fuel false 0 false 123 (bodyOf Try.f123) [1, 1, 0, 1, 0] [] (endK Try.prog Try.f123))
noncomputable def t0 (p1 : List Int) (p0q0 : List Int) (x0q1 : Int) (x0q3 : Int) (x0q4 : List Int) : St := ⟨[(.ptr 1000000000 0 0), (.imm (.ints .i64 p1)), .dead, .dead, (.ptr 1000000001 0 0), (.all 1000000002 1), (.imm (.int .i64 x0q1)), .dead, .dead, .dead, .dead, .dead, .dead, .dead, .dead, .dead, .dead, .dead, .dead, .dead, .dead, .dead], hOf [(1000000000, (.box [(.imm (.ints .u8 p0q0)), (.imm (.int .i64 x0q3))])), (1000000001, (.box [(.imm .nils), (.imm .nils)])), (1000000002, (.ints .i64 x0q4))], [(.ptr 1000000000 0 0)], []⟩
theorem e (fuel : Nat) (p0q0 : List Int) (p0q1 : Int) (p1 : List Int) : runF Try.prog X I 0 fuel 123 Try.f123 [.box [(.ints .u8 p0q0), (.int .i64 p0q1)], .d (.ints .i64 p1)] =
  L0 fuel fuel (t0 p1 p0q0 0 p0q1 ([])) (k0  fuel) := by kernel_rfl
theorem s0 (fuel n0 : Nat) (p1 : List Int) (p0q0 : List Int) (x0q1 : Int) (x0q3 : Int) (x0q4 : List Int) : L0 fuel (n0 + 1) (t0 p1 p0q0 x0q1 x0q3 x0q4) (k0  fuel) =
  (bif decide (p1.length < 9223372036854775808) then
  (bif (decide ((x0q1 : Int) < (volW p1))) then
  (bif rdOk p0q0 x0q3 then
  (bif fits (x0q4.length + ([(oneV p0q0 x0q3 someL)] : List Int).length) 8 then
  L0 fuel n0 (t0 p1 p0q0 ((IntKind.wrap .i64 (x0q1 + 1))) ((x0q3 + 1)) ((x0q4 ++ [(oneV p0q0 x0q3 someL)]))) (k0  fuel)
  else
  none)
  else
  none)
  else
  (bif szB p1 && szB x0q4 then
  some ([.agg [((.ints .i64 p1), true), ((.ints .i64 x0q4), true)]], [[(.ints .u8 p0q0), (.int .i64 x0q3)]])
  else
  none))
  else
  none) := by kernel_rfl
end spec_fill
theorem spec_fill.ok_of (hX : ∀ E ∈ spec_fill.X, CallSpec Try.prog E) (h : ∀ (bs : List Int) (p : Int) (sh : List Int), (rdOk bs p && decide ((p : Int) ≤ 2000000) && validS sh) = true → ∃ fuel, runF Try.prog spec_fill.X spec_fill.I 0 fuel 123 Try.f123 [.box [(.ints .u8 bs), (.int .i64 p)], .d (.ints .i64 sh)] = some ([.agg [((.ints .i64 sh), true), ((.ints .i64 (fillV bs p sh)), true)]], [[(.ints .u8 bs), (.int .i64 (p + volW sh))]])) : CallSpec Try.prog spec_fill.E :=
  callSpec_of (d := 0) hX (by kernel_rfl) spec_fill.I_ok (by kernel_rfl) (by kernel_rfl) (by kernel_rfl) (fun _ _ _ _ h => by dsimp only [spec_fill.E] at h; cases h) (fun xs hp => by
    dsimp only [spec_fill.E] at hp ⊢
    split at hp
    · exact h _ _ _ hp
    · cases hp)
theorem spec_fill.loop (fuel : Nat) (bs : List Int) (p : Int) (sh : List Int) (h : rdOk bs p = true) (hp : p ≤ 2000000) (hv : validS sh = true) : ∀ (m n j : Nat) (out : List Int), (volW sh).toNat - j = m → m < n → j ≤ (volW sh).toNat → out = tab j (fun i => oneV bs (p + ((i : Nat) : Int)) someL) →
    spec_fill.L0 fuel n (spec_fill.t0 sh bs (j : Int) (p + (j : Int)) out) (spec_fill.k0 fuel) = some ([.agg [(.ints .i64 sh, true), (.ints .i64 (fillV bs p sh), true)]], [[(.ints .u8 bs), (.int .i64 (p + volW sh))]]) := by
  have hl := (validS_inv hv).1
  have hb := vol_bd hv
  intro m
  induction m with
  | zero =>
    intro n j out h1 h2 h3 h4
    obtain ⟨n, rfl⟩ : ∃ n', n = n' + 1 := ⟨n - 1, by omega⟩
    have ho : out.length = j := by rw [h4, tab_length]
    rw [spec_fill.s0, decide_eq_true (p := sh.length < 9223372036854775808) (by omega), decide_eq_false (p := (j : Int) < volW sh) (by omega), szB_of (xs := sh) (by omega), szB_of (xs := out) (by omega), h4, show p + (j : Int) = p + volW sh by omega, show j = (volW sh).toNat by omega]
    rfl
  | succ m ih =>
    intro n j out h1 h2 h3 h4
    obtain ⟨n, rfl⟩ : ∃ n', n = n' + 1 := ⟨n - 1, by omega⟩
    have ho : out.length = j := by rw [h4, tab_length]
    rw [spec_fill.s0, decide_eq_true (p := sh.length < 9223372036854775808) (by omega), decide_eq_true (p := (j : Int) < volW sh) (by omega), rd_le (q := p + (j : Int)) h (by omega) (by omega), fitsOk (by simp; omega), w1 (by omega), show p + (j : Int) + 1 = p + ((j + 1 : Nat) : Int) by omega]
    exact ih n (j + 1) _ (by omega) (by omega) (by omega) (by rw [tab_succ, h4])
theorem spec_fill.ok : CallSpec Try.prog spec_fill.E := spec_fill.ok_of (by simp [spec_fill.X, spec_volume.ok, spec_someNum.ok, spec_make1.ok]) fun bs p sh h => by
  simp only [Bool.and_eq_true, decide_eq_true_eq] at h
  have hb := vol_bd h.2
  obtain ⟨F, hF⟩ : ∃ F : Nat, 60 < F := ⟨61, by omega⟩
  refine ⟨F, ?_⟩
  have := spec_fill.loop F bs p sh h.1.1 h.1.2 h.2 _ F 0 [] rfl (by omega) (by omega) rfl
  rw [spec_fill.e]
  rw [show p + ((0 : Nat) : Int) = p by omega] at this
  exact this

namespace spec_someArray
noncomputable def E : Entry := ⟨112, false, false, fun | [.box [(.ints .u8 bs), (.int .i64 p)]] => rdOk bs p && decide ((p : Int) ≤ 1000000) | _ => false, fun | [.box [(.ints .u8 bs), (.int .i64 p)]] => ([.agg [((.ints .i64 (sShV bs p)), true), ((.ints .i64 (sDaV bs p)), true)]], [[(.ints .u8 bs), (.int .i64 (sDaP bs p))]]) | _ => ([], []), fun _ => [], false, fun _ => none⟩
end spec_someArray
namespace spec_someArray
noncomputable def X : List Entry := [spec_someShape.E, spec_fill.E]
noncomputable def I : List Inl := [⟨112, Try.f112, ⟨[6], [], [], [], [], []⟩⟩]
theorem I_ok : ∀ i ∈ I, Try.prog.funcs[i.f]? = some i.fn ∧ (i.fn.name == "runtime.NumGoroutine") = false := by
  intro i hi
  simp only [I, List.mem_cons, List.not_mem_nil, or_false] at hi
  subst hi
  exact ⟨by kernel_rfl, by kernel_rfl⟩
theorem e (fuel : Nat) (p0q0 : List Int) (p0q1 : Int) : runF Try.prog X I 0 fuel 112 Try.f112 [.box [(.ints .u8 p0q0), (.int .i64 p0q1)]] =
  (bif rdOk p0q0 p0q1 && decide ((p0q1 : Int) ≤ 2000000) then
  (bif rdOk p0q0 ((sShP p0q0 p0q1)) && decide ((((sShP p0q0 p0q1)) : Int) ≤ 2000000) && validS ((sShV p0q0 p0q1)) then
  some ([.agg [((.ints .i64 ((sShV p0q0 p0q1))), true), ((.ints .i64 (fillV p0q0 ((sShP p0q0 p0q1)) ((sShV p0q0 p0q1)))), true)]], [[(.ints .u8 p0q0), (.int .i64 (((sShP p0q0 p0q1)) + volW ((sShV p0q0 p0q1))))]])
  else
  none)
  else
  none) := by kernel_rfl
end spec_someArray
theorem spec_someArray.ok_of (hX : ∀ E ∈ spec_someArray.X, CallSpec Try.prog E) (h : ∀ (bs : List Int) (p : Int), (rdOk bs p && decide ((p : Int) ≤ 1000000)) = true → ∃ fuel, runF Try.prog spec_someArray.X spec_someArray.I 0 fuel 112 Try.f112 [.box [(.ints .u8 bs), (.int .i64 p)]] = some ([.agg [((.ints .i64 (sShV bs p)), true), ((.ints .i64 (sDaV bs p)), true)]], [[(.ints .u8 bs), (.int .i64 (sDaP bs p))]])) : CallSpec Try.prog spec_someArray.E :=
  callSpec_of (d := 0) hX (by kernel_rfl) spec_someArray.I_ok (by kernel_rfl) (by kernel_rfl) (by kernel_rfl) (fun _ _ _ _ h => by dsimp only [spec_someArray.E] at h; cases h) (fun xs hp => by
    dsimp only [spec_someArray.E] at hp ⊢
    split at hp
    · exact h _ _ hp
    · cases hp)
theorem spec_someArray.ok : CallSpec Try.prog spec_someArray.E := spec_someArray.ok_of (by simp [spec_someArray.X, spec_someShape.ok, spec_fill.ok]) fun bs p h => ⟨0, by
  simp only [Bool.and_eq_true, decide_eq_true_eq] at h
  have b := sShP_bd bs p
  have hs := sShV_ok h.1 (by omega)
  rw [spec_someArray.e, h.1, rd_le (q := sShP bs p) h.1 (by omega) (by omega), decide_eq_true (p := p ≤ 2000000) (by omega), decide_eq_true (p := sShP bs p ≤ 2000000) (by omega), hs]
  rfl⟩

namespace spec_anyShape
noncomputable def E : Entry := ⟨113, false, false, fun | [.box [(.ints .u8 bs), (.int .i64 p)]] => rdOk bs p && decide ((p : Int) ≤ 2000000) | _ => false, fun | [.box [(.ints .u8 bs), (.int .i64 p)]] => ([.one ((.ints .i64 (aShV bs p)), true)], [[(.ints .u8 bs), (.int .i64 (sShP bs p + 1))]]) | _ => ([], []), fun _ => [], false, fun _ => none⟩
end spec_anyShape
namespace spec_anyShape
noncomputable def X : List Entry := [spec_someShape.E, spec_reader_pick.E]
noncomputable def I : List Inl := [⟨113, Try.f113, ⟨[5], [], [], [], [], []⟩⟩]
theorem I_ok : ∀ i ∈ I, Try.prog.funcs[i.f]? = some i.fn ∧ (i.fn.name == "runtime.NumGoroutine") = false := by
  intro i hi
  simp only [I, List.mem_cons, List.not_mem_nil, or_false] at hi
  subst hi
  exact ⟨by kernel_rfl, by kernel_rfl⟩
theorem e (fuel : Nat) (p0q0 : List Int) (p0q1 : Int) : runF Try.prog X I 0 fuel 113 Try.f113 [.box [(.ints .u8 p0q0), (.int .i64 p0q1)]] =
  (bif rdOk p0q0 p0q1 && decide ((p0q1 : Int) ≤ 2000000) then
  (bif rdOk p0q0 ((sShP p0q0 p0q1)) && decide ((24 : Int) ≤ 1048576) then
  (bif (((pickV p0q0 ((sShP p0q0 p0q1)) 24) : Int) == 0) then
  (bif fits ((sShV p0q0 p0q1).length + ([61] : List Int).length) 8 then
  some ([.one ((.ints .i64 ((sShV p0q0 p0q1) ++ [61])), true)], [[(.ints .u8 p0q0), (.int .i64 (((sShP p0q0 p0q1)) + 1))]])
  else
  none)
  else
  (bif (((pickV p0q0 ((sShP p0q0 p0q1)) 24) : Int) == 1) then
  some ([.one ((.ints .i64 [4, 4, 4]), true)], [[(.ints .u8 p0q0), (.int .i64 (((sShP p0q0 p0q1)) + 1))]])
  else
  (bif (((pickV p0q0 ((sShP p0q0 p0q1)) 24) : Int) == 2) then
  some ([.one ((.ints .i64 [1, 1, 1, 1]), true)], [[(.ints .u8 p0q0), (.int .i64 (((sShP p0q0 p0q1)) + 1))]])
  else
  (bif (((pickV p0q0 ((sShP p0q0 p0q1)) 24) : Int) == 3) then
  (bif fits ((sShV p0q0 p0q1).length + ([(-1)] : List Int).length) 8 then
  some ([.one ((.ints .i64 ((sShV p0q0 p0q1) ++ [(-1)])), true)], [[(.ints .u8 p0q0), (.int .i64 (((sShP p0q0 p0q1)) + 1))]])
  else
  none)
  else
  some ([.one ((.ints .i64 (sShV p0q0 p0q1)), true)], [[(.ints .u8 p0q0), (.int .i64 (((sShP p0q0 p0q1)) + 1))]])))))
  else
  none)
  else
  none) := by kernel_rfl
end spec_anyShape
theorem spec_anyShape.ok_of (hX : ∀ E ∈ spec_anyShape.X, CallSpec Try.prog E) (h : ∀ (bs : List Int) (p : Int), (rdOk bs p && decide ((p : Int) ≤ 2000000)) = true → ∃ fuel, runF Try.prog spec_anyShape.X spec_anyShape.I 0 fuel 113 Try.f113 [.box [(.ints .u8 bs), (.int .i64 p)]] = some ([.one ((.ints .i64 (aShV bs p)), true)], [[(.ints .u8 bs), (.int .i64 (sShP bs p + 1))]])) : CallSpec Try.prog spec_anyShape.E :=
  callSpec_of (d := 0) hX (by kernel_rfl) spec_anyShape.I_ok (by kernel_rfl) (by kernel_rfl) (by kernel_rfl) (fun _ _ _ _ h => by dsimp only [spec_anyShape.E] at h; cases h) (fun xs hp => by
    dsimp only [spec_anyShape.E] at hp ⊢
    split at hp
    · exact h _ _ hp
    · cases hp)
theorem spec_anyShape.ok : CallSpec Try.prog spec_anyShape.E := spec_anyShape.ok_of (by simp [spec_anyShape.X, spec_someShape.ok, spec_reader_pick.ok]) fun bs p h => ⟨0, by
  have h' := h
  simp only [Bool.and_eq_true, decide_eq_true_eq] at h'
  have b := sShP_bd bs p
  have r1 := rd_le (q := sShP bs p) h'.1 (by omega) (by omega)
  have l := (validS_inv (sShV_ok h'.1 h'.2)).1
  rw [spec_anyShape.e, h, r1, fitsOk (by simp; omega), fitsOk (by simp; omega)]
  unfold aShV
  cases pickV bs (sShP bs p) 24 == 0 <;> cases pickV bs (sShP bs p) 24 == 1 <;> cases pickV bs (sShP bs p) 24 == 2 <;> cases pickV bs (sShP bs p) 24 == 3 <;> rfl⟩

namespace spec_reader_spoil
noncomputable def E : Entry := ⟨114, false, false, fun | [.box [(.ints .u8 bs), (.int .i64 p)], .d (.ints .i64 xs), .d (.int .i64 n)] => rdOk bs p && decide ((p : Int) ≤ 2000000) && decide ((xs : List Int).length ≤ 1000000) | _ => false, fun | [.box [(.ints .u8 bs), (.int .i64 p)], .d (.ints .i64 xs), .d (.int .i64 n)] => ([.one ((.ints .i64 (spV bs p xs n)), false)], [[(.ints .u8 bs), (.int .i64 (spP bs p xs))]]) | _ => ([], []), fun _ => [], false, fun _ => none⟩
end spec_reader_spoil
namespace spec_reader_spoil
noncomputable def X : List Entry := [spec_copyInts.E, spec_reader_pick.E, spec_reader_one.E]
noncomputable def I : List Inl := [⟨114, Try.f114, ⟨[9], [], [(7, [7]), (11, [7])], [], [37], []⟩⟩]
theorem I_ok : ∀ i ∈ I, Try.prog.funcs[i.f]? = some i.fn ∧ (i.fn.name == "runtime.NumGoroutine") = false := by
  intro i hi
  simp only [I, List.mem_cons, List.not_mem_nil, or_false] at hi
  subst hi
  exact ⟨by kernel_rfl, by kernel_rfl⟩
theorem e (fuel : Nat) (p0q0 : List Int) (p0q1 : Int) (p1 : List Int) (p2 : Int) : runF Try.prog X I 0 fuel 114 Try.f114 [.box [(.ints .u8 p0q0), (.int .i64 p0q1)], .d (.ints .i64 p1), .d (.int .i64 p2)] =
  (bif szB p1 then
  (bif rdOk p0q0 p0q1 && decide ((20 : Int) ≤ 1048576) then
  (bif (((pickV p0q0 p0q1 20) : Int) == 0) then
  (bif fits (p1.length + ([p2] : List Int).length) 8 then
  some ([.one ((.ints .i64 (p1 ++ [p2])), false)], [[(.ints .u8 p0q0), (.int .i64 (p0q1 + 1))]])
  else
  none)
  else
  (bif (((pickV p0q0 p0q1 20) : Int) == 1) then
  (bif (decide ((((p1.length : Nat) : Int) : Int) > 0)) then
  (cutEnds p1.length (some (.imm (.int .i64 1))) (none)).bind fun cq1 =>
  some ([.one ((.ints .i64 ((p1.drop cq1.1).take (cq1.2 - cq1.1))), false)], [[(.ints .u8 p0q0), (.int .i64 (p0q1 + 1))]])
  else
  some ([.one ((.ints .i64 p1), false)], [[(.ints .u8 p0q0), (.int .i64 (p0q1 + 1))]]))
  else
  (bif (((pickV p0q0 p0q1 20) : Int) == 2) then
  (bif (decide ((((p1.length : Nat) : Int) : Int) > 0)) then
  (bif rdOk p0q0 ((p0q1 + 1)) && decide (((((p1.length : Nat) : Int)) : Int) ≤ 1048576) then
  (bif rdOk p0q0 ((((p0q1 + 1)) + 1)) && decide (0 < ((([(-1), p2, 0, 1] : List Int)) : List Int).length) && decide (((([(-1), p2, 0, 1] : List Int)) : List Int).length ≤ 1048576) then
  (idx (pickV p0q0 ((p0q1 + 1)) (((p1.length : Nat) : Int))) p1.length).bind fun j2 =>
  (bif decide (j2 < p1.length) then
  some ([.one ((.ints .i64 (p1.set j2 (oneV p0q0 ((((p0q1 + 1)) + 1)) (([(-1), p2, 0, 1] : List Int))))), false)], [[(.ints .u8 p0q0), (.int .i64 (((((p0q1 + 1)) + 1)) + 1))]])
  else
  none)
  else
  none)
  else
  none)
  else
  some ([.one ((.ints .i64 p1), false)], [[(.ints .u8 p0q0), (.int .i64 (p0q1 + 1))]]))
  else
  some ([.one ((.ints .i64 p1), false)], [[(.ints .u8 p0q0), (.int .i64 (p0q1 + 1))]]))))
  else
  none)
  else
  none) := by kernel_rfl
end spec_reader_spoil
theorem spec_reader_spoil.ok_of (hX : ∀ E ∈ spec_reader_spoil.X, CallSpec Try.prog E) (h : ∀ (bs : List Int) (p : Int) (xs : List Int) (n : Int), (rdOk bs p && decide ((p : Int) ≤ 2000000) && decide ((xs : List Int).length ≤ 1000000)) = true → ∃ fuel, runF Try.prog spec_reader_spoil.X spec_reader_spoil.I 0 fuel 114 Try.f114 [.box [(.ints .u8 bs), (.int .i64 p)], .d (.ints .i64 xs), .d (.int .i64 n)] = some ([.one ((.ints .i64 (spV bs p xs n)), false)], [[(.ints .u8 bs), (.int .i64 (spP bs p xs))]])) : CallSpec Try.prog spec_reader_spoil.E :=
  callSpec_of (d := 0) hX (by kernel_rfl) spec_reader_spoil.I_ok (by kernel_rfl) (by kernel_rfl) (by kernel_rfl) (fun _ _ _ _ h => by dsimp only [spec_reader_spoil.E] at h; cases h) (fun xs hp => by
    dsimp only [spec_reader_spoil.E] at hp ⊢
    split at hp
    · exact h _ _ _ _ hp
    · cases hp)
theorem spec_reader_spoil.ok : CallSpec Try.prog spec_reader_spoil.E := spec_reader_spoil.ok_of (by simp [spec_reader_spoil.X, spec_copyInts.ok, spec_reader_pick.ok, spec_reader_one.ok]) fun bs p xs n h => ⟨0, by
  simp only [Bool.and_eq_true, decide_eq_true_eq] at h
  obtain ⟨⟨h1, h2⟩, h3⟩ := h
  have r1 := rd_le (q := p + 1) h1 (by omega) (by omega)
  have r2 := rd_le (q := p + 1 + 1) h1 (by omega) (by omega)
  rw [spec_reader_spoil.e, szB_of (by omega), h1]
  unfold spV spP
  simp only [Bool.true_and, cond_true]
  rw [decide_eq_true (p := (20 : Int) ≤ 1048576) (by omega), cond_true]
  cases pickV bs p 20 == 0 with
  | true => rw [fitsOk (by simp only [List.length_cons, List.length_nil]; omega)]; rfl
  | false =>
    cases pickV bs p 20 == 1 with
    | true =>
      simp only [cond_true, cond_false]
      by_cases h0 : xs.length = 0
      · have e := List.length_eq_zero_iff.mp h0
        subst e
        rfl
      · rw [decide_eq_true (p := ((xs.length : Nat) : Int) > 0) (by omega), cond_true, cut_one (by omega)]
        simp only [Option.bind_some]
        rw [drop_take]
    | false =>
      cases pickV bs p 20 == 2 with
      | false => rfl
      | true =>
        simp only [cond_true, cond_false]
        by_cases h0 : xs.length = 0
        · have e := List.length_eq_zero_iff.mp h0
          subst e
          rfl
        · have pb := pick_bd (n := ((xs.length : Nat) : Int)) r1 (by omega)
          have hi : idx (pickV bs (p + 1) ((xs.length : Nat) : Int)) xs.length = some (pickV bs (p + 1) ((xs.length : Nat) : Int)).toNat := by
            simp only [idx]
            rw [if_pos (by omega)]
          rw [decide_eq_true (p := ((xs.length : Nat) : Int) > 0) (by omega), cond_true, r1, r2, decide_eq_true (p := ((xs.length : Nat) : Int) ≤ 1048576) (by omega), hi, decide_eq_true (p := 0 < xs.length) (by omega)]
          simp only [Bool.true_and, cond_true, Option.bind_some]
          rw [decide_eq_true (p := (pickV bs (p + 1) ((xs.length : Nat) : Int)).toNat < xs.length) (by omega)]
          rfl⟩

namespace spec_anyArray
noncomputable def E : Entry := ⟨91, false, false, fun | [.box [(.ints .u8 bs), (.int .i64 p)]] => rdOk bs p && decide ((p : Int) ≤ 1000000) | _ => false, fun | [.box [(.ints .u8 bs), (.int .i64 p)]] => ([.agg [((.ints .i64 (aArS bs p)), false), ((.ints .i64 (aArD bs p)), false)]], [[(.ints .u8 bs), (.int .i64 (aArP bs p))]]) | _ => ([], []), fun _ => [], false, fun _ => none⟩
end spec_anyArray
namespace spec_anyArray
noncomputable def X : List Entry := [spec_someArray.E, spec_reader_pick.E, spec_anyShape.E, spec_reader_spoil.E]
noncomputable def I : List Inl := [⟨91, Try.f91, ⟨[5, 11, 20], [], [(7, [3, 3]), (3000020, [19])], [], [], [20]⟩⟩]
theorem I_ok : ∀ i ∈ I, Try.prog.funcs[i.f]? = some i.fn ∧ (i.fn.name == "runtime.NumGoroutine") = false := by
  intro i hi
  simp only [I, List.mem_cons, List.not_mem_nil, or_false] at hi
  subst hi
  exact ⟨by kernel_rfl, by kernel_rfl⟩
theorem e (fuel : Nat) (p0q0 : List Int) (p0q1 : Int) : runF Try.prog X I 0 fuel 91 Try.f91 [.box [(.ints .u8 p0q0), (.int .i64 p0q1)]] =
  (bif rdOk p0q0 p0q1 && decide ((p0q1 : Int) ≤ 1000000) then
  (bif rdOk p0q0 ((sDaP p0q0 p0q1)) && decide ((30 : Int) ≤ 1048576) then
  (bif (((pickV p0q0 ((sDaP p0q0 p0q1)) 30) : Int) == 0) then
  (bif rdOk p0q0 ((((sDaP p0q0 p0q1)) + 1)) && decide ((((((sDaP p0q0 p0q1)) + 1)) : Int) ≤ 2000000) then
  some ([.agg [((.ints .i64 (aShV p0q0 ((((sDaP p0q0 p0q1)) + 1)))), false), ((.ints .i64 (sDaV p0q0 p0q1)), false)]], [[(.ints .u8 p0q0), (.int .i64 (sShP p0q0 ((((sDaP p0q0 p0q1)) + 1)) + 1))]])
  else
  none)
  else
  (bif (((pickV p0q0 ((sDaP p0q0 p0q1)) 30) : Int) == 1) then
  (bif fits ((sDaV p0q0 p0q1).length + ([5] : List Int).length) 8 then
  (bif rdOk p0q0 ((((sDaP p0q0 p0q1)) + 1)) && decide ((((((sDaP p0q0 p0q1)) + 1)) : Int) ≤ 2000000) && decide (((((sDaV p0q0 p0q1) ++ [5])) : List Int).length ≤ 1000000) then
  some ([.agg [((.ints .i64 (sShV p0q0 p0q1)), false), ((.ints .i64 (spV p0q0 ((((sDaP p0q0 p0q1)) + 1)) (((sDaV p0q0 p0q1) ++ [5])) 1000001)), false)]], [[(.ints .u8 p0q0), (.int .i64 (spP p0q0 ((((sDaP p0q0 p0q1)) + 1)) (((sDaV p0q0 p0q1) ++ [5]))))]])
  else
  none)
  else
  none)
  else
  some ([.agg [((.ints .i64 (sShV p0q0 p0q1)), false), ((.ints .i64 (sDaV p0q0 p0q1)), false)]], [[(.ints .u8 p0q0), (.int .i64 (((sDaP p0q0 p0q1)) + 1))]])))
  else
  none)
  else
  none) := by kernel_rfl
end spec_anyArray
theorem spec_anyArray.ok_of (hX : ∀ E ∈ spec_anyArray.X, CallSpec Try.prog E) (h : ∀ (bs : List Int) (p : Int), (rdOk bs p && decide ((p : Int) ≤ 1000000)) = true → ∃ fuel, runF Try.prog spec_anyArray.X spec_anyArray.I 0 fuel 91 Try.f91 [.box [(.ints .u8 bs), (.int .i64 p)]] = some ([.agg [((.ints .i64 (aArS bs p)), false), ((.ints .i64 (aArD bs p)), false)]], [[(.ints .u8 bs), (.int .i64 (aArP bs p))]])) : CallSpec Try.prog spec_anyArray.E :=
  callSpec_of (d := 0) hX (by kernel_rfl) spec_anyArray.I_ok (by kernel_rfl) (by kernel_rfl) (by kernel_rfl) (fun _ _ _ _ h => by dsimp only [spec_anyArray.E] at h; cases h) (fun xs hp => by
    dsimp only [spec_anyArray.E] at hp ⊢
    split at hp
    · exact h _ _ hp
    · cases hp)
theorem spec_anyArray.ok : CallSpec Try.prog spec_anyArray.E := spec_anyArray.ok_of (by simp [spec_anyArray.X, spec_someArray.ok, spec_reader_pick.ok, spec_anyShape.ok, spec_reader_spoil.ok]) fun bs p h => ⟨0, by
  simp only [Bool.and_eq_true, decide_eq_true_eq] at h
  obtain ⟨h1, h2, h3⟩ := sDa_bd h.1 (by omega)
  have r1 := rd_le (q := sDaP bs p) h.1 (by omega) (by omega)
  have r2 := rd_le (q := sDaP bs p + 1) h.1 (by omega) (by omega)
  have hz : (sDaV bs p ++ [5]).length ≤ 1000000 := by rw [List.length_append]; simp; omega
  rw [spec_anyArray.e, h.1, r1, r2, decide_eq_true (p := p ≤ 1000000) h.2, decide_eq_true (p := (30 : Int) ≤ 1048576) (by omega), decide_eq_true (p := sDaP bs p + 1 ≤ 2000000) (by omega), fitsOk (by simp only [List.length_cons, List.length_nil]; omega), decide_eq_true hz]
  unfold aArS aArD aArP
  cases pickV bs (sDaP bs p) 30 == 0 with
  | true => rfl
  | false =>
    cases pickV bs (sDaP bs p) 30 == 1 with
    | true => rfl
    | false => rfl⟩

namespace spec_anySquare
noncomputable def E : Entry := ⟨65, false, false, fun | [.box [(.ints .u8 bs), (.int .i64 p)]] => rdOk bs p && decide ((p : Int) ≤ 900000) | _ => false, fun | [.box [(.ints .u8 bs), (.int .i64 p)]] => ([.agg [((.ints .i64 (asS bs p)), false), ((.ints .i64 (asD bs p)), false)]], [[(.ints .u8 bs), (.int .i64 (asP bs p))]]) | _ => ([], []), fun _ => [], false, fun _ => none⟩
end spec_anySquare
namespace spec_anySquare
noncomputable def X : List Entry := [spec_reader_one.E, spec_make1.E, spec_reader_pick.E, spec_anyArray.E]
noncomputable def I : List Inl := [⟨65, Try.f65, ⟨[28, 34], [(1000004, [1, 6, 7, 8, 9, 10, 11, 12, 13, 14, 15, 16, 17, 18, 19, 20, 21, 22, 23, 24, 25, 26, 27, 28, 29, 30, 31, 32, 33, 34, 35, 36, 37, 38, 39, 40, 41, 42, 43, 44])], [(14, [6, 6])], [], [8, 20, 26], []⟩⟩]
theorem I_ok : ∀ i ∈ I, Try.prog.funcs[i.f]? = some i.fn ∧ (i.fn.name == "runtime.NumGoroutine") = false := by
  intro i hi
  simp only [I, List.mem_cons, List.not_mem_nil, or_false] at hi
  subst hi
  exact ⟨by kernel_rfl, by kernel_rfl⟩
noncomputable abbrev L0 (fuel n : Nat) (s : St) (k : Kont) := lAt Try.prog X I fuel false 0 false 65 (bodyOf Try.f65) [1, 1, 1, 0, 1, 0] n s k
noncomputable abbrev k0  (fuel : Nat) : Kont := (kAt Try.prog X I fuel false 0 false 65 (bodyOf Try.f65) [1, 1, 1, 0, 1, 0] [] (endK Try.prog Try.f65))
noncomputable def t0 (p0q0 : List Int) (p0q1 : Int) (x0q1 : Int) (x0q3 : Int) (x0q4 : List Int) : St := ⟨[(.ptr 1000000000 0 0), .dead, (.ptr 1000000001 0 0), (.imm (.int .i64 (oneV p0q0 p0q1 (([2, 3, 1, 4, 0] : List Int))))), (.all 1000000002 1), (.imm (.int .i64 x0q1)), .dead, .dead, .dead, .dead, .dead, .dead, .dead, .dead, .dead, .dead, .dead, .dead, .dead, .dead, .dead, .dead, .dead, .dead, .dead, .dead, .dead, .dead, .dead, .dead, .dead, .dead, .dead, .dead, .dead, .dead, .dead, .dead, .dead, .dead, .dead, .dead, .dead, .dead, .dead], hOf [(1000000000, (.box [(.imm (.ints .u8 p0q0)), (.imm (.int .i64 x0q3))])), (1000000001, (.box [(.imm .nils), (.imm .nils)])), (1000000002, (.ints .i64 x0q4))], [(.ptr 1000000000 0 0)], []⟩
theorem e (fuel : Nat) (p0q0 : List Int) (p0q1 : Int) : runF Try.prog X I 0 fuel 65 Try.f65 [.box [(.ints .u8 p0q0), (.int .i64 p0q1)]] =
  (bif rdOk p0q0 p0q1 && decide (0 < ((([2, 3, 1, 4, 0] : List Int)) : List Int).length) && decide (((([2, 3, 1, 4, 0] : List Int)) : List Int).length ≤ 1048576) then
  L0 fuel fuel (t0 p0q0 p0q1 0 ((p0q1 + 1)) ([])) (k0  fuel)
  else
  none) := by kernel_rfl
theorem s0 (fuel n0 : Nat) (p0q0 : List Int) (p0q1 : Int) (x0q1 : Int) (x0q3 : Int) (x0q4 : List Int) : L0 fuel (n0 + 1) (t0 p0q0 p0q1 x0q1 x0q3 x0q4) (k0  fuel) =
  (bif (decide ((x0q1 : Int) < (IntKind.wrap .i64 ((oneV p0q0 p0q1 (([2, 3, 1, 4, 0] : List Int))) * (oneV p0q0 p0q1 (([2, 3, 1, 4, 0] : List Int))))))) then
  (bif rdOk p0q0 x0q3 && decide (0 < ((([0, 1, 2, (-1), 3, 100, (-100), 5] : List Int)) : List Int).length) && decide (((([0, 1, 2, (-1), 3, 100, (-100), 5] : List Int)) : List Int).length ≤ 1048576) then
  (bif fits (x0q4.length + ([(oneV p0q0 x0q3 (([0, 1, 2, (-1), 3, 100, (-100), 5] : List Int)))] : List Int).length) 8 then
  L0 fuel n0 (t0 p0q0 p0q1 ((IntKind.wrap .i64 (x0q1 + 1))) ((x0q3 + 1)) ((x0q4 ++ [(oneV p0q0 x0q3 (([0, 1, 2, (-1), 3, 100, (-100), 5] : List Int)))]))) (k0  fuel)
  else
  none)
  else
  none)
  else
  (bif szB (([(oneV p0q0 p0q1 (([2, 3, 1, 4, 0] : List Int))), (oneV p0q0 p0q1 (([2, 3, 1, 4, 0] : List Int)))] : List Int)) && szB x0q4 then
  (bif rdOk p0q0 x0q3 && decide ((16 : Int) ≤ 1048576) then
  (bif (((pickV p0q0 x0q3 16) : Int) == 0) then
  (bif rdOk p0q0 ((x0q3 + 1)) && decide ((((x0q3 + 1)) : Int) ≤ 1000000) then
  some ([.agg [((.ints .i64 (aArS p0q0 ((x0q3 + 1)))), false), ((.ints .i64 (aArD p0q0 ((x0q3 + 1)))), false)]], [[(.ints .u8 p0q0), (.int .i64 (aArP p0q0 ((x0q3 + 1))))]])
  else
  none)
  else
  (bif (((pickV p0q0 x0q3 16) : Int) == 1) then
  (bif (decide ((((x0q4.length : Nat) : Int) : Int) > 0)) then
  (idx 0 x0q4.length).bind fun j3 =>
  (bif decide (j3 < x0q4.length) then
  some ([.agg [((.ints .i64 (([(oneV p0q0 p0q1 (([2, 3, 1, 4, 0] : List Int))), (oneV p0q0 p0q1 (([2, 3, 1, 4, 0] : List Int)))] : List Int))), false), ((.ints .i64 (x0q4.set j3 101)), false)]], [[(.ints .u8 p0q0), (.int .i64 (x0q3 + 1))]])
  else
  none)
  else
  some ([.agg [((.ints .i64 (([(oneV p0q0 p0q1 (([2, 3, 1, 4, 0] : List Int))), (oneV p0q0 p0q1 (([2, 3, 1, 4, 0] : List Int)))] : List Int))), false), ((.ints .i64 x0q4), false)]], [[(.ints .u8 p0q0), (.int .i64 (x0q3 + 1))]]))
  else
  some ([.agg [((.ints .i64 (([(oneV p0q0 p0q1 (([2, 3, 1, 4, 0] : List Int))), (oneV p0q0 p0q1 (([2, 3, 1, 4, 0] : List Int)))] : List Int))), false), ((.ints .i64 x0q4), false)]], [[(.ints .u8 p0q0), (.int .i64 (x0q3 + 1))]])))
  else
  none)
  else
  none)) := by kernel_rfl
end spec_anySquare
theorem spec_anySquare.ok_of (hX : ∀ E ∈ spec_anySquare.X, CallSpec Try.prog E) (h : ∀ (bs : List Int) (p : Int), (rdOk bs p && decide ((p : Int) ≤ 900000)) = true → ∃ fuel, runF Try.prog spec_anySquare.X spec_anySquare.I 0 fuel 65 Try.f65 [.box [(.ints .u8 bs), (.int .i64 p)]] = some ([.agg [((.ints .i64 (asS bs p)), false), ((.ints .i64 (asD bs p)), false)]], [[(.ints .u8 bs), (.int .i64 (asP bs p))]])) : CallSpec Try.prog spec_anySquare.E :=
  callSpec_of (d := 0) hX (by kernel_rfl) spec_anySquare.I_ok (by kernel_rfl) (by kernel_rfl) (by kernel_rfl) (fun _ _ _ _ h => by dsimp only [spec_anySquare.E] at h; cases h) (fun xs hp => by
    dsimp only [spec_anySquare.E] at hp ⊢
    split at hp
    · exact h _ _ hp
    · cases hp)
theorem spec_anySquare.ok : CallSpec Try.prog spec_anySquare.E := spec_anySquare.ok_of (by simp [spec_anySquare.X, spec_reader_one.ok, spec_make1.ok, spec_reader_pick.ok, spec_anyArray.ok]) fun bs p h => by
  obtain ⟨F, hF⟩ : ∃ F : Nat, 1000 < F := ⟨1001, by omega⟩
  refine ⟨F, ?_⟩
  simp only [Bool.and_eq_true, decide_eq_true_eq] at h
  obtain ⟨n1, n2⟩ := asN_bd h.1
  have h4 := sq4 n1
  have hp := (rdOk_inv h.1).1
  have hq : asQ bs p = p + 1 + ((asN bs p * asN bs p : Nat) : Int) := rfl
  have hlen : (as0 bs p).length = asN bs p * asN bs p := tab_length _ _
  have n3 : oneV bs p ([2, 3, 1, 4, 0] : List Int) = ((asN bs p : Nat) : Int) := n2
  rw [spec_anySquare.e, h.1]
  show spec_anySquare.L0 F F _ _ = _
  refine run_loop (N := asN bs p * asN bs p) (fun n j (st : Int × List Int) => spec_anySquare.L0 F n (spec_anySquare.t0 bs p (j : Int) st.1 st.2) (spec_anySquare.k0 F)) (fun j st => st.1 = p + 1 + ((j : Nat) : Int) ∧ st.2 = (as0 bs p).take j) ?_ ?_ F 0 (p + 1, []) (by omega) (by omega) ⟨by simp, by simp⟩
  · rintro n ⟨q, out⟩ ⟨e1, e2⟩
    simp only at e1 e2
    rw [← hlen, List.take_length] at e2
    rw [← hq] at e1
    subst e1
    subst e2
    have r1 := rd_le (q := asQ bs p) h.1 (by omega) (by omega)
    have r2 := rd_le (q := asQ bs p + 1) h.1 (by omega) (by omega)
    dsimp only
    rw [spec_anySquare.s0, n3, wMul (by omega), dge (by omega), cond_false, szB_of (by simp), szB_of (by omega), r1, r2, decide_eq_true (p := asQ bs p + 1 ≤ 1000000) (by omega)]
    unfold asS asD asP
    cases hc : asC bs p with
    | true =>
      have hc' : (((pickV bs (asQ bs p) 16) : Int) == 0) = true := hc
      rw [hc']
      rfl
    | false =>
      have hc' : (((pickV bs (asQ bs p) 16) : Int) == 0) = false := hc
      rw [hc']
      cases h1 : (((pickV bs (asQ bs p) 16) : Int) == 1) with
      | false => rfl
      | true =>
        by_cases h0 : 0 < (as0 bs p).length
        · rw [decide_eq_true (p := (((as0 bs p).length : Nat) : Int) > 0) (by omega), show idx 0 (as0 bs p).length = some 0 from idx_nat (j := 0) h0, hlen]
          simp only [Option.bind_some]
          rw [decide_eq_true (p := 0 < asN bs p * asN bs p) (by omega)]
          rfl
        · rw [decide_eq_false (p := (((as0 bs p).length : Nat) : Int) > 0) (by omega)]
          have e0 : as0 bs p = [] := List.eq_nil_of_length_eq_zero (by omega)
          rw [e0]
          rfl
  · rintro n j ⟨q, out⟩ hj ⟨e1, e2⟩
    simp only at e1 e2
    subst e1
    have hol : out.length = j := by rw [e2, take_len (by omega)]
    have r2 := rd_le (q := p + 1 + ((j : Nat) : Int)) h.1 (by omega) (by omega)
    dsimp only
    rw [spec_anySquare.s0, n3, wMul (by omega), dlt hj, cond_true, r2]
    show ∃ s', _ ∧ (bif fits _ 8 then _ else none) = _
    rw [fitsOk (by simp only [List.length_cons, List.length_nil]; omega), cond_true]
    refine ⟨(p + 1 + ((j + 1 : Nat) : Int), out ++ [oneV bs (p + 1 + ((j : Nat) : Int)) sqL]), ⟨rfl, ?_⟩, ?_⟩
    · simp only
      rw [e2]
      refine take_push (by omega) ?_
      simp only [as0]
      rw [tab_getD hj]
    · dsimp only
      rw [w1 (by omega), show p + 1 + ((j + 1 : Nat) : Int) = p + 1 + ((j : Nat) : Int) + 1 by omega]
      rfl

namespace spec_DrawTraceOf
noncomputable def E : Entry := ⟨29, false, false, fun | [.d (.ints .u8 bs)] => bytesB bs | _ => false, fun | [.d (.ints .u8 bs)] => ([.agg [((.ints .i64 (asS (cutC bs) 0)), false), ((.ints .i64 (asD (cutC bs) 0)), false)]], []) | _ => ([], []), fun _ => [], true, fun _ => none⟩
end spec_DrawTraceOf
namespace spec_DrawTraceOf
noncomputable def X : List Entry := [spec_newReader.E, spec_anySquare.E]
noncomputable def I : List Inl := [⟨29, Try.f29, ⟨[5], [], [], [], [], []⟩⟩]
theorem I_ok : ∀ i ∈ I, Try.prog.funcs[i.f]? = some i.fn ∧ (i.fn.name == "runtime.NumGoroutine") = false := by
  intro i hi
  simp only [I, List.mem_cons, List.not_mem_nil, or_false] at hi
  subst hi
  exact ⟨by kernel_rfl, by kernel_rfl⟩
theorem e (fuel : Nat) (p0 : List Int) : runF Try.prog X I 0 fuel 29 Try.f29 [.d (.ints .u8 p0)] =
  (bif rdOk ((cutC p0)) 0 && decide ((0 : Int) ≤ 900000) then
  some ([.agg [((.ints .i64 (asS ((cutC p0)) 0)), false), ((.ints .i64 (asD ((cutC p0)) 0)), false)]], [])
  else
  none) := by kernel_rfl
end spec_DrawTraceOf
theorem spec_DrawTraceOf.ok_of (hX : ∀ E ∈ spec_DrawTraceOf.X, CallSpec Try.prog E) (h : ∀ (bs : List Int), (bytesB bs) = true → ∃ fuel, runF Try.prog spec_DrawTraceOf.X spec_DrawTraceOf.I 0 fuel 29 Try.f29 [.d (.ints .u8 bs)] = some ([.agg [((.ints .i64 (asS (cutC bs) 0)), false), ((.ints .i64 (asD (cutC bs) 0)), false)]], [])) : CallSpec Try.prog spec_DrawTraceOf.E :=
  callSpec_of (d := 0) hX (by kernel_rfl) spec_DrawTraceOf.I_ok (by kernel_rfl) (by kernel_rfl) (by kernel_rfl) (fun _ _ _ _ h => by dsimp only [spec_DrawTraceOf.E] at h; cases h) (fun xs hp => by
    dsimp only [spec_DrawTraceOf.E] at hp ⊢
    split at hp
    · exact h _ hp
    · cases hp)
theorem spec_DrawTraceOf.ok : CallSpec Try.prog spec_DrawTraceOf.E := spec_DrawTraceOf.ok_of (by simp [spec_DrawTraceOf.X, spec_newReader.ok, spec_anySquare.ok]) fun bs h => ⟨0, by
  have r0 := cut_ok h (p := 0) (by omega) (by omega)
  rw [spec_DrawTraceOf.e, r0]
  rfl⟩

namespace impl_absolute
noncomputable def E : Entry := ⟨76, true, false, fun | [.d (.int .i64 n)] => true | _ => false, fun | [.d (.int .i64 n)] => ([.one ((.int .i64 (absV n)), false)], []) | _ => ([], []), fun _ => [], false, fun _ => none⟩
end impl_absolute
namespace impl_absolute
noncomputable def X : List Entry := []
noncomputable def I : List Inl := [⟨76, Try.f76, ⟨[], [], [], [], [], []⟩⟩]
theorem I_ok : ∀ i ∈ I, Try.prog.funcs[i.f]? = some i.fn ∧ (i.fn.name == "runtime.NumGoroutine") = false := by
  intro i hi
  simp only [I, List.mem_cons, List.not_mem_nil, or_false] at hi
  subst hi
  exact ⟨by kernel_rfl, by kernel_rfl⟩
theorem e (fuel : Nat) (p0 : Int) : runF Try.prog X I 0 fuel 76 Try.f76 [.d (.int .i64 p0)] =
  some ([.one ((.int .i64 (maxI p0 (IntKind.wrap .i64 (0 - p0)))), false)], []) := by kernel_rfl
end impl_absolute
theorem impl_absolute.ok_of (hX : ∀ E ∈ impl_absolute.X, CallSpec Try.prog E) (h : ∀ (n : Int), (true) = true → ∃ fuel, runF Try.prog impl_absolute.X impl_absolute.I 0 fuel 76 Try.f76 [.d (.int .i64 n)] = some ([.one ((.int .i64 (absV n)), false)], [])) : CallSpec Try.prog impl_absolute.E :=
  callSpec_of (d := 0) hX (by kernel_rfl) impl_absolute.I_ok (by kernel_rfl) (by kernel_rfl) (by kernel_rfl) (fun _ _ _ _ h => by dsimp only [impl_absolute.E] at h; cases h) (fun xs hp => by
    dsimp only [impl_absolute.E] at hp ⊢
    split at hp
    · exact h _ hp
    · cases hp)
theorem impl_absolute.ok : CallSpec Try.prog impl_absolute.E := impl_absolute.ok_of (by simp [impl_absolute.X]) fun n _ => ⟨0, by rw [impl_absolute.e]; rfl⟩

namespace impl_isSquare_1
noncomputable def E : Entry := ⟨75, true, false, fun | [.d (.int .i64 n)] => true | _ => false, fun | [.d (.int .i64 n)] => ([.one ((.bool (decide (absV n > 100))), false)], []) | _ => ([], []), fun _ => [], false, fun _ => none⟩
end impl_isSquare_1
namespace impl_isSquare_1
noncomputable def X : List Entry := [impl_absolute.E]
noncomputable def I : List Inl := [⟨75, Try.f75, ⟨[], [], [], [], [], []⟩⟩]
theorem I_ok : ∀ i ∈ I, Try.prog.funcs[i.f]? = some i.fn ∧ (i.fn.name == "runtime.NumGoroutine") = false := by
  intro i hi
  simp only [I, List.mem_cons, List.not_mem_nil, or_false] at hi
  subst hi
  exact ⟨by kernel_rfl, by kernel_rfl⟩
theorem e (fuel : Nat) (p0 : Int) : runF Try.prog X I 0 fuel 75 Try.f75 [.d (.int .i64 p0)] =
  some ([.one ((.bool (decide (((absV p0) : Int) > 100))), false)], []) := by kernel_rfl
end impl_isSquare_1
theorem impl_isSquare_1.ok_of (hX : ∀ E ∈ impl_isSquare_1.X, CallSpec Try.prog E) (h : ∀ (n : Int), (true) = true → ∃ fuel, runF Try.prog impl_isSquare_1.X impl_isSquare_1.I 0 fuel 75 Try.f75 [.d (.int .i64 n)] = some ([.one ((.bool (decide (absV n > 100))), false)], [])) : CallSpec Try.prog impl_isSquare_1.E :=
  callSpec_of (d := 0) hX (by kernel_rfl) impl_isSquare_1.I_ok (by kernel_rfl) (by kernel_rfl) (by kernel_rfl) (fun _ _ _ _ h => by dsimp only [impl_isSquare_1.E] at h; cases h) (fun xs hp => by
    dsimp only [impl_isSquare_1.E] at hp ⊢
    split at hp
    · exact h _ hp
    · cases hp)
theorem impl_isSquare_1.ok : CallSpec Try.prog impl_isSquare_1.E := impl_isSquare_1.ok_of (by simp [impl_isSquare_1.X, impl_absolute.ok]) fun n h => ⟨0, by rw [impl_isSquare_1.e]⟩

namespace impl_isSquare
noncomputable def E : Entry := ⟨47, true, false, fun | [.d (.agg [(.ints .i64 sh), (.ints .i64 da)])] => decide (sh.length < 9223372036854775808) && decide (da.length < 9223372036854775808) | _ => false, fun | [.d (.agg [(.ints .i64 sh), (.ints .i64 da)])] => ([.one ((.bool (sqB sh da)), false)], []) | _ => ([], []), fun _ => [], false, fun _ => none⟩
end impl_isSquare
namespace impl_isSquare
noncomputable def X : List Entry := [impl_ValidArray.E, impl_isSquare_1.E]
noncomputable def I : List Inl := [⟨47, Try.f47, ⟨[], [(4, [0, 2, 4, 5, 6, 7, 8, 9, 10, 11, 12, 13, 14, 15, 16, 17, 18, 19, 20, 21, 22, 23, 24, 25, 26, 27, 28, 29, 30, 31, 32, 33, 34, 35])], [], [(1, [0, 1, 2, 3, 4, 5, 6, 7, 8, 9, 10, 14, 11, 12, 13, 15, 16, 17, 18, 19, 20, 21, 22, 23, 24, 25, 26])], [], []⟩⟩, ⟨77, Try.f77, ⟨[], [(1, [2, 3, 4, 5, 6, 7, 8])], [], [], [], []⟩⟩, ⟨98, Try.f98, ⟨[], [(1000002, [2, 3, 4, 5, 6, 9, 10, 11, 12, 13, 14, 15, 16, 17, 18])], [], [], [], []⟩⟩]
theorem I_ok : ∀ i ∈ I, Try.prog.funcs[i.f]? = some i.fn ∧ (i.fn.name == "runtime.NumGoroutine") = false := by
  intro i hi
  simp only [I, List.mem_cons, List.not_mem_nil, or_false] at hi
  rcases hi with rfl | rfl | rfl
  all_goals exact ⟨by kernel_rfl, by kernel_rfl⟩
noncomputable abbrev L0 (fuel n : Nat) (s : St) (k : Kont) := lAt Try.prog X I fuel true 2 false 98 (bodyOf Try.f98) [1, 0, 1, 0] n s k
noncomputable abbrev k0  (fuel : Nat) : Kont := (kAt Try.prog X I fuel true 2 false 98 (bodyOf Try.f98) [1, 0, 1, 0] [] (endFn Try.prog Try.f98 9 (kOp Try.prog X I fuel true 3 77 (cAt (bodyOf Try.f77) [1, 0]) 2 (kAt Try.prog X I fuel true 3 false 77 (bodyOf Try.f77) [1, 0] [] (endFn Try.prog Try.f77 36 (kOp Try.prog X I fuel true 4 47 (cAt (bodyOf Try.f47) [1, 1, 1, 0]) 3 (kAt Try.prog X I fuel true 4 false 47 (bodyOf Try.f47) [1, 1, 1, 0] [] (endK Try.prog Try.f47))))))))
noncomputable def t0 (p0q1 : List Int) (p0q0 : List Int) (x0q2 : Int) : St := ⟨[(.imm (.ints .i64 p0q1)), (.imm (.clo 75 [])), .dead, .dead, .dead, .dead, .dead, (.imm (.int .i64 ((p0q1.length : Nat) : Int))), (.imm (.int .i64 x0q2)), .dead, .dead, .dead, .dead, .dead, .dead, .dead, .dead, .dead, .dead], hOf [(1000000000, (.box [(.imm (.ints .i64 p0q0)), (.imm (.ints .i64 p0q1))]))], [(.imm (.ints .i64 p0q1)), (.imm (.clo 75 [])), .dead, .dead, .dead, (.imm (.ints .i64 p0q1)), (.imm (.clo 75 [])), .dead, .dead, (.tup []), .dead, (.ptr 1000000000 0 0), .dead, (.imm (.clo 75 [])), .dead, .dead, .dead, .dead, .dead, .dead, .dead, .dead, .dead, .dead, .dead, .dead, .dead, .dead, .dead, .dead, .dead, .dead, .dead, .dead, .dead, .dead, .dead, .dead, .dead, .dead, .dead, (.ptr 1000000000 0 1), (.imm (.ints .i64 p0q1)), (.imm (.clo 75 [])), .dead, .dead, (.tup [])], []⟩
theorem e (fuel : Nat) (p0q0 : List Int) (p0q1 : List Int) : runF Try.prog X I 4 fuel 47 Try.f47 [.d (.agg [(.ints .i64 p0q0), (.ints .i64 p0q1)])] =
  (bif decide (p0q0.length < 9223372036854775808) && decide (p0q1.length < 9223372036854775808) then
  (bif (!(validA p0q0 p0q1)) then
  some ([.one ((.bool false), false)], [])
  else
  (bif ((((p0q0.length : Nat) : Int) : Int) != 2) then
  some ([.one ((.bool false), false)], [])
  else
  (idx 0 p0q0.length).bind fun j1 =>
  (p0q0[j1]?).bind fun v2 =>
  (idx 1 p0q0.length).bind fun j3 =>
  (p0q0[j3]?).bind fun v4 =>
  (bif ((v2 : Int) != v4) then
  some ([.one ((.bool false), false)], [])
  else
  (idx 0 p0q0.length).bind fun j5 =>
  (p0q0[j5]?).bind fun v6 =>
  (bif (decide ((v6 : Int) > 4)) then
  some ([.one ((.bool false), false)], [])
  else
  L0 fuel fuel (t0 p0q1 p0q0 0) (k0  fuel)))))
  else
  none) := by kernel_rfl
theorem s0 (fuel n0 : Nat) (p0q1 : List Int) (p0q0 : List Int) (x0q2 : Int) : L0 fuel (n0 + 1) (t0 p0q1 p0q0 x0q2) (k0  fuel) =
  (bif (decide ((x0q2 : Int) < ((p0q1.length : Nat) : Int))) then
  (idx x0q2 p0q1.length).bind fun j11 =>
  (p0q1[j11]?).bind fun v12 =>
  (bif (decide (absV v12 > 100)) then
  some ([.one ((.bool (!(decide ((x0q2 : Int) ≥ 0)))), false)], [])
  else
  L0 fuel n0 (t0 p0q1 p0q0 ((IntKind.wrap .i64 (x0q2 + 1)))) (k0  fuel))
  else
  some ([.one ((.bool (!(decide (((-1) : Int) ≥ 0)))), false)], [])) := by kernel_rfl
end impl_isSquare
theorem impl_isSquare.ok_of (hX : ∀ E ∈ impl_isSquare.X, CallSpec Try.prog E) (h : ∀ (sh : List Int) (da : List Int), (decide (sh.length < 9223372036854775808) && decide (da.length < 9223372036854775808)) = true → ∃ fuel, runF Try.prog impl_isSquare.X impl_isSquare.I 4 fuel 47 Try.f47 [.d (.agg [(.ints .i64 sh), (.ints .i64 da)])] = some ([.one ((.bool (sqB sh da)), false)], [])) : CallSpec Try.prog impl_isSquare.E :=
  callSpec_of (d := 4) hX (by kernel_rfl) impl_isSquare.I_ok (by kernel_rfl) (by kernel_rfl) (by kernel_rfl) (fun _ _ _ _ h => by dsimp only [impl_isSquare.E] at h; cases h) (fun xs hp => by
    dsimp only [impl_isSquare.E] at hp ⊢
    split at hp
    · exact h _ _ hp
    · cases hp)
theorem impl_isSquare.ok : CallSpec Try.prog impl_isSquare.E := impl_isSquare.ok_of (by simp [impl_isSquare.X, impl_ValidArray.ok, impl_isSquare_1.ok]) fun sh da h => by
  obtain ⟨F, hF⟩ : ∃ F : Nat, da.length < F := ⟨da.length + 1, by omega⟩
  refine ⟨F, ?_⟩
  rw [impl_isSquare.e, h, cond_true]
  simp only [Bool.and_eq_true, decide_eq_true_eq] at h
  unfold sqB
  cases hv : validA sh da with
  | false => rfl
  | true =>
    by_cases hl : sh.length = 2
    · match sh, hl with
      | [a, b], _ =>
        have e1 : ((((([a, b] : List Int).length : Nat) : Int) : Int) != 2) = false := rfl
        have e2 : idx 0 ([a, b] : List Int).length = some 0 := rfl
        have e3 : idx 1 ([a, b] : List Int).length = some 1 := rfl
        have e4 : ([a, b] : List Int)[0]? = some a := rfl
        have e5 : ([a, b] : List Int)[1]? = some b := rfl
        have e6 : ([a, b] : List Int).getD 0 0 = a := rfl
        have e7 : ([a, b] : List Int).getD 1 0 = b := rfl
        rw [e1, e2, e3, e6, e7]
        simp only [cond_true, cond_false, Bool.not_true, Option.bind_some, e4, e5]
        by_cases hab : a = b
        · rw [show (a != b) = false by simp [hab], decide_eq_true hab]
          by_cases h4 : a ≤ 4
          · rw [decide_eq_false (by omega), decide_eq_true h4, cond_false, cond_false]
            have hn := allB_iff.1 (validA_inv hv).2.2
            have hh := h.2
            have e8 : (decide (([a, b] : List Int).length = 2)) = true := rfl
            rw [e8]
            simp only [Bool.and_self, Bool.true_and]
            refine cnt_loop (N := da.length) (fun n j (_ : Unit) => impl_isSquare.L0 F n (impl_isSquare.t0 da [a, b] (j : Int)) (impl_isSquare.k0 F)) (fun j _ => allB da (-100) 100 = allB (da.drop j) (-100) 100) ?_ ?_ F 0 () (by omega) (by omega) rfl
            · intro n _ hI
              rw [impl_isSquare.s0, dge (by omega), cond_false, hI, List.drop_length]
              rfl
            · intro n j _ hj hI
              have hx := hn (da.getD j 0) (by rw [← gEd hj]; exact List.getElem_mem _)
              rw [impl_isSquare.s0, dlt hj, cond_true, idx_nat hj, w1 (by omega)]
              simp only [Option.bind_some, getD_get hj]
              rw [big_iff hx.1 hx.2]
              rw [dropS hj, allB_cons] at hI
              rw [gEd hj] at hI
              cases hc : decide (-100 ≤ da.getD j 0) && decide (da.getD j 0 ≤ 100) with
              | true =>
                rw [hc, Bool.true_and] at hI
                exact .inr ⟨(), hI, rfl⟩
              | false =>
                rw [hc, Bool.false_and] at hI
                refine .inl ?_
                rw [hI, decide_eq_true (p := (j : Int) ≥ 0) (by omega)]
                rfl
          · rw [decide_eq_true (by omega), decide_eq_false h4]; rfl
        · rw [show (a != b) = true by simp [hab], decide_eq_false hab]; rfl
    · have e1 : ((((sh.length : Nat) : Int) : Int) != 2) = true := by rw [bne_iff_ne]; omega
      rw [e1, decide_eq_false hl]; rfl

namespace slices_Min_int_int
noncomputable def E : Entry := ⟨67, true, false, fun | [.d (.ints .i64 xs)] => decide (xs.length < 9223372036854775808) && decide (0 < (xs : List Int).length) | _ => false, fun | [.d (.ints .i64 xs)] => ([.one ((.int .i64 (minL xs)), false)], []) | _ => ([], []), fun _ => [], false, fun _ => none⟩
end slices_Min_int_int
namespace slices_Min_int_int
noncomputable def X : List Entry := []
noncomputable def I : List Inl := [⟨67, Try.f67, ⟨[], [(1000005, [1, 2, 5, 6, 7, 8, 9, 10, 11, 12, 13, 14, 15, 16, 17, 18, 19, 20, 21, 22, 23, 24])], [], [], [], []⟩⟩]
theorem I_ok : ∀ i ∈ I, Try.prog.funcs[i.f]? = some i.fn ∧ (i.fn.name == "runtime.NumGoroutine") = false := by
  intro i hi
  simp only [I, List.mem_cons, List.not_mem_nil, or_false] at hi
  subst hi
  exact ⟨by kernel_rfl, by kernel_rfl⟩
noncomputable abbrev L0 (fuel n : Nat) (s : St) (k : Kont) := lAt Try.prog X I fuel true 0 false 67 (bodyOf Try.f67) [1, 1, 1, 0, 1, 0] n s k
noncomputable abbrev k0  (fuel : Nat) : Kont := (kAt Try.prog X I fuel true 0 false 67 (bodyOf Try.f67) [1, 1, 1, 0, 1, 0] [] (endK Try.prog Try.f67))
noncomputable def t0 (p0 : List Int) (x0q1 : Int) (x0q2 : Int) : St := ⟨[(.imm (.ints .i64 p0)), .dead, .dead, (.imm (.int .i64 x0q1)), (.imm (.int .i64 x0q2)), .dead, .dead, .dead, .dead, .dead, .dead, .dead, .dead, .dead, .dead, .dead, .dead, .dead, .dead, .dead, .dead, .dead, .dead, .dead, .dead], hOf [], [], []⟩
theorem e (fuel : Nat) (p0 : List Int) : runF Try.prog X I 0 fuel 67 Try.f67 [.d (.ints .i64 p0)] =
  (bif (decide ((((p0.length : Nat) : Int) : Int) < 1)) then
  none
  else
  (idx 0 p0.length).bind fun j1 =>
  (p0[j1]?).bind fun v2 =>
  L0 fuel fuel (t0 p0 v2 1) (k0  fuel)) := by kernel_rfl
theorem s0 (fuel n0 : Nat) (p0 : List Int) (x0q1 : Int) (x0q2 : Int) : L0 fuel (n0 + 1) (t0 p0 x0q1 x0q2) (k0  fuel) =
  (bif (decide ((x0q2 : Int) < ((p0.length : Nat) : Int))) then
  (idx x0q2 p0.length).bind fun j7 =>
  (p0[j7]?).bind fun v8 =>
  L0 fuel n0 (t0 p0 ((minI x0q1 v8)) ((IntKind.wrap .i64 (x0q2 + 1)))) (k0  fuel)
  else
  some ([.one ((.int .i64 x0q1), false)], [])) := by kernel_rfl
end slices_Min_int_int
theorem slices_Min_int_int.ok_of (hX : ∀ E ∈ slices_Min_int_int.X, CallSpec Try.prog E) (h : ∀ (xs : List Int), (decide (xs.length < 9223372036854775808) && decide (0 < (xs : List Int).length)) = true → ∃ fuel, runF Try.prog slices_Min_int_int.X slices_Min_int_int.I 0 fuel 67 Try.f67 [.d (.ints .i64 xs)] = some ([.one ((.int .i64 (minL xs)), false)], [])) : CallSpec Try.prog slices_Min_int_int.E :=
  callSpec_of (d := 0) hX (by kernel_rfl) slices_Min_int_int.I_ok (by kernel_rfl) (by kernel_rfl) (by kernel_rfl) (fun _ _ _ _ h => by dsimp only [slices_Min_int_int.E] at h; cases h) (fun xs hp => by
    dsimp only [slices_Min_int_int.E] at hp ⊢
    split at hp
    · exact h _ hp
    · cases hp)
theorem slices_Min_int_int.ok : CallSpec Try.prog slices_Min_int_int.E := slices_Min_int_int.ok_of (by simp [slices_Min_int_int.X]) fun xs h => ⟨xs.length + 1, by
  simp only [Bool.and_eq_true, decide_eq_true_eq] at h
  have h0 : 0 < xs.length := h.2
  rw [slices_Min_int_int.e, decide_eq_false (by omega), cond_false, show idx 0 xs.length = some 0 from idx_nat (j := 0) h0]
  simp only [Option.bind_some, getD_get h0]
  refine run_loop (N := xs.length) (fun n j m => slices_Min_int_int.L0 (xs.length + 1) n (slices_Min_int_int.t0 xs m (j : Int)) (slices_Min_int_int.k0 (xs.length + 1))) (fun j m => 0 < j ∧ m = minL (xs.take j)) ?_ ?_ (xs.length + 1) 1 _ (by omega) (by omega) ⟨by omega, ?_⟩
  · rintro n m ⟨_, hI⟩
    rw [slices_Min_int_int.s0, dge (by omega), cond_false, hI, List.take_length]
  · rintro n j m hj ⟨h1, hI⟩
    rw [slices_Min_int_int.s0, dlt hj, cond_true, idx_nat hj, w1 (by omega)]
    simp only [Option.bind_some, getD_get hj]
    refine ⟨_, ⟨by omega, ?_⟩, rfl⟩
    rw [hI, ← take_push hj rfl, minL_snoc]
    intro e
    have := congrArg List.length e
    rw [List.length_take, List.length_nil] at this
    omega
  · match xs, h0 with
    | x :: xs, _ => simp [minL]⟩

namespace impl_Diagonal
noncomputable def E : Entry := ⟨32, false, false, fun | [.d (.agg [(.ints .i64 sh), (.ints .i64 da)])] => decide (sh.length < 9223372036854775808) && decide (da.length < 9223372036854775808) | _ => false, fun | [.d (.agg [(.ints .i64 sh), (.ints .i64 da)])] => ([.agg [((.ints .i64 (dgS sh da)), true), ((.ints .i64 (dgD sh da)), true)]], []) | _ => ([], []), fun _ => [], true, fun _ => none⟩
end impl_Diagonal
namespace impl_Diagonal
noncomputable def X : List Entry := [impl_ValidArray.E, impl_layoutOf_j.E, slices_Min_int_int.E]
noncomputable def I : List Inl := [⟨32, Try.f32, ⟨[23, 46], [(11, [0, 3, 4, 6, 8, 9, 10, 11, 12, 13, 14, 15, 16, 17, 18, 19, 20, 21, 22, 23, 24, 25, 26, 27, 28, 29, 30, 31, 32, 33, 34, 35, 36, 37, 38, 39, 40, 41, 42, 43, 44, 45, 46, 47, 48, 49]), (1000006, [0, 4, 6, 7, 8, 9, 10, 11, 12, 13, 14, 15, 16, 17, 18, 19, 20, 21, 22, 23, 24, 25, 26, 27, 30, 31, 32, 33, 34, 35, 36, 37, 38, 39, 40, 41, 42, 43, 44, 45, 46, 47, 48, 49])], [(11, [1, 5])], [(8, [1, 2, 0, 3, 4, 5, 6])], [], []⟩⟩, ⟨52, Try.f52, ⟨[12], [(1000006, [2, 3, 5, 6, 7, 9, 10, 11, 12, 13, 14, 15, 16, 17, 18, 19, 20, 21, 24, 25, 26, 27, 28, 29, 30, 31, 32, 33, 34, 35])], [], [], [], []⟩⟩, ⟨68, Try.f68, ⟨[], [], [], [], [], []⟩⟩]
theorem I_ok : ∀ i ∈ I, Try.prog.funcs[i.f]? = some i.fn ∧ (i.fn.name == "runtime.NumGoroutine") = false := by
  intro i hi
  simp only [I, List.mem_cons, List.not_mem_nil, or_false] at hi
  rcases hi with rfl | rfl | rfl
  all_goals exact ⟨by kernel_rfl, by kernel_rfl⟩
noncomputable abbrev L0 (fuel n : Nat) (s : St) (k : Kont) := lAt Try.prog X I fuel true 4 false 32 (bodyOf Try.f32) [1, 1, 1, 1, 0, 1, 0] n s k
noncomputable abbrev k0  (fuel : Nat) : Kont := (kAt Try.prog X I fuel true 4 false 32 (bodyOf Try.f32) [1, 1, 1, 1, 0, 1, 0] [] (endK Try.prog Try.f32))
noncomputable def t0 (p0q0 : List Int) (p0q1 : List Int) (x0q1 : Int) (x0q4 : Int) (x0q5 : Int) (x0q6 : Int) (x0q7 : Int) (x0q8 : Int) : St := ⟨[.dead, (.ptr 1000000000 0 0), (.ptr 1000000001 0 0), (.ptr 1000000002 0 0), .dead, (.ptr 1000000003 0 0), .dead, .dead, .dead, .dead, .dead, .dead, .dead, .dead, .dead, .dead, .dead, .dead, .dead, .dead, .dead, .dead, .dead, .dead, .dead, .dead, .dead, .dead, (.imm (.int .i64 ((p0q0.length : Nat) : Int))), (.imm (.int .i64 x0q1)), .dead, .dead, .dead, .dead, .dead, .dead, .dead, .dead, .dead, .dead, .dead, .dead, .dead, .dead, .dead, .dead, .dead, .dead, .dead, .dead], hOf [(1000000000, (.box [(.imm (.ints .i64 p0q0)), (.imm (.ints .i64 p0q1))])), (1000000001, (.box [(.imm .nils), (.imm .nils)])), (1000000002, (.box [(.imm .junk), (.imm (.int .i64 x0q4)), (.imm (.int .i64 x0q5)), (.imm (.int .i64 x0q6)), (.imm (.int .i64 x0q7))])), (1000000003, (.box [(.imm (.int .i64 x0q8))]))], [], []⟩
noncomputable abbrev L1 (fuel n : Nat) (s : St) (k : Kont) := lAt Try.prog X I fuel true 3 false 52 (bodyOf Try.f52) [1, 1, 1, 1, 0, 1, 0] n s k
noncomputable abbrev k1  (fuel : Nat) : Kont := (kAt Try.prog X I fuel true 3 false 52 (bodyOf Try.f52) [1, 1, 1, 1, 0, 1, 0] [] (endFn Try.prog Try.f52 50 (kOp Try.prog X I fuel true 4 32 (cAt (bodyOf Try.f32) [1, 1, 1, 1, 1, 1, 0]) 3 (kAt Try.prog X I fuel true 4 false 32 (bodyOf Try.f32) [1, 1, 1, 1, 1, 1, 0] [] (endK Try.prog Try.f32)))))
noncomputable def t1 (p0q0 : List Int) (p0q1 : List Int) (x0q8 : Int) (x1q4 : Int) (x1q6 : List Int) : St := ⟨[(.all 1000000001 1), (.imm (.clo 68 [(.pbox [(.ints .i64 p0q0), (.ints .i64 p0q1)]), (.pbox [(.int .i64 x0q8)])])), .dead, .dead, (.ptr 1000000002 0 0), .dead, .dead, .dead, (.all 1000000003 1), .dead, .dead, .dead, .dead, .dead, .dead, .dead, .dead, .dead, .dead, .dead, .dead, .dead, (.imm (.int .i64 (((List.replicate ((volW ([(minL p0q0)]))).toNat (0 : Int)).length : Nat) : Int))), (.imm (.int .i64 x1q4)), .dead, .dead, .dead, .dead, .dead, .dead, .dead, .dead, .dead, .dead, .dead, .dead], hOf [(1000000000, (.box [(.imm .nils), (.imm .nils)])), (1000000001, (.ints .i64 [(minL p0q0)])), (1000000002, (.box [(.imm .nils), (.imm .nils)])), (1000000003, (.ints .i64 x1q6))], [.dead, (.dptr [(.ints .i64 p0q0), (.ints .i64 p0q1)] 0), (.ptr 1000000000 0 0), .dead, .dead, (.dptr [(.int .i64 x0q8)] 0), .dead, (.imm (.int .i64 (minL p0q0))), .dead, .dead, .dead, .dead, .dead, .dead, .dead, .dead, .dead, .dead, .dead, .dead, .dead, .dead, .dead, .dead, .dead, .dead, .dead, .dead, .dead, .dead, .dead, .dead, .dead, .dead, .dead, .dead, .dead, .dead, .dead, .dead, .dead, .dead, .dead, (.imm (.int .i64 (minL p0q0))), (.all 1000000001 1), (.imm (.clo 68 [(.pbox [(.ints .i64 p0q0), (.ints .i64 p0q1)]), (.pbox [(.int .i64 x0q8)])])), .dead, .dead, .dead, .dead, (.tup [])], []⟩
theorem e (fuel : Nat) (p0q0 : List Int) (p0q1 : List Int) : runF Try.prog X I 4 fuel 32 Try.f32 [.d (.agg [(.ints .i64 p0q0), (.ints .i64 p0q1)])] =
  (bif decide (p0q0.length < 9223372036854775808) && decide (p0q1.length < 9223372036854775808) then
  (bif (!(validA p0q0 p0q1)) then
  some ([.agg [((.ints .i64 []), true), ((.ints .i64 []), true)]], [])
  else
  (bif ((((p0q0.length : Nat) : Int) : Int) == 0) then
  some ([.agg [((.ints .i64 []), true), ((.ints .i64 []), true)]], [])
  else
  (bif decide (p0q0.length < 9223372036854775808) then
  (bif validS p0q0 then
  L0 fuel fuel (t0 p0q0 p0q1 0 ((strd p0q0 0)) ((strd p0q0 1)) ((strd p0q0 2)) ((volW p0q0)) 0) (k0  fuel)
  else
  L0 fuel fuel (t0 p0q0 p0q1 0 0 0 0 0 0) (k0  fuel))
  else
  none)))
  else
  none) := by kernel_rfl
theorem s0 (fuel n0 : Nat) (p0q0 : List Int) (p0q1 : List Int) (x0q1 : Int) (x0q4 : Int) (x0q5 : Int) (x0q6 : Int) (x0q7 : Int) (x0q8 : Int) : L0 fuel (n0 + 1) (t0 p0q0 p0q1 x0q1 x0q4 x0q5 x0q6 x0q7 x0q8) (k0  fuel) =
  (bif (decide ((x0q1 : Int) < ((p0q0.length : Nat) : Int))) then
  (bif decide (x0q1 = ((0 : Nat) : Int)) then
  L0 fuel n0 (t0 p0q0 p0q1 ((IntKind.wrap .i64 (x0q1 + 1))) x0q4 x0q5 x0q6 x0q7 ((IntKind.wrap .i64 (x0q8 + x0q4)))) (k0  fuel)
  else
  (bif decide (x0q1 = ((1 : Nat) : Int)) then
  L0 fuel n0 (t0 p0q0 p0q1 ((IntKind.wrap .i64 (x0q1 + 1))) x0q4 x0q5 x0q6 x0q7 ((IntKind.wrap .i64 (x0q8 + x0q5)))) (k0  fuel)
  else
  (bif decide (x0q1 = ((2 : Nat) : Int)) then
  L0 fuel n0 (t0 p0q0 p0q1 ((IntKind.wrap .i64 (x0q1 + 1))) x0q4 x0q5 x0q6 x0q7 ((IntKind.wrap .i64 (x0q8 + x0q6)))) (k0  fuel)
  else
  none)))
  else
  (bif decide (p0q0.length < 9223372036854775808) && decide (0 < (p0q0 : List Int).length) then
  (bif decide (([(minL p0q0)]).length < 9223372036854775808) then
  (bif validS ([(minL p0q0)]) then
  (bif decide (0 ≤ ((volW ([(minL p0q0)])) : Int)) && decide (((volW ([(minL p0q0)])) : Int) ≤ (volW ([(minL p0q0)]))) && decide (((volW ([(minL p0q0)])) : Int) ≤ 1152921504606846976) && decide (((8 : Nat) : Int) * (volW ([(minL p0q0)])) ≤ 281474976710656) then
  L1 fuel fuel (t1 p0q0 p0q1 x0q8 0 ((List.replicate ((volW ([(minL p0q0)]))).toNat (0 : Int)))) (k1  fuel)
  else
  none)
  else
  some ([.agg [((.ints .i64 []), true), ((.ints .i64 []), true)]], []))
  else
  none)
  else
  none)) := by kernel_rfl
theorem s1 (fuel n1 : Nat) (p0q0 : List Int) (p0q1 : List Int) (x0q8 : Int) (x1q4 : Int) (x1q6 : List Int) : L1 fuel (n1 + 1) (t1 p0q0 p0q1 x0q8 x1q4 x1q6) (k1  fuel) =
  (bif (decide ((x1q4 : Int) < (((List.replicate ((volW ([(minL p0q0)]))).toNat (0 : Int)).length : Nat) : Int))) then
  (idx (IntKind.wrap .i64 (x1q4 * x0q8)) p0q1.length).bind fun j10 =>
  (p0q1[j10]?).bind fun v11 =>
  (idx x1q4 x1q6.length).bind fun j12 =>
  (bif decide (j12 < x1q6.length) then
  L1 fuel n1 (t1 p0q0 p0q1 x0q8 ((IntKind.wrap .i64 (x1q4 + 1))) ((x1q6.set j12 v11))) (k1  fuel)
  else
  none)
  else
  some ([.agg [((.ints .i64 [(minL p0q0)]), true), ((.ints .i64 x1q6), true)]], [])) := by kernel_rfl
end impl_Diagonal
theorem impl_Diagonal.ok_of (hX : ∀ E ∈ impl_Diagonal.X, CallSpec Try.prog E) (h : ∀ (sh : List Int) (da : List Int), (decide (sh.length < 9223372036854775808) && decide (da.length < 9223372036854775808)) = true → ∃ fuel, runF Try.prog impl_Diagonal.X impl_Diagonal.I 4 fuel 32 Try.f32 [.d (.agg [(.ints .i64 sh), (.ints .i64 da)])] = some ([.agg [((.ints .i64 (dgS sh da)), true), ((.ints .i64 (dgD sh da)), true)]], [])) : CallSpec Try.prog impl_Diagonal.E :=
  callSpec_of (d := 4) hX (by kernel_rfl) impl_Diagonal.I_ok (by kernel_rfl) (by kernel_rfl) (by kernel_rfl) (fun _ _ _ _ h => by dsimp only [impl_Diagonal.E] at h; cases h) (fun xs hp => by
    dsimp only [impl_Diagonal.E] at hp ⊢
    split at hp
    · exact h _ _ hp
    · cases hp)
theorem impl_Diagonal.fill (fuel : Nat) (sh da : List Int) (hv : validA sh da = true) (hl : 0 < sh.length) (hf : 60 < fuel) (st : Int) (hst : st = ((stpN sh sh.length : Nat) : Int)) :
    impl_Diagonal.L1 fuel fuel (impl_Diagonal.t1 sh da st 0 (List.replicate (minL sh).toNat 0)) (impl_Diagonal.k1 fuel) = some ([.agg [((.ints .i64 [minL sh]), true), ((.ints .i64 (dgN sh da)), true)]], []) := by
  subst hst
  have hs := (validA_inv hv).1
  obtain ⟨m0, m1, hg⟩ := dg_facts hs hl
  have hd := (validA_inv hv).2.1
  have hN : (dgN sh da).length = (minL sh).toNat := by simp only [dgN, tab_length]
  have hvo := (validS_one m0 m1).2
  have h60 := (validA_len hv).2
  refine run_loop (N := (minL sh).toNat) (fun n j out => impl_Diagonal.L1 fuel n (impl_Diagonal.t1 sh da ((stpN sh sh.length : Nat) : Int) (j : Int) out) (impl_Diagonal.k1 fuel)) (fun j out => out = part (dgN sh da) j) ?_ ?_ fuel 0 _ (by omega) (by omega) (by rw [part_zero, hN])
  · intro n out hI
    have hall := part_all (dgN sh da)
    rw [hN] at hall
    rw [hall] at hI
    rw [impl_Diagonal.s1]
    simp only [hvo, List.length_replicate]
    rw [dge (by omega), cond_false, hI]
  · intro n j out hj hI
    have hjm : (j : Int) < minL sh := by omega
    have hol : out.length = (minL sh).toNat := by rw [hI, part_length (by omega), hN]
    have hip := (hg j).1
    rw [decide_eq_true hjm] at hip
    have hob := off_bd hs hip
    rw [(hg j).2 hjm] at hob
    have hlt : j * stpN sh sh.length < da.length := by omega
    rw [impl_Diagonal.s1]
    simp only [hvo, List.length_replicate]
    rw [dlt hj, cond_true, wMul (by omega), idx_nat hlt, w1 (by omega), idx_nat (j := j) (by omega)]
    simp only [Option.bind_some, getD_get hlt]
    rw [decide_eq_true (by omega), cond_true]
    refine ⟨_, ?_, rfl⟩
    rw [hI, part_set (by omega)]
    simp only [dgN]
    rw [tab_getD hj]
theorem impl_Diagonal.ok : CallSpec Try.prog impl_Diagonal.E := impl_Diagonal.ok_of (by simp [impl_Diagonal.X, impl_ValidArray.ok, impl_layoutOf_j.ok, slices_Min_int_int.ok]) fun sh da h => by
  obtain ⟨F, hF⟩ : ∃ F : Nat, 60 < F := ⟨61, by omega⟩
  refine ⟨F, ?_⟩
  have h' := h
  rw [Bool.and_eq_true] at h'
  rw [impl_Diagonal.e, h]
  unfold dgS dgD
  cases hv : validA sh da with
  | false => simp only [dgB, hv]; rfl
  | true =>
    have hs := (validA_inv hv).1
    have hr := (validS_inv hs).1
    by_cases hl : sh.length = 0
    · have : dgB sh da = false := by simp [dgB, hl]
      rw [this, hl]; rfl
    · have hb : dgB sh da = true := by simp [dgB, hv]; omega
      have q : (((sh.length : Nat) : Int) == 0) = false := by rw [beq_eq_false_iff_ne]; omega
      obtain ⟨m0, m1, hg⟩ := dg_facts hs (by omega)
      obtain ⟨v1, v2⟩ := validS_one m0 m1
      have hst : ∀ k, k < sh.length → stpN sh k + behN sh k ≤ 60000 := fun k hk => by
        have := stpN_le hs k (by omega)
        have := (ax_of hs hk).beh_le
        omega
      rw [hb, q, h'.1, hs]
      simp only [Bool.not_true, cond_true, cond_false]
      refine run_loop (N := sh.length) (fun n j s => impl_Diagonal.L0 F n (impl_Diagonal.t0 sh da (j : Int) (strd sh 0) (strd sh 1) (strd sh 2) (volW sh) s) (impl_Diagonal.k0 F)) (fun j s => s = ((stpN sh j : Nat) : Int)) ?_ ?_ F 0 _ (by omega) (by omega) rfl
      · intro n s hI
        rw [impl_Diagonal.s0, dge (by omega), cond_false, h'.1, decide_eq_true (p := 0 < sh.length) (by omega), lt_of (by simp), v1, v2, mkOk m0 (by omega)]
        simp only [Bool.and_self, cond_true]
        exact impl_Diagonal.fill F sh da hv (by omega) hF s hI
      · intro n j s hj hI
        have hb2 := hst j hj
        have e := strd_beh (ax_of hs hj)
        rw [impl_Diagonal.s0, dlt hj, cond_true, w1 (by omega)]
        refine ⟨((stpN sh (j + 1) : Nat) : Int), rfl, ?_⟩
        have e2 : IntKind.wrap .i64 (s + strd sh j) = ((stpN sh (j + 1) : Nat) : Int) := by
          rw [hI, e, wAdd (by omega)]; rfl
        match j, hj, e2 with
        | 0, _, e2 => rw [decide_eq_true (p := ((0 : Nat) : Int) = ((0 : Nat) : Int)) rfl, cond_true, e2]
        | 1, _, e2 => rw [decide_eq_false (p := ((1 : Nat) : Int) = ((0 : Nat) : Int)) (by omega), cond_false, decide_eq_true (p := ((1 : Nat) : Int) = ((1 : Nat) : Int)) rfl, cond_true, e2]
        | 2, _, e2 => rw [decide_eq_false (p := ((2 : Nat) : Int) = ((0 : Nat) : Int)) (by omega), cond_false, decide_eq_false (p := ((2 : Nat) : Int) = ((1 : Nat) : Int)) (by omega), cond_false, decide_eq_true (p := ((2 : Nat) : Int) = ((2 : Nat) : Int)) rfl, cond_true, e2]
        | j + 3, hj, _ => exact absurd hj (by omega)

namespace impl_sumOf
noncomputable def E : Entry := ⟨64, true, false, fun | [.d (.ints .i64 xs)] => decide (xs.length < 9223372036854775808) | _ => false, fun | [.d (.ints .i64 xs)] => ([.one ((.int .i64 (sumW xs)), false)], []) | _ => ([], []), fun _ => [], false, fun _ => none⟩
end impl_sumOf
namespace impl_sumOf
noncomputable def X : List Entry := []
noncomputable def I : List Inl := [⟨64, Try.f64, ⟨[], [(1000003, [0, 1, 2, 4, 5, 9, 10, 11, 12, 13, 14, 15, 16])], [], [], [], []⟩⟩]
theorem I_ok : ∀ i ∈ I, Try.prog.funcs[i.f]? = some i.fn ∧ (i.fn.name == "runtime.NumGoroutine") = false := by
  intro i hi
  simp only [I, List.mem_cons, List.not_mem_nil, or_false] at hi
  subst hi
  exact ⟨by kernel_rfl, by kernel_rfl⟩
noncomputable abbrev L0 (fuel n : Nat) (s : St) (k : Kont) := lAt Try.prog X I fuel true 0 false 64 (bodyOf Try.f64) [1, 1, 0, 1, 0] n s k
noncomputable abbrev k0  (fuel : Nat) : Kont := (kAt Try.prog X I fuel true 0 false 64 (bodyOf Try.f64) [1, 1, 0, 1, 0] [] (endK Try.prog Try.f64))
noncomputable def t0 (p0 : List Int) (x0q0 : Int) (x0q3 : Int) : St := ⟨[.dead, .dead, .dead, (.imm (.int .i64 x0q0)), .dead, .dead, (.imm (.ints .i64 p0)), (.imm (.int .i64 ((p0.length : Nat) : Int))), (.imm (.int .i64 x0q3)), .dead, .dead, .dead, .dead, .dead, .dead, .dead, .dead], hOf [], [], []⟩
theorem e (fuel : Nat) (p0 : List Int) : runF Try.prog X I 0 fuel 64 Try.f64 [.d (.ints .i64 p0)] =
  L0 fuel fuel (t0 p0 0 0) (k0  fuel) := by kernel_rfl
theorem s0 (fuel n0 : Nat) (p0 : List Int) (x0q0 : Int) (x0q3 : Int) : L0 fuel (n0 + 1) (t0 p0 x0q0 x0q3) (k0  fuel) =
  (bif (decide ((x0q3 : Int) < ((p0.length : Nat) : Int))) then
  (idx x0q3 p0.length).bind fun j5 =>
  (p0[j5]?).bind fun v6 =>
  L0 fuel n0 (t0 p0 ((IntKind.wrap .i64 (x0q0 + v6))) ((IntKind.wrap .i64 (x0q3 + 1)))) (k0  fuel)
  else
  some ([.one ((.int .i64 x0q0), false)], [])) := by kernel_rfl
end impl_sumOf
theorem impl_sumOf.ok_of (hX : ∀ E ∈ impl_sumOf.X, CallSpec Try.prog E) (h : ∀ (xs : List Int), (decide (xs.length < 9223372036854775808)) = true → ∃ fuel, runF Try.prog impl_sumOf.X impl_sumOf.I 0 fuel 64 Try.f64 [.d (.ints .i64 xs)] = some ([.one ((.int .i64 (sumW xs)), false)], [])) : CallSpec Try.prog impl_sumOf.E :=
  callSpec_of (d := 0) hX (by kernel_rfl) impl_sumOf.I_ok (by kernel_rfl) (by kernel_rfl) (by kernel_rfl) (fun _ _ _ _ h => by dsimp only [impl_sumOf.E] at h; cases h) (fun xs hp => by
    dsimp only [impl_sumOf.E] at hp ⊢
    split at hp
    · exact h _ hp
    · cases hp)
theorem impl_sumOf.ok : CallSpec Try.prog impl_sumOf.E := impl_sumOf.ok_of (by simp [impl_sumOf.X, ]) fun xs h => by
  obtain ⟨F, hF⟩ : ∃ F : Nat, xs.length < F := ⟨xs.length + 1, by omega⟩
  refine ⟨F, ?_⟩
  have hx := of_decide_eq_true h
  rw [impl_sumOf.e]
  refine run_loop (N := xs.length) (fun m j a => impl_sumOf.L0 F m (impl_sumOf.t0 xs a (j : Int)) (impl_sumOf.k0 F)) (fun j a => a = sumF (xs.take j) 0) ?_ ?_ F 0 0 (by omega) (by omega) rfl
  · rintro m a rfl
    rw [impl_sumOf.s0, dge (by omega), cond_false, List.take_length]
    rfl
  · rintro m j a hj rfl
    rw [impl_sumOf.s0, dlt hj, cond_true, idx_nat hj, w1 (by omega)]
    simp only [Option.bind_some, getD_get hj]
    refine ⟨_, ?_, rfl⟩
    rw [← take_push hj rfl, sumF_app]
    rfl

namespace impl_TraceOf
noncomputable def E : Entry := ⟨28, true, false, fun | [.d (.agg [(.ints .i64 sh), (.ints .i64 da)])] => decide (sh.length < 9223372036854775808) && decide (da.length < 9223372036854775808) | _ => false, fun | [.d (.agg [(.ints .i64 sh), (.ints .i64 da)])] => ([.one ((.int .i64 (traV sh da)), false), .one ((.bool (sqB sh da)), false)], []) | _ => ([], []), fun _ => [], false, fun _ => none⟩
end impl_TraceOf
namespace impl_TraceOf
noncomputable def X : List Entry := [impl_isSquare.E, impl_Diagonal.E, impl_sumOf.E]
noncomputable def I : List Inl := [⟨28, Try.f28, ⟨[8], [], [], [], [], []⟩⟩]
theorem I_ok : ∀ i ∈ I, Try.prog.funcs[i.f]? = some i.fn ∧ (i.fn.name == "runtime.NumGoroutine") = false := by
  intro i hi
  simp only [I, List.mem_cons, List.not_mem_nil, or_false] at hi
  subst hi
  exact ⟨by kernel_rfl, by kernel_rfl⟩
theorem e (fuel : Nat) (p0q0 : List Int) (p0q1 : List Int) : runF Try.prog X I 0 fuel 28 Try.f28 [.d (.agg [(.ints .i64 p0q0), (.ints .i64 p0q1)])] =
  (bif decide (p0q0.length < 9223372036854775808) && decide (p0q1.length < 9223372036854775808) then
  (bif (!(sqB p0q0 p0q1)) then
  some ([.one ((.int .i64 0), false), .one ((.bool false), false)], [])
  else
  (bif decide (p0q0.length < 9223372036854775808) && decide (p0q1.length < 9223372036854775808) then
  (bif decide (((dgD p0q0 p0q1)).length < 9223372036854775808) then
  some ([.one ((.int .i64 (sumW ((dgD p0q0 p0q1)))), false), .one ((.bool true), false)], [])
  else
  none)
  else
  none))
  else
  none) := by kernel_rfl
end impl_TraceOf
theorem impl_TraceOf.ok_of (hX : ∀ E ∈ impl_TraceOf.X, CallSpec Try.prog E) (h : ∀ (sh : List Int) (da : List Int), (decide (sh.length < 9223372036854775808) && decide (da.length < 9223372036854775808)) = true → ∃ fuel, runF Try.prog impl_TraceOf.X impl_TraceOf.I 0 fuel 28 Try.f28 [.d (.agg [(.ints .i64 sh), (.ints .i64 da)])] = some ([.one ((.int .i64 (traV sh da)), false), .one ((.bool (sqB sh da)), false)], [])) : CallSpec Try.prog impl_TraceOf.E :=
  callSpec_of (d := 0) hX (by kernel_rfl) impl_TraceOf.I_ok (by kernel_rfl) (by kernel_rfl) (by kernel_rfl) (fun _ _ _ _ h => by dsimp only [impl_TraceOf.E] at h; cases h) (fun xs hp => by
    dsimp only [impl_TraceOf.E] at hp ⊢
    split at hp
    · exact h _ _ hp
    · cases hp)
theorem impl_TraceOf.ok : CallSpec Try.prog impl_TraceOf.E := impl_TraceOf.ok_of (by simp [impl_TraceOf.X, impl_isSquare.ok, impl_Diagonal.ok, impl_sumOf.ok]) fun sh da h => ⟨0, by
  have hl := dg_len sh da
  rw [impl_TraceOf.e, h, lt_of (xs := dgD sh da) (by omega)]
  unfold traV
  cases sqB sh da <;> rfl⟩

namespace spec_allIn
noncomputable def E : Entry := ⟨73, true, false, fun | [.d (.ints .i64 xs), .d (.int .i64 lo), .d (.int .i64 hi)] => decide (xs.length < 9223372036854775808) | _ => false, fun | [.d (.ints .i64 xs), .d (.int .i64 lo), .d (.int .i64 hi)] => ([.one ((.bool (allB xs lo hi)), false)], []) | _ => ([], []), fun _ => [], false, fun _ => none⟩
end spec_allIn
namespace spec_allIn
noncomputable def X : List Entry := [spec_inRange.E]
noncomputable def I : List Inl := [⟨73, Try.f73, ⟨[], [(1000002, [3, 4, 5, 6, 8, 9, 10, 11, 12, 13, 14, 15, 16, 17, 18, 19, 20, 21])], [], [], [], []⟩⟩]
theorem I_ok : ∀ i ∈ I, Try.prog.funcs[i.f]? = some i.fn ∧ (i.fn.name == "runtime.NumGoroutine") = false := by
  intro i hi
  simp only [I, List.mem_cons, List.not_mem_nil, or_false] at hi
  subst hi
  exact ⟨by kernel_rfl, by kernel_rfl⟩
noncomputable abbrev L0 (fuel n : Nat) (s : St) (k : Kont) := lAt Try.prog X I fuel true 0 false 73 (bodyOf Try.f73) [1, 0, 1, 0] n s k
noncomputable abbrev k0  (fuel : Nat) : Kont := (kAt Try.prog X I fuel true 0 false 73 (bodyOf Try.f73) [1, 0, 1, 0] [] (endK Try.prog Try.f73))
noncomputable def t0 (p0 : List Int) (p1 : Int) (p2 : Int) (x0q3 : Int) : St := ⟨[(.imm (.ints .i64 p0)), (.imm (.int .i64 p1)), (.imm (.int .i64 p2)), .dead, .dead, .dead, .dead, (.imm (.int .i64 x0q3)), .dead, .dead, .dead, .dead, .dead, .dead, .dead, .dead, .dead, .dead, .dead, .dead, .dead, .dead], hOf [], [], []⟩
theorem e (fuel : Nat) (p0 : List Int) (p1 : Int) (p2 : Int) : runF Try.prog X I 0 fuel 73 Try.f73 [.d (.ints .i64 p0), .d (.int .i64 p1), .d (.int .i64 p2)] =
  L0 fuel fuel (t0 p0 p1 p2 0) (k0  fuel) := by kernel_rfl
theorem s0 (fuel n0 : Nat) (p0 : List Int) (p1 : Int) (p2 : Int) (x0q3 : Int) : L0 fuel (n0 + 1) (t0 p0 p1 p2 x0q3) (k0  fuel) =
  (bif (decide ((x0q3 : Int) < ((p0.length : Nat) : Int))) then
  (idx x0q3 p0.length).bind fun j5 =>
  (p0[j5]?).bind fun v6 =>
  (bif (!(decide (p1 ≤ v6) && decide (v6 ≤ p2))) then
  some ([.one ((.bool false), false)], [])
  else
  L0 fuel n0 (t0 p0 p1 p2 ((IntKind.wrap .i64 (x0q3 + 1)))) (k0  fuel))
  else
  some ([.one ((.bool true), false)], [])) := by kernel_rfl
end spec_allIn
theorem spec_allIn.ok_of (hX : ∀ E ∈ spec_allIn.X, CallSpec Try.prog E) (h : ∀ (xs : List Int) (lo : Int) (hi : Int), (decide (xs.length < 9223372036854775808)) = true → ∃ fuel, runF Try.prog spec_allIn.X spec_allIn.I 0 fuel 73 Try.f73 [.d (.ints .i64 xs), .d (.int .i64 lo), .d (.int .i64 hi)] = some ([.one ((.bool (allB xs lo hi)), false)], [])) : CallSpec Try.prog spec_allIn.E :=
  callSpec_of (d := 0) hX (by kernel_rfl) spec_allIn.I_ok (by kernel_rfl) (by kernel_rfl) (by kernel_rfl) (fun _ _ _ _ h => by dsimp only [spec_allIn.E] at h; cases h) (fun xs hp => by
    dsimp only [spec_allIn.E] at hp ⊢
    split at hp
    · exact h _ _ _ hp
    · cases hp)
theorem spec_allIn.loop (fuel : Nat) (xs : List Int) (lo hi : Int) (hx : xs.length < 9223372036854775808) : ∀ (m n j : Nat), xs.length - j = m → m < n → j ≤ xs.length →
    spec_allIn.L0 fuel n (spec_allIn.t0 xs lo hi (j : Int)) (spec_allIn.k0 fuel) = some ([.one (.bool (allB (xs.drop j) lo hi), false)], []) := by
  intro m
  induction m with
  | zero =>
    intro n j h1 h2 h3
    obtain ⟨n, rfl⟩ : ∃ n', n = n' + 1 := ⟨n - 1, by omega⟩
    have hj : ¬ j < xs.length := by omega
    rw [spec_allIn.s0, dge hj, dropE hj]
    rfl
  | succ m ih =>
    intro n j h1 h2 h3
    obtain ⟨n, rfl⟩ : ∃ n', n = n' + 1 := ⟨n - 1, by omega⟩
    have hj : j < xs.length := by omega
    rw [spec_allIn.s0, dlt hj, idx_nat hj, w1 (by omega), dropS hj]
    simp only [cond_true, Option.bind_some, getS hj, allB_cons]
    rw [ih n (j + 1) (by omega) (by omega) (by omega)]
    cases decide (lo ≤ xs[j]) && decide (xs[j] ≤ hi) <;> rfl

theorem spec_allIn.ok : CallSpec Try.prog spec_allIn.E := spec_allIn.ok_of (by simp [spec_allIn.X, spec_inRange.ok]) fun xs lo hi h => by
  simp only [decide_eq_true_eq] at h
  refine ⟨xs.length + 1, ?_⟩
  rw [spec_allIn.e]
  exact spec_allIn.loop (xs.length + 1) xs lo hi h xs.length (xs.length + 1) 0 (by omega) (by omega) (by omega)

namespace spec_validShape
noncomputable def E : Entry := ⟨96, true, false, fun | [.d (.ints .i64 sh)] => decide (sh.length < 9223372036854775808) | _ => false, fun | [.d (.ints .i64 sh)] => ([.one ((.bool (validS sh)), false)], []) | _ => ([], []), fun _ => [], false, fun _ => none⟩
end spec_validShape
namespace spec_validShape
noncomputable def X : List Entry := [spec_allIn.E, spec_volume.E]
noncomputable def I : List Inl := [⟨96, Try.f96, ⟨[], [], [], [], [], []⟩⟩]
theorem I_ok : ∀ i ∈ I, Try.prog.funcs[i.f]? = some i.fn ∧ (i.fn.name == "runtime.NumGoroutine") = false := by
  intro i hi
  simp only [I, List.mem_cons, List.not_mem_nil, or_false] at hi
  subst hi
  exact ⟨by kernel_rfl, by kernel_rfl⟩
theorem e (fuel : Nat) (p0 : List Int) : runF Try.prog X I 0 fuel 96 Try.f96 [.d (.ints .i64 p0)] =
  (bif (decide ((((p0.length : Nat) : Int) : Int) ≤ 3)) then
  (bif decide (p0.length < 9223372036854775808) then
  (bif (allB p0 0 60) then
  (bif decide (p0.length < 9223372036854775808) then
  some ([.one ((.bool (decide (((volW p0) : Int) ≤ 60))), false)], [])
  else
  none)
  else
  some ([.one ((.bool false), false)], []))
  else
  none)
  else
  some ([.one ((.bool false), false)], [])) := by kernel_rfl
end spec_validShape
theorem spec_validShape.ok_of (hX : ∀ E ∈ spec_validShape.X, CallSpec Try.prog E) (h : ∀ (sh : List Int), (decide (sh.length < 9223372036854775808)) = true → ∃ fuel, runF Try.prog spec_validShape.X spec_validShape.I 0 fuel 96 Try.f96 [.d (.ints .i64 sh)] = some ([.one ((.bool (validS sh)), false)], [])) : CallSpec Try.prog spec_validShape.E :=
  callSpec_of (d := 0) hX (by kernel_rfl) spec_validShape.I_ok (by kernel_rfl) (by kernel_rfl) (by kernel_rfl) (fun _ _ _ _ h => by dsimp only [spec_validShape.E] at h; cases h) (fun xs hp => by
    dsimp only [spec_validShape.E] at hp ⊢
    split at hp
    · exact h _ hp
    · cases hp)
theorem spec_validShape.ok : CallSpec Try.prog spec_validShape.E := spec_validShape.ok_of (by simp [spec_validShape.X, spec_allIn.ok, spec_volume.ok]) fun sh h => ⟨0, by
  rw [spec_validShape.e, h]
  unfold validS
  cases decide (((sh.length : Nat) : Int) ≤ 3) <;> cases allB sh 0 60 <;> rfl⟩

namespace spec_valid
noncomputable def E : Entry := ⟨71, true, false, fun | [.d (.agg [(.ints .i64 sh), (.ints .i64 da)])] => decide (sh.length < 9223372036854775808) && decide (da.length < 9223372036854775808) | _ => false, fun | [.d (.agg [(.ints .i64 sh), (.ints .i64 da)])] => ([.one ((.bool (validA sh da)), false)], []) | _ => ([], []), fun _ => [], false, fun _ => none⟩
end spec_valid
namespace spec_valid
noncomputable def X : List Entry := [spec_validShape.E, spec_volume.E, spec_allIn.E]
noncomputable def I : List Inl := [⟨71, Try.f71, ⟨[], [], [], [(1, [0, 1, 2, 3, 4, 7, 5, 6, 8, 9, 10, 11, 12, 13, 14, 15, 16, 17])], [], []⟩⟩]
theorem I_ok : ∀ i ∈ I, Try.prog.funcs[i.f]? = some i.fn ∧ (i.fn.name == "runtime.NumGoroutine") = false := by
  intro i hi
  simp only [I, List.mem_cons, List.not_mem_nil, or_false] at hi
  subst hi
  exact ⟨by kernel_rfl, by kernel_rfl⟩
theorem e (fuel : Nat) (p0q0 : List Int) (p0q1 : List Int) : runF Try.prog X I 0 fuel 71 Try.f71 [.d (.agg [(.ints .i64 p0q0), (.ints .i64 p0q1)])] =
  (bif decide (p0q0.length < 9223372036854775808) then
  (bif (validS p0q0) then
  (bif decide (p0q0.length < 9223372036854775808) then
  (bif ((((p0q1.length : Nat) : Int) : Int) == (volW p0q0)) then
  (bif decide (p0q1.length < 9223372036854775808) then
  some ([.one ((.bool (allB p0q1 ((-1000000)) 1000000)), false)], [])
  else
  none)
  else
  some ([.one ((.bool false), false)], []))
  else
  none)
  else
  some ([.one ((.bool false), false)], []))
  else
  none) := by kernel_rfl
end spec_valid
theorem spec_valid.ok_of (hX : ∀ E ∈ spec_valid.X, CallSpec Try.prog E) (h : ∀ (sh : List Int) (da : List Int), (decide (sh.length < 9223372036854775808) && decide (da.length < 9223372036854775808)) = true → ∃ fuel, runF Try.prog spec_valid.X spec_valid.I 0 fuel 71 Try.f71 [.d (.agg [(.ints .i64 sh), (.ints .i64 da)])] = some ([.one ((.bool (validA sh da)), false)], [])) : CallSpec Try.prog spec_valid.E :=
  callSpec_of (d := 0) hX (by kernel_rfl) spec_valid.I_ok (by kernel_rfl) (by kernel_rfl) (by kernel_rfl) (fun _ _ _ _ h => by dsimp only [spec_valid.E] at h; cases h) (fun xs hp => by
    dsimp only [spec_valid.E] at hp ⊢
    split at hp
    · exact h _ _ hp
    · cases hp)
theorem spec_valid.ok : CallSpec Try.prog spec_valid.E := spec_valid.ok_of (by simp [spec_valid.X, spec_validShape.ok, spec_volume.ok, spec_allIn.ok]) fun sh da h => ⟨0, by
  simp only [Bool.and_eq_true] at h
  rw [spec_valid.e, h.1, h.2]
  unfold validA
  cases validS sh <;> cases (((da.length : Nat) : Int) == volW sh) <;> rfl⟩

namespace spec_isSquare
noncomputable def E : Entry := ⟨45, true, false, fun | [.d (.agg [(.ints .i64 sh), (.ints .i64 da)])] => decide (sh.length < 9223372036854775808) && decide (da.length < 9223372036854775808) | _ => false, fun | [.d (.agg [(.ints .i64 sh), (.ints .i64 da)])] => ([.one ((.bool (sqB sh da)), false)], []) | _ => ([], []), fun _ => [], false, fun _ => none⟩
end spec_isSquare
namespace spec_isSquare
noncomputable def X : List Entry := [spec_valid.E, spec_allIn.E]
noncomputable def I : List Inl := [⟨45, Try.f45, ⟨[], [], [], [(1, [0, 1, 2, 3, 4, 5, 6, 7, 8, 9, 13, 10, 11, 12, 14, 15, 16, 17, 18, 19, 20, 21, 22, 23, 24, 25, 26, 27, 28, 29, 30, 31])], [], []⟩⟩]
theorem I_ok : ∀ i ∈ I, Try.prog.funcs[i.f]? = some i.fn ∧ (i.fn.name == "runtime.NumGoroutine") = false := by
  intro i hi
  simp only [I, List.mem_cons, List.not_mem_nil, or_false] at hi
  subst hi
  exact ⟨by kernel_rfl, by kernel_rfl⟩
theorem e (fuel : Nat) (p0q0 : List Int) (p0q1 : List Int) : runF Try.prog X I 0 fuel 45 Try.f45 [.d (.agg [(.ints .i64 p0q0), (.ints .i64 p0q1)])] =
  (bif decide (p0q0.length < 9223372036854775808) && decide (p0q1.length < 9223372036854775808) then
  (bif (validA p0q0 p0q1) then
  (bif ((((p0q0.length : Nat) : Int) : Int) == 2) then
  (idx 0 p0q0.length).bind fun j1 =>
  (p0q0[j1]?).bind fun v2 =>
  (idx 1 p0q0.length).bind fun j3 =>
  (p0q0[j3]?).bind fun v4 =>
  (bif ((v2 : Int) == v4) then
  (idx 0 p0q0.length).bind fun j5 =>
  (p0q0[j5]?).bind fun v6 =>
  (bif (decide ((v6 : Int) ≤ 4)) then
  (bif decide (p0q1.length < 9223372036854775808) then
  some ([.one ((.bool (allB p0q1 ((-100)) 100)), false)], [])
  else
  none)
  else
  some ([.one ((.bool false), false)], []))
  else
  some ([.one ((.bool false), false)], []))
  else
  some ([.one ((.bool false), false)], []))
  else
  some ([.one ((.bool false), false)], []))
  else
  none) := by kernel_rfl
end spec_isSquare
theorem spec_isSquare.ok_of (hX : ∀ E ∈ spec_isSquare.X, CallSpec Try.prog E) (h : ∀ (sh : List Int) (da : List Int), (decide (sh.length < 9223372036854775808) && decide (da.length < 9223372036854775808)) = true → ∃ fuel, runF Try.prog spec_isSquare.X spec_isSquare.I 0 fuel 45 Try.f45 [.d (.agg [(.ints .i64 sh), (.ints .i64 da)])] = some ([.one ((.bool (sqB sh da)), false)], [])) : CallSpec Try.prog spec_isSquare.E :=
  callSpec_of (d := 0) hX (by kernel_rfl) spec_isSquare.I_ok (by kernel_rfl) (by kernel_rfl) (by kernel_rfl) (fun _ _ _ _ h => by dsimp only [spec_isSquare.E] at h; cases h) (fun xs hp => by
    dsimp only [spec_isSquare.E] at hp ⊢
    split at hp
    · exact h _ _ hp
    · cases hp)
theorem spec_isSquare.ok : CallSpec Try.prog spec_isSquare.E := spec_isSquare.ok_of (by simp [spec_isSquare.X, spec_valid.ok, spec_allIn.ok]) fun sh da h => ⟨0, by
  rw [spec_isSquare.e, h, cond_true]
  simp only [Bool.and_eq_true] at h
  unfold sqB
  cases hv : validA sh da with
  | false => rfl
  | true =>
    by_cases hl : sh.length = 2
    · match sh, hl with
      | [a, b], _ =>
        have e1 : ((((([a, b] : List Int).length : Nat) : Int) : Int) == 2) = true := rfl
        have e2 : idx 0 ([a, b] : List Int).length = some 0 := rfl
        have e3 : idx 1 ([a, b] : List Int).length = some 1 := rfl
        have e4 : ([a, b] : List Int)[0]? = some a := rfl
        have e5 : ([a, b] : List Int)[1]? = some b := rfl
        have e6 : ([a, b] : List Int).getD 0 0 = a := rfl
        have e7 : ([a, b] : List Int).getD 1 0 = b := rfl
        rw [e1, e2, e3, h.2, e6, e7]
        simp only [cond_true, Option.bind_some, e4, e5]
        by_cases hab : a = b
        · rw [beq_iff_eq.2 hab, decide_eq_true hab]
          by_cases h4 : a ≤ 4
          · rw [decide_eq_true h4]; rfl
          · rw [decide_eq_false h4]; rfl
        · rw [beq_eq_false_iff_ne.2 hab, decide_eq_false hab]; rfl
    · have e1 : ((((sh.length : Nat) : Int) : Int) == 2) = false := beq_eq_false_iff_ne.2 (by omega)
      rw [e1, decide_eq_false hl]; rfl⟩

namespace spec_TraceOf
noncomputable def E : Entry := ⟨30, true, false, fun | [.d (.agg [(.ints .i64 sh), (.ints .i64 da)])] => decide (sh.length < 9223372036854775808) && decide (da.length < 9223372036854775808) | _ => false, fun | [.d (.agg [(.ints .i64 sh), (.ints .i64 da)])] => ([.one ((.int .i64 (traV sh da)), false), .one ((.bool (sqB sh da)), false)], []) | _ => ([], []), fun _ => [], false, fun _ => none⟩
end spec_TraceOf
namespace spec_TraceOf
noncomputable def X : List Entry := [spec_isSquare.E]
noncomputable def I : List Inl := [⟨30, Try.f30, ⟨[], [(1000005, [0, 2, 3, 6, 7, 8, 9, 10, 11, 12, 13, 14, 15, 16, 17, 18, 19, 20, 21, 22, 23, 24, 25, 26, 27, 28, 29, 30, 31])], [], [(7, [0, 1, 3, 4, 9, 2, 5, 6, 7, 8, 10, 11, 12, 13, 14])], [], []⟩⟩]
theorem I_ok : ∀ i ∈ I, Try.prog.funcs[i.f]? = some i.fn ∧ (i.fn.name == "runtime.NumGoroutine") = false := by
  intro i hi
  simp only [I, List.mem_cons, List.not_mem_nil, or_false] at hi
  subst hi
  exact ⟨by kernel_rfl, by kernel_rfl⟩
noncomputable abbrev L0 (fuel n : Nat) (s : St) (k : Kont) := lAt Try.prog X I fuel true 0 false 30 (bodyOf Try.f30) [1, 1, 1, 0, 1, 0] n s k
noncomputable abbrev k0  (fuel : Nat) : Kont := (kAt Try.prog X I fuel true 0 false 30 (bodyOf Try.f30) [1, 1, 1, 0, 1, 0] [] (endK Try.prog Try.f30))
noncomputable def t0 (p0q0 : List Int) (p0q1 : List Int) (x0q0 : Int) (x0q1 : Int) : St := ⟨[.dead, (.ptr 1000000000 0 0), .dead, .dead, (.imm (.int .i64 x0q0)), (.imm (.int .i64 x0q1)), .dead, .dead, .dead, .dead, .dead, .dead, .dead, .dead, .dead, .dead, .dead, .dead, .dead, .dead, .dead, .dead, .dead, .dead, .dead, .dead, .dead, .dead, .dead, .dead, .dead, .dead], hOf [(1000000000, (.box [(.imm (.ints .i64 p0q0)), (.imm (.ints .i64 p0q1))]))], [], []⟩
theorem e (fuel : Nat) (p0q0 : List Int) (p0q1 : List Int) : runF Try.prog X I 0 fuel 30 Try.f30 [.d (.agg [(.ints .i64 p0q0), (.ints .i64 p0q1)])] =
  (bif decide (p0q0.length < 9223372036854775808) && decide (p0q1.length < 9223372036854775808) then
  (bif (!(sqB p0q0 p0q1)) then
  some ([.one ((.int .i64 0), false), .one ((.bool false), false)], [])
  else
  L0 fuel fuel (t0 p0q0 p0q1 0 0) (k0  fuel))
  else
  none) := by kernel_rfl
theorem s0 (fuel n0 : Nat) (p0q0 : List Int) (p0q1 : List Int) (x0q0 : Int) (x0q1 : Int) : L0 fuel (n0 + 1) (t0 p0q0 p0q1 x0q0 x0q1) (k0  fuel) =
  (idx 0 p0q0.length).bind fun j13 =>
  (p0q0[j13]?).bind fun v14 =>
  (bif (decide ((x0q1 : Int) < v14)) then
  (idx 0 p0q0.length).bind fun j15 =>
  (p0q0[j15]?).bind fun v16 =>
  (idx (IntKind.wrap .i64 ((IntKind.wrap .i64 (x0q1 * v16)) + x0q1)) p0q1.length).bind fun j17 =>
  (p0q1[j17]?).bind fun v18 =>
  L0 fuel n0 (t0 p0q0 p0q1 ((IntKind.wrap .i64 (x0q0 + v18))) ((IntKind.wrap .i64 (x0q1 + 1)))) (k0  fuel)
  else
  some ([.one ((.int .i64 x0q0), false), .one ((.bool true), false)], [])) := by kernel_rfl
end spec_TraceOf
theorem spec_TraceOf.ok_of (hX : ∀ E ∈ spec_TraceOf.X, CallSpec Try.prog E) (h : ∀ (sh : List Int) (da : List Int), (decide (sh.length < 9223372036854775808) && decide (da.length < 9223372036854775808)) = true → ∃ fuel, runF Try.prog spec_TraceOf.X spec_TraceOf.I 0 fuel 30 Try.f30 [.d (.agg [(.ints .i64 sh), (.ints .i64 da)])] = some ([.one ((.int .i64 (traV sh da)), false), .one ((.bool (sqB sh da)), false)], [])) : CallSpec Try.prog spec_TraceOf.E :=
  callSpec_of (d := 0) hX (by kernel_rfl) spec_TraceOf.I_ok (by kernel_rfl) (by kernel_rfl) (by kernel_rfl) (fun _ _ _ _ h => by dsimp only [spec_TraceOf.E] at h; cases h) (fun xs hp => by
    dsimp only [spec_TraceOf.E] at hp ⊢
    split at hp
    · exact h _ _ hp
    · cases hp)
theorem spec_TraceOf.ok : CallSpec Try.prog spec_TraceOf.E := spec_TraceOf.ok_of (by simp [spec_TraceOf.X, spec_isSquare.ok]) fun sh da h => by
  obtain ⟨F, hF⟩ : ∃ F : Nat, 100 < F := ⟨101, by omega⟩
  refine ⟨F, ?_⟩
  rw [spec_TraceOf.e, h, cond_true]
  unfold traV
  cases hb : sqB sh da with
  | false => rfl
  | true =>
    obtain ⟨n, hn, hsh, hl, hv, ha⟩ := sqB_inv hb
    have h4 := sq4 hn
    have ed := dg_sq hn hl hv hsh
    rw [ed]
    simp only [Bool.not_true, cond_false, cond_true]
    have ix : idx 0 sh.length = some 0 := by rw [hsh]; rfl
    have ig : sh[0]? = some (n : Int) := by rw [hsh]; rfl
    refine run_loop (N := n) (fun m j a => spec_TraceOf.L0 F m (spec_TraceOf.t0 sh da a (j : Int)) (spec_TraceOf.k0 F)) (fun j a => a = sumF (tab j fun i => da.getD (i * (n + 1)) 0) 0) ?_ ?_ F 0 0 (by omega) (by omega) rfl
    · rintro m a rfl
      rw [spec_TraceOf.s0, ix]
      simp only [Option.bind_some, ig]
      rw [dge (by omega), cond_false]
      rfl
    · rintro m j a hj rfl
      have hjn : j * (n + 1) < n * n := by
        have : j * (n + 1) ≤ (n - 1) * (n + 1) := Nat.mul_le_mul (by omega) (Nat.le_refl _)
        have e : (n - 1) * (n + 1) = n * n - 1 := by
          have : ∀ i : Fin 5, (i.1 - 1) * (i.1 + 1) = i.1 * i.1 - 1 := by decide
          exact this ⟨n, by omega⟩
        have : 1 ≤ n * n := Nat.mul_le_mul (by omega : 1 ≤ n) (by omega : 1 ≤ n)
        omega
      have hm : j * n + j = j * (n + 1) := by rw [Nat.mul_succ]
      rw [spec_TraceOf.s0, ix]
      simp only [Option.bind_some, ig]
      rw [dlt hj, cond_true, wMul (by omega), wAdd (by omega), hm, idx_nat (by omega), w1 (by omega)]
      simp only [Option.bind_some, getD_get (show j * (n + 1) < da.length by omega)]
      refine ⟨_, ?_, rfl⟩
      rw [tab_succ, sumF_app]
      rfl

namespace impl_ReduceAll
noncomputable def E : Entry := ⟨31, true, false, fun | [.d (.int .i64 op), .d (.agg [(.ints .i64 sh), (.ints .i64 da)])] => decide (sh.length < 9223372036854775808) && decide (da.length < 9223372036854775808) | _ => false, fun | [.d (.int .i64 op), .d (.agg [(.ints .i64 sh), (.ints .i64 da)])] => ([.one ((.int .i64 (rallV op sh da)), false)], []) | _ => ([], []), fun _ => [], false, fun _ => none⟩
end impl_ReduceAll
namespace impl_ReduceAll
noncomputable def X : List Entry := [impl_reductionOf.E, impl_ValidArray.E]
noncomputable def I : List Inl := [⟨31, Try.f31, ⟨[], [], [], [], [], []⟩⟩]
theorem I_ok : ∀ i ∈ I, Try.prog.funcs[i.f]? = some i.fn ∧ (i.fn.name == "runtime.NumGoroutine") = false := by
  intro i hi
  simp only [I, List.mem_cons, List.not_mem_nil, or_false] at hi
  subst hi
  exact ⟨by kernel_rfl, by kernel_rfl⟩
theorem e (fuel : Nat) (p0 : Int) (p1q0 : List Int) (p1q1 : List Int) : runF Try.prog X I 0 fuel 31 Try.f31 [.d (.int .i64 p0), .d (.agg [(.ints .i64 p1q0), (.ints .i64 p1q1)])] =
  (bif opOk p0 then
  (bif decide (p1q0.length < 9223372036854775808) && decide (p1q1.length < 9223372036854775808) then
  (bif (!(validA p1q0 p1q1)) then
  some ([.one ((.int .i64 0), false)], [])
  else
  (bif (ql [Q.l p1q1]) then
  some ([.one ((.int .i64 (((qlv (redF p0))) [Q.l p1q1])), false)], [])
  else
  none))
  else
  none)
  else
  some ([.one ((.int .i64 0), false)], [])) := by kernel_rfl
end impl_ReduceAll
theorem impl_ReduceAll.ok_of (hX : ∀ E ∈ impl_ReduceAll.X, CallSpec Try.prog E) (h : ∀ (op : Int) (sh : List Int) (da : List Int), (decide (sh.length < 9223372036854775808) && decide (da.length < 9223372036854775808)) = true → ∃ fuel, runF Try.prog impl_ReduceAll.X impl_ReduceAll.I 0 fuel 31 Try.f31 [.d (.int .i64 op), .d (.agg [(.ints .i64 sh), (.ints .i64 da)])] = some ([.one ((.int .i64 (rallV op sh da)), false)], [])) : CallSpec Try.prog impl_ReduceAll.E :=
  callSpec_of (d := 0) hX (by kernel_rfl) impl_ReduceAll.I_ok (by kernel_rfl) (by kernel_rfl) (by kernel_rfl) (fun _ _ _ _ h => by dsimp only [impl_ReduceAll.E] at h; cases h) (fun xs hp => by
    dsimp only [impl_ReduceAll.E] at hp ⊢
    split at hp
    · exact h _ _ _ hp
    · cases hp)
theorem impl_ReduceAll.ok : CallSpec Try.prog impl_ReduceAll.E := impl_ReduceAll.ok_of (by simp [impl_ReduceAll.X, impl_reductionOf.ok, impl_ValidArray.ok]) fun op sh da h => ⟨0, by
  rw [impl_ReduceAll.e, h]
  have hl : decide (da.length < 9223372036854775808) = true := by simp only [Bool.and_eq_true] at h; exact h.2
  have hq : ql [.l da] = true := hl
  unfold rallV
  cases ho : opOk op with
  | false => rfl
  | true => cases hv : validA sh da with
    | false => rfl
    | true => rw [hq]; rfl⟩

namespace laws_FnTraceOf
noncomputable def E : Entry := ⟨7, true, false, fun | [.d (.ints .u8 bs)] => bytesB bs | _ => false, fun | [.d (.ints .u8 bs)] => ([.one ((.bool true), false)], []) | _ => ([], []), fun _ => [], false, fun _ => none⟩
end laws_FnTraceOf
namespace laws_FnTraceOf
noncomputable def X : List Entry := [spec_DrawTraceOf.E, impl_TraceOf.E, spec_TraceOf.E, impl_Transpose.E, impl_Diagonal.E, impl_ReduceAll.E]
noncomputable def I : List Inl := [⟨7, Try.f7, ⟨[14, 47, 53], [], [], [], [], []⟩⟩]
theorem I_ok : ∀ i ∈ I, Try.prog.funcs[i.f]? = some i.fn ∧ (i.fn.name == "runtime.NumGoroutine") = false := by
  intro i hi
  simp only [I, List.mem_cons, List.not_mem_nil, or_false] at hi
  subst hi
  exact ⟨by kernel_rfl, by kernel_rfl⟩
theorem e (fuel : Nat) (p0 : List Int) : runF Try.prog X I 0 fuel 7 Try.f7 [.d (.ints .u8 p0)] =
  (bif (decide ((((p0.length : Nat) : Int) : Int) > 1048576)) then
  some ([.one ((.bool true), false)], [])
  else
  (bif bytesB p0 then
  (bif decide (((asS (cutC p0) 0)).length < 9223372036854775808) && decide (((asD (cutC p0) 0)).length < 9223372036854775808) then
  (bif decide (((asS (cutC p0) 0)).length < 9223372036854775808) && decide (((asD (cutC p0) 0)).length < 9223372036854775808) then
  (bif (((traV ((asS (cutC p0) 0)) ((asD (cutC p0) 0))) : Int) != (traV ((asS (cutC p0) 0)) ((asD (cutC p0) 0)))) then
  (bif (((traV ((asS (cutC p0) 0)) ((asD (cutC p0) 0))) : Int) == (traV ((asS (cutC p0) 0)) ((asD (cutC p0) 0)))) then
  some ([.one ((.bool ((sqB ((asS (cutC p0) 0)) ((asD (cutC p0) 0))) == (sqB ((asS (cutC p0) 0)) ((asD (cutC p0) 0))))), false)], [])
  else
  some ([.one ((.bool false), false)], []))
  else
  (bif (!((sqB ((asS (cutC p0) 0)) ((asD (cutC p0) 0))) == (sqB ((asS (cutC p0) 0)) ((asD (cutC p0) 0))))) then
  (bif (((traV ((asS (cutC p0) 0)) ((asD (cutC p0) 0))) : Int) == (traV ((asS (cutC p0) 0)) ((asD (cutC p0) 0)))) then
  some ([.one ((.bool ((sqB ((asS (cutC p0) 0)) ((asD (cutC p0) 0))) == (sqB ((asS (cutC p0) 0)) ((asD (cutC p0) 0))))), false)], [])
  else
  some ([.one ((.bool false), false)], []))
  else
  (bif (!(sqB ((asS (cutC p0) 0)) ((asD (cutC p0) 0)))) then
  (bif (((traV ((asS (cutC p0) 0)) ((asD (cutC p0) 0))) : Int) == (traV ((asS (cutC p0) 0)) ((asD (cutC p0) 0)))) then
  some ([.one ((.bool ((sqB ((asS (cutC p0) 0)) ((asD (cutC p0) 0))) == (sqB ((asS (cutC p0) 0)) ((asD (cutC p0) 0))))), false)], [])
  else
  some ([.one ((.bool false), false)], []))
  else
  (bif decide (((asS (cutC p0) 0)).length < 9223372036854775808) && decide (((asD (cutC p0) 0)).length < 9223372036854775808) then
  (bif decide (((trS ((asS (cutC p0) 0)) ((asD (cutC p0) 0)))).length < 9223372036854775808) && decide (((trD ((asS (cutC p0) 0)) ((asD (cutC p0) 0)))).length < 9223372036854775808) then
  (bif decide (((asS (cutC p0) 0)).length < 9223372036854775808) && decide (((asD (cutC p0) 0)).length < 9223372036854775808) then
  (bif decide (((dgS ((asS (cutC p0) 0)) ((asD (cutC p0) 0)))).length < 9223372036854775808) && decide (((dgD ((asS (cutC p0) 0)) ((asD (cutC p0) 0)))).length < 9223372036854775808) then
  (bif (((traV ((asS (cutC p0) 0)) ((asD (cutC p0) 0))) : Int) == (rallV 1 ((dgS ((asS (cutC p0) 0)) ((asD (cutC p0) 0)))) ((dgD ((asS (cutC p0) 0)) ((asD (cutC p0) 0)))))) then
  (bif (sqB ((trS ((asS (cutC p0) 0)) ((asD (cutC p0) 0)))) ((trD ((asS (cutC p0) 0)) ((asD (cutC p0) 0))))) then
  some ([.one ((.bool (((traV ((trS ((asS (cutC p0) 0)) ((asD (cutC p0) 0)))) ((trD ((asS (cutC p0) 0)) ((asD (cutC p0) 0))))) : Int) == (traV ((asS (cutC p0) 0)) ((asD (cutC p0) 0))))), false)], [])
  else
  some ([.one ((.bool false), false)], []))
  else
  some ([.one ((.bool false), false)], []))
  else
  none)
  else
  none)
  else
  none)
  else
  none))))
  else
  none)
  else
  none)
  else
  none)) := by kernel_rfl
end laws_FnTraceOf
theorem laws_FnTraceOf.ok_of (hX : ∀ E ∈ laws_FnTraceOf.X, CallSpec Try.prog E) (h : ∀ (bs : List Int), (bytesB bs) = true → ∃ fuel, runF Try.prog laws_FnTraceOf.X laws_FnTraceOf.I 0 fuel 7 Try.f7 [.d (.ints .u8 bs)] = some ([.one ((.bool true), false)], [])) : CallSpec Try.prog laws_FnTraceOf.E :=
  callSpec_of (d := 0) hX (by kernel_rfl) laws_FnTraceOf.I_ok (by kernel_rfl) (by kernel_rfl) (by kernel_rfl) (fun _ _ _ _ h => by dsimp only [laws_FnTraceOf.E] at h; cases h) (fun xs hp => by
    dsimp only [laws_FnTraceOf.E] at hp ⊢
    split at hp
    · exact h _ hp
    · cases hp)
theorem laws_FnTraceOf.ok : CallSpec Try.prog laws_FnTraceOf.E := laws_FnTraceOf.ok_of (by simp [laws_FnTraceOf.X, spec_DrawTraceOf.ok, impl_TraceOf.ok, spec_TraceOf.ok, impl_Transpose.ok, impl_Diagonal.ok, impl_ReduceAll.ok]) fun bs h => by
  obtain ⟨F, hF⟩ : ∃ F : Nat, 4000 < F := ⟨4001, by omega⟩
  refine ⟨F, ?_⟩
  rw [laws_FnTraceOf.e]
  by_cases hl : ((bs.length : Nat) : Int) > 1048576
  · rw [decide_eq_true hl]; rfl
  rw [decide_eq_false hl, cond_false, h, cond_true]
  have r0 := cut_ok h (p := 0) (by omega) (by omega)
  obtain ⟨a1, a2, a3, a4⟩ := as_bd r0 (by omega)
  obtain ⟨sh, hsh⟩ : ∃ x, asS (cutC bs) 0 = x := ⟨_, rfl⟩
  obtain ⟨da, hda⟩ : ∃ x, asD (cutC bs) 0 = x := ⟨_, rfl⟩
  rw [hsh] at a1
  rw [hda] at a2
  have g1 := lt_of (xs := sh) (by omega)
  have g2 := lt_of (xs := da) (by omega)
  simp only [hsh, hda]
  have wt := tr_len sh da
  have wg := dg_len sh da
  have g3 := lt_of (xs := trS sh da) (by omega)
  have g4 := lt_of (xs := trD sh da) (by omega)
  have g5 := lt_of (xs := dgS sh da) (by omega)
  have g6 := lt_of (xs := dgD sh da) (by omega)
  cases hb : sqB sh da with
  | false => simp only [Bool.and_self, Bool.and_true, Bool.true_and, cond_true, cond_false, Bool.not_true, Bool.not_false, bne_self_eq_false, beq_self_eq_true, decide_true, eq_self, g1, g2]
  | true =>
    obtain ⟨k, hk, rfl, hl, hv, ha⟩ := sqB_inv hb
    obtain ⟨t1, t2, t3, t4, t5⟩ := tr_sq hk hl hv ha
    have hdg : dgB [(k : Int), (k : Int)] da = true := by simp [dgB, hv]
    have ed := dg_sq hk hl hv rfl
    obtain ⟨_, d2⟩ := dg_tr hv (by simp)
    rw [t1] at d2
    have ev : dgD [(k : Int), (k : Int)] (trD [(k : Int), (k : Int)] da) = dgD [(k : Int), (k : Int)] da := by
      rw [d2]; simp only [dgD, hdg, cond_true]
    have et : traV [(k : Int), (k : Int)] (trD [(k : Int), (k : Int)] da) = traV [(k : Int), (k : Int)] da := by simp only [traV, t2, hb, cond_true, ev]
    have hdm : ∀ x ∈ dgD [(k : Int), (k : Int)] da, -100 ≤ x ∧ x ≤ 100 := by
      rw [ed]
      exact tab_mem' (P := fun x => -100 ≤ x ∧ x ≤ 100) fun i hi => getD_all (P := fun x => -100 ≤ x ∧ x ≤ 100) (by omega) (allB_iff.1 ha) _
    have hdl : (dgD [(k : Int), (k : Int)] da).length = k := by rw [ed, tab_length]
    have hvd : validA (dgS [(k : Int), (k : Int)] da) (dgD [(k : Int), (k : Int)] da) = true := by
      have := dg_valid hdg
      simp only [dgS, dgD, hdg, cond_true]
      exact this
    have er : rallV 1 (dgS [(k : Int), (k : Int)] da) (dgD [(k : Int), (k : Int)] da) = traV [(k : Int), (k : Int)] da := by
      have o1 : opOk 1 = true := rfl
      simp only [rallV, hvd, o1, Bool.and_self, cond_true, traV, hb]
      rw [red_sum hdm (by omega) (by omega), sumW_eq (fun x hx => by have := hdm x hx; omega) (by omega)]
    rw [t1] at g3 ⊢
    simp only [Bool.and_self, Bool.and_true, Bool.true_and, cond_true, cond_false, Bool.not_true, Bool.not_false, bne_self_eq_false, beq_self_eq_true, decide_true, eq_self, g1, g2, g3, g4, g5, g6, er, et, t2]

namespace spec_DrawPowerOf
noncomputable def E : Entry := ⟨33, false, false, fun | [.d (.ints .u8 bs)] => bytesB bs | _ => false, fun | [.d (.ints .u8 bs)] => ([.agg [((.ints .i64 (asS (cutC bs) 0)), false), ((.ints .i64 (asD (cutC bs) 0)), false)], .one ((.int .i64 (oneV (cutC bs) (asP (cutC bs) 0) powL5)), false)], []) | _ => ([], []), fun _ => [], true, fun _ => none⟩
end spec_DrawPowerOf
namespace spec_DrawPowerOf
noncomputable def X : List Entry := [spec_newReader.E, spec_anySquare.E, spec_reader_one.E]
noncomputable def I : List Inl := [⟨33, Try.f33, ⟨[9], [], [(3, [5])], [], [10, 12], []⟩⟩]
theorem I_ok : ∀ i ∈ I, Try.prog.funcs[i.f]? = some i.fn ∧ (i.fn.name == "runtime.NumGoroutine") = false := by
  intro i hi
  simp only [I, List.mem_cons, List.not_mem_nil, or_false] at hi
  subst hi
  exact ⟨by kernel_rfl, by kernel_rfl⟩
theorem e (fuel : Nat) (p0 : List Int) : runF Try.prog X I 0 fuel 33 Try.f33 [.d (.ints .u8 p0)] =
  (bif rdOk ((cutC p0)) 0 && decide ((0 : Int) ≤ 900000) then
  (bif rdOk (((cutC p0))) ((asP ((cutC p0)) 0)) && decide (0 < ((([2, 1, 0, 3, 5, 6, (-1)] : List Int)) : List Int).length) && decide (((([2, 1, 0, 3, 5, 6, (-1)] : List Int)) : List Int).length ≤ 1048576) then
  some ([.agg [((.ints .i64 (asS ((cutC p0)) 0)), false), ((.ints .i64 (asD ((cutC p0)) 0)), false)], .one ((.int .i64 (oneV (((cutC p0))) ((asP ((cutC p0)) 0)) (([2, 1, 0, 3, 5, 6, (-1)] : List Int)))), false)], [])
  else
  none)
  else
  none) := by kernel_rfl
end spec_DrawPowerOf
theorem spec_DrawPowerOf.ok_of (hX : ∀ E ∈ spec_DrawPowerOf.X, CallSpec Try.prog E) (h : ∀ (bs : List Int), (bytesB bs) = true → ∃ fuel, runF Try.prog spec_DrawPowerOf.X spec_DrawPowerOf.I 0 fuel 33 Try.f33 [.d (.ints .u8 bs)] = some ([.agg [((.ints .i64 (asS (cutC bs) 0)), false), ((.ints .i64 (asD (cutC bs) 0)), false)], .one ((.int .i64 (oneV (cutC bs) (asP (cutC bs) 0) powL5)), false)], [])) : CallSpec Try.prog spec_DrawPowerOf.E :=
  callSpec_of (d := 0) hX (by kernel_rfl) spec_DrawPowerOf.I_ok (by kernel_rfl) (by kernel_rfl) (by kernel_rfl) (fun _ _ _ _ h => by dsimp only [spec_DrawPowerOf.E] at h; cases h) (fun xs hp => by
    dsimp only [spec_DrawPowerOf.E] at hp ⊢
    split at hp
    · exact h _ hp
    · cases hp)
theorem spec_DrawPowerOf.ok : CallSpec Try.prog spec_DrawPowerOf.E := spec_DrawPowerOf.ok_of (by simp [spec_DrawPowerOf.X, spec_newReader.ok, spec_anySquare.ok, spec_reader_one.ok]) fun bs h => ⟨0, by
  have r0 := cut_ok h (p := 0) (by omega) (by omega)
  obtain ⟨a1, a2, a3, a4⟩ := as_bd r0 (by omega)
  rw [spec_DrawPowerOf.e, r0, rd_le (q := asP (cutC bs) 0) r0 (by omega) (by omega)]
  rfl⟩

namespace impl_PowerOf
noncomputable def E : Entry := ⟨34, false, false, fun | [.d (.agg [(.ints .i64 sh), (.ints .i64 da)]), .d (.int .i64 n)] => decide (sh.length < 9223372036854775808) && decide (da.length < 9223372036854775808) | _ => false, fun | [.d (.agg [(.ints .i64 sh), (.ints .i64 da)]), .d (.int .i64 n)] => ([.agg [((.ints .i64 (pwS sh da n)), true), ((.ints .i64 (ppD sh da n)), true)], .one ((.bool (poOk sh da n)), false)], []) | _ => ([], []), fun _ => [], true, fun _ => none⟩
end impl_PowerOf
namespace impl_PowerOf
noncomputable def X : List Entry := [impl_isSquare.E, impl_Identity.E, impl_SumProduct.E]
noncomputable def I : List Inl := [⟨34, Try.f34, ⟨[23, 30], [(1000005, [0, 1, 3, 5, 7, 8, 9, 10, 11, 12, 13, 14, 15, 16, 17, 18, 19, 20, 21, 22, 23, 26, 27, 28, 29, 30, 31, 32, 33, 34])], [], [], [], []⟩⟩]
theorem I_ok : ∀ i ∈ I, Try.prog.funcs[i.f]? = some i.fn ∧ (i.fn.name == "runtime.NumGoroutine") = false := by
  intro i hi
  simp only [I, List.mem_cons, List.not_mem_nil, or_false] at hi
  subst hi
  exact ⟨by kernel_rfl, by kernel_rfl⟩
noncomputable abbrev L0 (fuel n : Nat) (s : St) (k : Kont) := lAt Try.prog X I fuel true 0 false 34 (bodyOf Try.f34) [1, 1, 1, 0, 1, 0] n s k
noncomputable abbrev k0  (fuel : Nat) : Kont := (kAt Try.prog X I fuel true 0 false 34 (bodyOf Try.f34) [1, 1, 1, 0, 1, 0] [] (endK Try.prog Try.f34))
noncomputable def t0 (p1 : Int) (p0q0 : List Int) (p0q1 : List Int) (x0q1 : Int) (x0q4 : List Int) (x0q5 : List Int) : St := ⟨[.dead, .dead, (.ptr 1000000000 0 0), .dead, (.ptr 1000000001 0 0), .dead, (.ptr 1000000002 0 0), .dead, .dead, .dead, .dead, .dead, .dead, .dead, .dead, .dead, .dead, .dead, .dead, .dead, .dead, .dead, .dead, .dead, (.imm (.int .i64 p1)), (.imm (.int .i64 x0q1)), .dead, .dead, .dead, .dead, .dead, .dead, .dead, .dead, .dead], hOf [(1000000000, (.box [(.imm (.ints .i64 p0q0)), (.imm (.ints .i64 p0q1))])), (1000000001, (.box [(.imm .nils), (.imm .nils)])), (1000000002, (.box [(.all 1000000003 1), (.all 1000000004 1)])), (1000000003, (.ints .i64 x0q4)), (1000000004, (.ints .i64 x0q5))], [], []⟩
theorem e (fuel : Nat) (p0q0 : List Int) (p0q1 : List Int) (p1 : Int) : runF Try.prog X I 0 fuel 34 Try.f34 [.d (.agg [(.ints .i64 p0q0), (.ints .i64 p0q1)]), .d (.int .i64 p1)] =
  (bif decide (p0q0.length < 9223372036854775808) && decide (p0q1.length < 9223372036854775808) then
  (bif (!(sqB p0q0 p0q1)) then
  some ([.agg [((.ints .i64 []), true), ((.ints .i64 []), true)], .one ((.bool false), false)], [])
  else
  (bif (decide ((p1 : Int) < 0)) then
  some ([.agg [((.ints .i64 []), true), ((.ints .i64 []), true)], .one ((.bool false), false)], [])
  else
  (bif (decide ((p1 : Int) > 5)) then
  some ([.agg [((.ints .i64 []), true), ((.ints .i64 []), true)], .one ((.bool false), false)], [])
  else
  (idx 0 p0q0.length).bind fun j1 =>
  (p0q0[j1]?).bind fun v2 =>
  L0 fuel fuel (t0 p1 p0q0 p0q1 0 ((idS v2)) ((idD v2))) (k0  fuel))))
  else
  none) := by kernel_rfl
theorem s0 (fuel n0 : Nat) (p1 : Int) (p0q0 : List Int) (p0q1 : List Int) (x0q1 : Int) (x0q4 : List Int) (x0q5 : List Int) : L0 fuel (n0 + 1) (t0 p1 p0q0 p0q1 x0q1 x0q4 x0q5) (k0  fuel) =
  (bif (decide ((x0q1 : Int) < p1)) then
  (bif decide (x0q4.length < 9223372036854775808) && decide (x0q5.length < 9223372036854775808) && decide (p0q0.length < 9223372036854775808) && decide (p0q1.length < 9223372036854775808) then
  L0 fuel n0 (t0 p1 p0q0 p0q1 ((IntKind.wrap .i64 (x0q1 + 1))) ((inS 1 3 x0q4 x0q5 p0q0 p0q1)) ((inD 1 3 x0q4 x0q5 p0q0 p0q1))) (k0  fuel)
  else
  none)
  else
  some ([.agg [((.ints .i64 x0q4), true), ((.ints .i64 x0q5), true)], .one ((.bool true), false)], [])) := by kernel_rfl
end impl_PowerOf
theorem impl_PowerOf.ok_of (hX : ∀ E ∈ impl_PowerOf.X, CallSpec Try.prog E) (h : ∀ (sh : List Int) (da : List Int) (n : Int), (decide (sh.length < 9223372036854775808) && decide (da.length < 9223372036854775808)) = true → ∃ fuel, runF Try.prog impl_PowerOf.X impl_PowerOf.I 0 fuel 34 Try.f34 [.d (.agg [(.ints .i64 sh), (.ints .i64 da)]), .d (.int .i64 n)] = some ([.agg [((.ints .i64 (pwS sh da n)), true), ((.ints .i64 (ppD sh da n)), true)], .one ((.bool (poOk sh da n)), false)], [])) : CallSpec Try.prog impl_PowerOf.E :=
  callSpec_of (d := 0) hX (by kernel_rfl) impl_PowerOf.I_ok (by kernel_rfl) (by kernel_rfl) (by kernel_rfl) (fun _ _ _ _ h => by dsimp only [impl_PowerOf.E] at h; cases h) (fun xs hp => by
    dsimp only [impl_PowerOf.E] at hp ⊢
    split at hp
    · exact h _ _ _ hp
    · cases hp)
theorem impl_PowerOf.ok : CallSpec Try.prog impl_PowerOf.E := impl_PowerOf.ok_of (by simp [impl_PowerOf.X, impl_isSquare.ok, impl_Identity.ok, impl_SumProduct.ok]) fun sh da n h => by
  obtain ⟨F, hF⟩ : ∃ F : Nat, 100 < F := ⟨101, by omega⟩
  refine ⟨F, ?_⟩
  rw [impl_PowerOf.e, h, cond_true]
  unfold pwS ppD poOk
  cases hb : sqB sh da with
  | false => rfl
  | true =>
    have hneg : decide (n < 0) = !decide (0 ≤ n) := by by_cases h0 : 0 ≤ n <;> simp [h0] <;> omega
    have hneg2 : decide (n > 5) = !decide (n ≤ 5) := by by_cases h0 : n ≤ 5 <;> simp [h0] <;> omega
    rw [hneg, hneg2]
    cases hp : decide (0 ≤ n) && decide (n ≤ 5) with
    | false =>
      cases h1 : decide (0 ≤ n) with
      | false => rfl
      | true =>
        rw [h1, Bool.true_and] at hp
        rw [hp]
        rfl
    | true =>
      rw [Bool.and_eq_true] at hp
      rw [hp.1, hp.2]
      simp only [Bool.and_eq_true, decide_eq_true_eq] at hp h
      have hp1 := hp.1
      have hp2 := hp.2
      obtain ⟨p, rfl⟩ : ∃ p : Nat, n = p := ⟨n.toNat, by omega⟩
      obtain ⟨k, hk, hsh, hl, hv, ha⟩ := sqB_inv hb
      have h4 := sq4 hk
      have hF2 := pow_facts hk hl hv hsh
      have ix : idx 0 sh.length = some 0 := by rw [hsh]; rfl
      have ig : sh[0]? = some (k : Int) := by rw [hsh]; rfl
      rw [ix]
      simp only [Option.bind_some, ig]
      rw [(idSD hk).1, (idSD hk).2]
      simp only [Bool.and_self, Bool.not_true, cond_false, cond_true, Int.toNat_natCast]
      refine run_loop (N := p) (fun m j (st : List Int × List Int) => impl_PowerOf.L0 F m (impl_PowerOf.t0 (p : Int) sh da (j : Int) st.1 st.2) (impl_PowerOf.k0 F)) (fun j st => st.1 = sh ∧ st.2 = powL sh da j) ?_ ?_ F 0 (_, _) (by omega) (by omega) ⟨hsh.symm, by rw [hsh]; rfl⟩
      · rintro m ⟨s1, s2⟩ ⟨e1, e2⟩
        simp only at e1 e2
        subst s1; subst s2
        rw [impl_PowerOf.s0, dge (by omega), cond_false]
      · rintro m j ⟨s1, s2⟩ hj ⟨e1, e2⟩
        simp only at e1 e2
        subst s1; subst s2
        obtain ⟨q1, q2, q3⟩ := hF2 j
        dsimp only
        rw [impl_PowerOf.s0, dlt hj, cond_true, w1 (by omega), lt_of (by omega), lt_of (by omega), lt_of (by omega)]
        refine ⟨(sh, powL sh da (j + 1)), ⟨rfl, rfl⟩, ?_⟩
        rw [q2, q3]
        rfl

namespace spec_validOp
noncomputable def E : Entry := ⟨116, true, false, fun | [.d (.int .i64 op)] => true | _ => false, fun | [.d (.int .i64 op)] => ([.one ((.bool (opOk op)), false)], []) | _ => ([], []), fun _ => [], false, fun _ => none⟩
end spec_validOp
namespace spec_validOp
noncomputable def X : List Entry := [spec_inRange.E]
noncomputable def I : List Inl := [⟨116, Try.f116, ⟨[], [], [], [], [], []⟩⟩]
theorem I_ok : ∀ i ∈ I, Try.prog.funcs[i.f]? = some i.fn ∧ (i.fn.name == "runtime.NumGoroutine") = false := by
  intro i hi
  simp only [I, List.mem_cons, List.not_mem_nil, or_false] at hi
  subst hi
  exact ⟨by kernel_rfl, by kernel_rfl⟩
theorem e (fuel : Nat) (p0 : Int) : runF Try.prog X I 0 fuel 116 Try.f116 [.d (.int .i64 p0)] =
  some ([.one ((.bool (decide (1 ≤ p0) && decide (p0 ≤ 8))), false)], []) := by kernel_rfl
end spec_validOp
theorem spec_validOp.ok_of (hX : ∀ E ∈ spec_validOp.X, CallSpec Try.prog E) (h : ∀ (op : Int), (true) = true → ∃ fuel, runF Try.prog spec_validOp.X spec_validOp.I 0 fuel 116 Try.f116 [.d (.int .i64 op)] = some ([.one ((.bool (opOk op)), false)], [])) : CallSpec Try.prog spec_validOp.E :=
  callSpec_of (d := 0) hX (by kernel_rfl) spec_validOp.I_ok (by kernel_rfl) (by kernel_rfl) (by kernel_rfl) (fun _ _ _ _ h => by dsimp only [spec_validOp.E] at h; cases h) (fun xs hp => by
    dsimp only [spec_validOp.E] at hp ⊢
    split at hp
    · exact h _ hp
    · cases hp)
theorem spec_validOp.ok : CallSpec Try.prog spec_validOp.E := spec_validOp.ok_of (by simp [spec_validOp.X, spec_inRange.ok]) fun op _ => ⟨0, by rw [spec_validOp.e]; rfl⟩

namespace spec_around
noncomputable def E : Entry := ⟨126, true, false, fun | [.d (.ints .i64 sh), .d (.int .i64 k)] => validS sh && axOk sh k | _ => false, fun | [.d (.ints .i64 sh), .d (.int .i64 k)] => ([.one ((.int .i64 ((befN sh k.toNat : Nat) : Int)), false), .one ((.int .i64 ((behN sh k.toNat : Nat) : Int)), false)], []) | _ => ([], []), fun _ => [], false, fun _ => none⟩
end spec_around
namespace spec_around
noncomputable def X : List Entry := [spec_volume.E]
noncomputable def I : List Inl := [⟨126, Try.f126, ⟨[], [], [], [(1, [0, 1, 4, 5, 6, 2, 3, 7, 8, 9, 10])], [], []⟩⟩]
theorem I_ok : ∀ i ∈ I, Try.prog.funcs[i.f]? = some i.fn ∧ (i.fn.name == "runtime.NumGoroutine") = false := by
  intro i hi
  simp only [I, List.mem_cons, List.not_mem_nil, or_false] at hi
  subst hi
  exact ⟨by kernel_rfl, by kernel_rfl⟩
theorem e (fuel : Nat) (p0 : List Int) (p1 : Int) : runF Try.prog X I 0 fuel 126 Try.f126 [.d (.ints .i64 p0), .d (.int .i64 p1)] =
  (cutEnds p0.length (none) (some (.imm (.int .i64 p1)))).bind fun cq1 =>
  (bif decide ((((p0.drop cq1.1).take (cq1.2 - cq1.1))).length < 9223372036854775808) then
  (cutEnds p0.length (some (.imm (.int .i64 (IntKind.wrap .i64 (p1 + 1))))) (none)).bind fun cq2 =>
  (bif decide ((((p0.drop cq2.1).take (cq2.2 - cq2.1))).length < 9223372036854775808) then
  some ([.one ((.int .i64 (volW (((p0.drop cq1.1).take (cq1.2 - cq1.1))))), false), .one ((.int .i64 (volW (((p0.drop cq2.1).take (cq2.2 - cq2.1))))), false)], [])
  else
  none)
  else
  none) := by kernel_rfl
end spec_around
theorem spec_around.ok_of (hX : ∀ E ∈ spec_around.X, CallSpec Try.prog E) (h : ∀ (sh : List Int) (k : Int), (validS sh && axOk sh k) = true → ∃ fuel, runF Try.prog spec_around.X spec_around.I 0 fuel 126 Try.f126 [.d (.ints .i64 sh), .d (.int .i64 k)] = some ([.one ((.int .i64 ((befN sh k.toNat : Nat) : Int)), false), .one ((.int .i64 ((behN sh k.toNat : Nat) : Int)), false)], [])) : CallSpec Try.prog spec_around.E :=
  callSpec_of (d := 0) hX (by kernel_rfl) spec_around.I_ok (by kernel_rfl) (by kernel_rfl) (by kernel_rfl) (fun _ _ _ _ h => by dsimp only [spec_around.E] at h; cases h) (fun xs hp => by
    dsimp only [spec_around.E] at hp ⊢
    split at hp
    · exact h _ _ hp
    · cases hp)
theorem spec_around.ok : CallSpec Try.prog spec_around.E := spec_around.ok_of (by simp [spec_around.X, spec_volume.ok]) fun sh k h => ⟨0, by
  rw [spec_around.e]
  simp only [Bool.and_eq_true] at h
  obtain ⟨e1, e2⟩ := axOk_nat h.2
  have ax := ax_of h.1 e2
  have hr := ax.rank
  generalize k.toNat = j at *
  subst e1
  rw [cut_hi (by omega), w1 (by omega), cut_lo (by omega)]
  simp only [Option.bind_some, List.drop_zero, Nat.sub_zero, drop_take]
  rw [lt_of (by simp; omega), lt_of (by simp; omega), ax.bef, ax.beh]
  rfl⟩

namespace spec_lane
noncomputable def E : Entry := ⟨117, false, false, fun | [.d (.agg [(.ints .i64 sh), (.ints .i64 da)]), .d (.int .i64 k), .d (.int .i64 i), .d (.int .i64 m)] => axB sh da k && laneB sh k i m | _ => false, fun | [.d (.agg [(.ints .i64 sh), (.ints .i64 da)]), .d (.int .i64 k), .d (.int .i64 i), .d (.int .i64 m)] => ([.one ((.ints .i64 (lnK sh da k (Int.toNat i) (Int.toNat m))), true)], []) | _ => ([], []), fun _ => [], true, fun _ => none⟩
end spec_lane
namespace spec_lane
noncomputable def X : List Entry := [spec_around.E]
noncomputable def I : List Inl := [⟨117, Try.f117, ⟨[], [(1000004, [0, 5, 6, 7, 8, 10, 13, 14, 15, 16, 17, 18, 19, 20, 21, 22, 23, 24, 25, 26, 27, 28, 29, 30, 31, 32, 33, 34, 35, 36, 37, 38, 39, 40, 41, 42, 43, 44, 45, 46, 47, 48, 49, 50])], [], [(6, [0, 1, 3, 4, 6, 10, 12, 14, 2, 5, 7, 8, 9, 11, 13, 15, 16, 17, 18, 19, 20])], [], []⟩⟩]
theorem I_ok : ∀ i ∈ I, Try.prog.funcs[i.f]? = some i.fn ∧ (i.fn.name == "runtime.NumGoroutine") = false := by
  intro i hi
  simp only [I, List.mem_cons, List.not_mem_nil, or_false] at hi
  subst hi
  exact ⟨by kernel_rfl, by kernel_rfl⟩
noncomputable abbrev L0 (fuel n : Nat) (s : St) (k : Kont) := lAt Try.prog X I fuel true 0 false 117 (bodyOf Try.f117) [1, 1, 1, 0, 1, 0] n s k
noncomputable abbrev k0  (fuel : Nat) : Kont := (kAt Try.prog X I fuel true 0 false 117 (bodyOf Try.f117) [1, 1, 1, 0, 1, 0] [] (endK Try.prog Try.f117))
noncomputable def t0 (p1 : Int) (p2 : Int) (p3 : Int) (p0q0 : List Int) (p0q1 : List Int) (x0q4 : Int) (x0q7 : List Int) : St := ⟨[.dead, (.imm (.int .i64 p1)), (.imm (.int .i64 p2)), (.imm (.int .i64 p3)), (.ptr 1000000000 0 0), .dead, .dead, .dead, .dead, (.all 1000000001 1), .dead, (.imm (.int .i64 ((behN p0q0 p1.toNat : Nat) : Int))), (.imm (.int .i64 x0q4)), .dead, .dead, .dead, .dead, .dead, .dead, .dead, .dead, .dead, .dead, .dead, .dead, .dead, .dead, .dead, .dead, .dead, .dead, .dead, .dead, .dead, .dead, .dead, .dead, .dead, .dead, .dead, .dead, .dead, .dead, .dead, .dead, .dead, .dead, .dead, .dead, .dead, .dead], hOf [(1000000000, (.box [(.imm (.ints .i64 p0q0)), (.imm (.ints .i64 p0q1))])), (1000000001, (.ints .i64 x0q7))], [], []⟩
theorem e (fuel : Nat) (p0q0 : List Int) (p0q1 : List Int) (p1 : Int) (p2 : Int) (p3 : Int) : runF Try.prog X I 0 fuel 117 Try.f117 [.d (.agg [(.ints .i64 p0q0), (.ints .i64 p0q1)]), .d (.int .i64 p1), .d (.int .i64 p2), .d (.int .i64 p3)] =
  (bif validS p0q0 && axOk p0q0 p1 then
  L0 fuel fuel (t0 p1 p2 p3 p0q0 p0q1 0 ([])) (k0  fuel)
  else
  none) := by kernel_rfl
theorem s0 (fuel n0 : Nat) (p1 : Int) (p2 : Int) (p3 : Int) (p0q0 : List Int) (p0q1 : List Int) (x0q4 : Int) (x0q7 : List Int) : L0 fuel (n0 + 1) (t0 p1 p2 p3 p0q0 p0q1 x0q4 x0q7) (k0  fuel) =
  (idx p1 p0q0.length).bind fun j13 =>
  (p0q0[j13]?).bind fun v14 =>
  (bif (decide ((x0q4 : Int) < v14)) then
  (idx p1 p0q0.length).bind fun j15 =>
  (p0q0[j15]?).bind fun v16 =>
  (idx (IntKind.wrap .i64 ((IntKind.wrap .i64 ((IntKind.wrap .i64 ((IntKind.wrap .i64 (p2 * v16)) + x0q4)) * ((behN p0q0 p1.toNat : Nat) : Int))) + p3)) p0q1.length).bind fun j17 =>
  (p0q1[j17]?).bind fun v18 =>
  (bif fits (x0q7.length + ([v18] : List Int).length) 8 then
  L0 fuel n0 (t0 p1 p2 p3 p0q0 p0q1 ((IntKind.wrap .i64 (x0q4 + 1))) ((x0q7 ++ [v18]))) (k0  fuel)
  else
  none)
  else
  some ([.one ((.ints .i64 x0q7), true)], [])) := by kernel_rfl
end spec_lane
theorem spec_lane.ok_of (hX : ∀ E ∈ spec_lane.X, CallSpec Try.prog E) (h : ∀ (sh : List Int) (da : List Int) (k : Int) (i : Int) (m : Int), (axB sh da k && laneB sh k i m) = true → ∃ fuel, runF Try.prog spec_lane.X spec_lane.I 0 fuel 117 Try.f117 [.d (.agg [(.ints .i64 sh), (.ints .i64 da)]), .d (.int .i64 k), .d (.int .i64 i), .d (.int .i64 m)] = some ([.one ((.ints .i64 (lnK sh da k (Int.toNat i) (Int.toNat m))), true)], [])) : CallSpec Try.prog spec_lane.E :=
  callSpec_of (d := 0) hX (by kernel_rfl) spec_lane.I_ok (by kernel_rfl) (by kernel_rfl) (by kernel_rfl) (fun _ _ _ _ h => by dsimp only [spec_lane.E] at h; cases h) (fun xs hp => by
    dsimp only [spec_lane.E] at hp ⊢
    split at hp
    · exact h _ _ _ _ _ hp
    · cases hp)
theorem spec_lane.loop (fuel : Nat) (sh da : List Int) (k i m : Nat) (ax : Ax sh k) (hd : da.length = befN sh k * lenN sh k * behN sh k) (hi : i < befN sh k) (hm : m < behN sh k) (hf : 60 < fuel) :
    spec_lane.L0 fuel fuel (spec_lane.t0 (k : Int) (i : Int) (m : Int) sh da 0 []) (spec_lane.k0 fuel) = some ([.one ((.ints .i64 (lnD (lenN sh k) (behN sh k) da i m)), true)], []) := by
  have hL := ax.len_le
  have hlk := ax.lt
  have hle := ax.le
  refine run_loop (N := lenN sh k) (fun n j out => spec_lane.L0 fuel n (spec_lane.t0 (k : Int) (i : Int) (m : Int) sh da (j : Int) out) (spec_lane.k0 fuel)) (fun j out => out = tab j fun j => da.getD ((i * lenN sh k + j) * behN sh k + m) 0) ?_ ?_ fuel 0 [] (by omega) (by omega) rfl
  · intro n out ho
    change out = lnD (lenN sh k) (behN sh k) da i m at ho
    rw [spec_lane.s0, idx_nat hlk]
    simp only [Option.bind_some, getD_get hlk, ax.len]
    rw [decide_eq_false (by omega), ho]
    rfl
  · intro n j out hj ho
    have hl : out.length = j := by rw [ho, tab_length]
    obtain ⟨e1, _, _, _⟩ := enc3 hi hj hm
    have hx : i * lenN sh k + j ≤ 1000000000 := by
      have h2 := ax.bef_le
      have : i * lenN sh k ≤ 3600 * 60 := Nat.mul_le_mul (by omega) hL
      omega
    rw [spec_lane.s0, idx_nat hlk]
    simp only [Option.bind_some, getD_get hlk, ax.len]
    rw [dlt hj, cond_true, Int.toNat_natCast, wIdx hx (by omega), idx_nat (by omega), w1 (by omega)]
    simp only [Option.bind_some, getD_get (show (i * lenN sh k + j) * behN sh k + m < da.length by omega)]
    rw [fitsOk (by simp only [List.length_cons, List.length_nil]; omega), cond_true]
    exact ⟨_, by rw [tab_succ, ho], rfl⟩
theorem spec_lane.ok : CallSpec Try.prog spec_lane.E := spec_lane.ok_of (by simp [spec_lane.X, spec_around.ok]) fun sh da k i m h => by
  obtain ⟨F, hF⟩ : ∃ F : Nat, 60 < F := ⟨61, by omega⟩
  refine ⟨F, ?_⟩
  simp only [Bool.and_eq_true, laneB, decide_eq_true_eq] at h
  obtain ⟨j, rfl, hj, hv, ax, hd, hl⟩ := axB_inv h.1
  rw [Int.toNat_natCast] at h
  rw [spec_lane.e, (validA_inv hv).1, axOk_of hj]
  obtain ⟨i', rfl⟩ : ∃ i' : Nat, i = i' := ⟨i.toNat, by omega⟩
  obtain ⟨m', rfl⟩ : ∃ m' : Nat, m = m' := ⟨m.toNat, by omega⟩
  rw [Bool.and_self, cond_true, lnK, Int.toNat_natCast, Int.toNat_natCast, Int.toNat_natCast]
  exact spec_lane.loop F sh da j i' m' ax hd (by omega) (by omega) (by omega)

namespace spec_vector
noncomputable def E : Entry := ⟨120, false, false, fun | [.d (.ints .i64 xs)] => szB xs | _ => false, fun | [.d (.ints .i64 xs)] => ([.agg [((.ints .i64 [((xs.length : Nat) : Int)]), true), ((.ints .i64 xs), true)]], []) | _ => ([], []), fun _ => [], true, fun _ => none⟩
end spec_vector
namespace spec_vector
noncomputable def X : List Entry := [spec_make1.E]
noncomputable def I : List Inl := [⟨120, Try.f120, ⟨[7], [], [], [], [5], []⟩⟩]
theorem I_ok : ∀ i ∈ I, Try.prog.funcs[i.f]? = some i.fn ∧ (i.fn.name == "runtime.NumGoroutine") = false := by
  intro i hi
  simp only [I, List.mem_cons, List.not_mem_nil, or_false] at hi
  subst hi
  exact ⟨by kernel_rfl, by kernel_rfl⟩
theorem e (fuel : Nat) (p0 : List Int) : runF Try.prog X I 0 fuel 120 Try.f120 [.d (.ints .i64 p0)] =
  (bif szB (([((p0.length : Nat) : Int)] : List Int)) && szB p0 then
  some ([.agg [((.ints .i64 (([((p0.length : Nat) : Int)] : List Int))), true), ((.ints .i64 p0), true)]], [])
  else
  none) := by kernel_rfl
end spec_vector
theorem spec_vector.ok_of (hX : ∀ E ∈ spec_vector.X, CallSpec Try.prog E) (h : ∀ (xs : List Int), (szB xs) = true → ∃ fuel, runF Try.prog spec_vector.X spec_vector.I 0 fuel 120 Try.f120 [.d (.ints .i64 xs)] = some ([.agg [((.ints .i64 [((xs.length : Nat) : Int)]), true), ((.ints .i64 xs), true)]], [])) : CallSpec Try.prog spec_vector.E :=
  callSpec_of (d := 0) hX (by kernel_rfl) spec_vector.I_ok (by kernel_rfl) (by kernel_rfl) (by kernel_rfl) (fun _ _ _ _ h => by dsimp only [spec_vector.E] at h; cases h) (fun xs hp => by
    dsimp only [spec_vector.E] at hp ⊢
    split at hp
    · exact h _ hp
    · cases hp)
theorem spec_vector.ok : CallSpec Try.prog spec_vector.E := spec_vector.ok_of (by simp [spec_vector.X, spec_make1.ok]) fun xs h => ⟨0, by
  rw [spec_vector.e, h, szB_of (by simp)]
  rfl⟩

namespace spec_limit
noncomputable def E : Entry := ⟨130, true, false, fun | [.d (.int .i64 n)] => true | _ => false, fun | [.d (.int .i64 n)] => ([.one ((.int .i64 (limV n)), false)], []) | _ => ([], []), fun _ => [], false, fun _ => none⟩
end spec_limit
namespace spec_limit
noncomputable def X : List Entry := []
noncomputable def I : List Inl := [⟨130, Try.f130, ⟨[], [], [], [], [], []⟩⟩]
theorem I_ok : ∀ i ∈ I, Try.prog.funcs[i.f]? = some i.fn ∧ (i.fn.name == "runtime.NumGoroutine") = false := by
  intro i hi
  simp only [I, List.mem_cons, List.not_mem_nil, or_false] at hi
  subst hi
  exact ⟨by kernel_rfl, by kernel_rfl⟩
theorem e (fuel : Nat) (p0 : Int) : runF Try.prog X I 0 fuel 130 Try.f130 [.d (.int .i64 p0)] =
  some ([.one ((.int .i64 (maxI (-1000000) (minI 1000000 p0))), false)], []) := by kernel_rfl
end spec_limit
theorem spec_limit.ok_of (hX : ∀ E ∈ spec_limit.X, CallSpec Try.prog E) (h : ∀ (n : Int), (true) = true → ∃ fuel, runF Try.prog spec_limit.X spec_limit.I 0 fuel 130 Try.f130 [.d (.int .i64 n)] = some ([.one ((.int .i64 (limV n)), false)], [])) : CallSpec Try.prog spec_limit.E :=
  callSpec_of (d := 0) hX (by kernel_rfl) spec_limit.I_ok (by kernel_rfl) (by kernel_rfl) (by kernel_rfl) (fun _ _ _ _ h => by dsimp only [spec_limit.E] at h; cases h) (fun xs hp => by
    dsimp only [spec_limit.E] at hp ⊢
    split at hp
    · exact h _ hp
    · cases hp)
theorem spec_limit.ok : CallSpec Try.prog spec_limit.E := spec_limit.ok_of (by simp [spec_limit.X]) fun n _ => ⟨0, by rw [spec_limit.e, lim_spec]⟩

namespace spec_modulo
noncomputable def E : Entry := ⟨131, true, false, fun | [.d (.int .i64 a), .d (.int .i64 b)] => decide (0 < b) | _ => false, fun | [.d (.int .i64 a), .d (.int .i64 b)] => ([.one ((.int .i64 (modV a b)), false)], []) | _ => ([], []), fun _ => [], false, fun _ => none⟩
end spec_modulo
namespace spec_modulo
noncomputable def X : List Entry := []
noncomputable def I : List Inl := [⟨131, Try.f131, ⟨[], [], [], [], [], []⟩⟩]
theorem I_ok : ∀ i ∈ I, Try.prog.funcs[i.f]? = some i.fn ∧ (i.fn.name == "runtime.NumGoroutine") = false := by
  intro i hi
  simp only [I, List.mem_cons, List.not_mem_nil, or_false] at hi
  subst hi
  exact ⟨by kernel_rfl, by kernel_rfl⟩
theorem e (fuel : Nat) (p0 : Int) (p1 : Int) : runF Try.prog X I 0 fuel 131 Try.f131 [.d (.int .i64 p0), .d (.int .i64 p1)] =
  (bif decide ((p1 : Int) = 0) then
  none
  else
  (bif decide ((p1 : Int) = 0) then
  none
  else
  some ([.one ((.int .i64 (Int.tmod (IntKind.wrap .i64 ((Int.tmod p0 p1) + p1)) p1)), false)], []))) := by kernel_rfl
end spec_modulo
theorem spec_modulo.ok_of (hX : ∀ E ∈ spec_modulo.X, CallSpec Try.prog E) (h : ∀ (a : Int) (b : Int), (decide (0 < b)) = true → ∃ fuel, runF Try.prog spec_modulo.X spec_modulo.I 0 fuel 131 Try.f131 [.d (.int .i64 a), .d (.int .i64 b)] = some ([.one ((.int .i64 (modV a b)), false)], [])) : CallSpec Try.prog spec_modulo.E :=
  callSpec_of (d := 0) hX (by kernel_rfl) spec_modulo.I_ok (by kernel_rfl) (by kernel_rfl) (by kernel_rfl) (fun _ _ _ _ h => by dsimp only [spec_modulo.E] at h; cases h) (fun xs hp => by
    dsimp only [spec_modulo.E] at hp ⊢
    split at hp
    · exact h _ _ hp
    · cases hp)
theorem spec_modulo.ok : CallSpec Try.prog spec_modulo.E := spec_modulo.ok_of (by simp [spec_modulo.X]) fun a b h => ⟨0, by
  have := of_decide_eq_true h
  rw [spec_modulo.e, decide_eq_false (p := b = 0) (by omega)]
  rfl⟩

namespace spec_operate
noncomputable def E : Entry := ⟨128, true, false, fun | [.d (.int .i64 op), .d (.int .i64 a), .d (.int .i64 b)] => true | _ => false, fun | [.d (.int .i64 op), .d (.int .i64 a), .d (.int .i64 b)] => ([.one ((.int .i64 (operF op a b)), false)], []) | _ => ([], []), fun _ => [], false, fun _ => none⟩
end spec_operate
namespace spec_operate
noncomputable def X : List Entry := [spec_limit.E, spec_toInt.E, spec_modulo.E]
noncomputable def I : List Inl := [⟨128, Try.f128, ⟨[], [], [], [], [], []⟩⟩]
theorem I_ok : ∀ i ∈ I, Try.prog.funcs[i.f]? = some i.fn ∧ (i.fn.name == "runtime.NumGoroutine") = false := by
  intro i hi
  simp only [I, List.mem_cons, List.not_mem_nil, or_false] at hi
  subst hi
  exact ⟨by kernel_rfl, by kernel_rfl⟩
theorem e (fuel : Nat) (p0 : Int) (p1 : Int) (p2 : Int) : runF Try.prog X I 0 fuel 128 Try.f128 [.d (.int .i64 p0), .d (.int .i64 p1), .d (.int .i64 p2)] =
  (bif ((p0 : Int) == 1) then
  some ([.one ((.int .i64 (limV ((IntKind.wrap .i64 (p1 + p2))))), false)], [])
  else
  (bif ((p0 : Int) == 2) then
  some ([.one ((.int .i64 (limV ((IntKind.wrap .i64 (p1 - p2))))), false)], [])
  else
  (bif ((p0 : Int) == 3) then
  some ([.one ((.int .i64 (limV ((IntKind.wrap .i64 (p1 * p2))))), false)], [])
  else
  (bif ((p0 : Int) == 4) then
  some ([.one ((.int .i64 (minI p1 p2)), false)], [])
  else
  (bif ((p0 : Int) == 5) then
  some ([.one ((.int .i64 (maxI p1 p2)), false)], [])
  else
  (bif ((p0 : Int) == 6) then
  some ([.one ((.int .i64 (tInt (((p1 : Int) == p2)))), false)], [])
  else
  (bif ((p0 : Int) == 7) then
  some ([.one ((.int .i64 (tInt ((decide ((p1 : Int) < p2))))), false)], [])
  else
  (bif (decide ((p1 : Int) ≤ 0)) then
  some ([.one ((.int .i64 p2), false)], [])
  else
  (bif decide (0 < p1) then
  some ([.one ((.int .i64 (modV p2 p1)), false)], [])
  else
  none))))))))) := by kernel_rfl
end spec_operate
theorem spec_operate.ok_of (hX : ∀ E ∈ spec_operate.X, CallSpec Try.prog E) (h : ∀ (op : Int) (a : Int) (b : Int), (true) = true → ∃ fuel, runF Try.prog spec_operate.X spec_operate.I 0 fuel 128 Try.f128 [.d (.int .i64 op), .d (.int .i64 a), .d (.int .i64 b)] = some ([.one ((.int .i64 (operF op a b)), false)], [])) : CallSpec Try.prog spec_operate.E :=
  callSpec_of (d := 0) hX (by kernel_rfl) spec_operate.I_ok (by kernel_rfl) (by kernel_rfl) (by kernel_rfl) (fun _ _ _ _ h => by dsimp only [spec_operate.E] at h; cases h) (fun xs hp => by
    dsimp only [spec_operate.E] at hp ⊢
    split at hp
    · exact h _ _ _ hp
    · cases hp)
theorem spec_operate.ok : CallSpec Try.prog spec_operate.E := spec_operate.ok_of (by simp [spec_operate.X, spec_limit.ok, spec_toInt.ok, spec_modulo.ok]) fun op a b _ => ⟨0, by
  rw [spec_operate.e]
  unfold operF restV
  by_cases h : a ≤ 0
  · rw [decide_eq_true h]
    cases op == 1 <;> cases op == 2 <;> cases op == 3 <;> cases op == 4 <;> cases op == 5 <;> cases op == 6 <;> cases op == 7 <;> rfl
  · rw [decide_eq_false h, decide_eq_true (p := 0 < a) (by omega)]
    cases op == 1 <;> cases op == 2 <;> cases op == 3 <;> cases op == 4 <;> cases op == 5 <;> cases op == 6 <;> cases op == 7 <;> rfl⟩

namespace spec_combine
noncomputable def E : Entry := ⟨119, false, false, fun | [.d (.int .i64 op), .d (.agg [(.ints .i64 s1), (.ints .i64 d1)]), .d (.agg [(.ints .i64 s2), (.ints .i64 d2)])] => validA s1 d1 && validA s2 d2 && fitB s1 s2 | _ => false, fun | [.d (.int .i64 op), .d (.agg [(.ints .i64 s1), (.ints .i64 d1)]), .d (.agg [(.ints .i64 s2), (.ints .i64 d2)])] => ([.agg [((.ints .i64 (cS s1 s2)), true), ((.ints .i64 (cD op s1 d1 s2 d2)), true)]], []) | _ => ([], []), fun _ => [], true, fun _ => none⟩
end spec_combine
namespace spec_combine
noncomputable def X : List Entry := [spec_volume.E, spec_operate.E, spec_make1.E]
noncomputable def I : List Inl := [⟨119, Try.f119, ⟨[52], [(1000006, [1, 2, 3, 10, 11, 12, 13, 14, 15, 16, 17, 18, 19, 20, 21, 22, 23, 24, 25, 26, 27, 28, 29, 30, 31, 32, 33, 34, 35, 36, 37, 38, 39, 40, 41, 42, 43, 44, 45, 46, 47, 48, 49, 50, 51, 52])], [], [(8, [0, 1, 2, 4, 5, 12, 14, 15, 3, 6, 7, 8, 9, 10, 11, 13, 16, 17, 18, 19, 20, 21, 22, 23, 24, 25])], [], []⟩⟩]
theorem I_ok : ∀ i ∈ I, Try.prog.funcs[i.f]? = some i.fn ∧ (i.fn.name == "runtime.NumGoroutine") = false := by
  intro i hi
  simp only [I, List.mem_cons, List.not_mem_nil, or_false] at hi
  subst hi
  exact ⟨by kernel_rfl, by kernel_rfl⟩
noncomputable abbrev L0 (fuel n : Nat) (s : St) (k : Kont) := lAt Try.prog X I fuel true 0 false 119 (bodyOf Try.f119) [1, 1, 1, 1, 0, 1, 0] n s k
noncomputable abbrev k0  (fuel : Nat) : Kont := (kAt Try.prog X I fuel true 0 false 119 (bodyOf Try.f119) [1, 1, 1, 1, 0, 1, 0] [] (endK Try.prog Try.f119))
noncomputable def t0 (p0 : Int) (p1q0 : List Int) (p1q1 : List Int) (p2q0 : List Int) (p2q1 : List Int) (x0q1 : List Int) (x0q2 : Int) (x0q7 : List Int) : St := ⟨[(.imm (.int .i64 p0)), .dead, .dead, .dead, (.ptr 1000000000 0 0), (.ptr 1000000001 0 0), (.ptr 1000000002 0 0), (.imm (.ints .i64 x0q1)), (.all 1000000003 1), (.imm (.int .i64 x0q2)), .dead, .dead, .dead, .dead, .dead, .dead, .dead, .dead, .dead, .dead, .dead, .dead, .dead, .dead, .dead, .dead, .dead, .dead, .dead, .dead, .dead, .dead, .dead, .dead, .dead, .dead, .dead, .dead, .dead, .dead, .dead, .dead, .dead, .dead, .dead, .dead, .dead, .dead, .dead, .dead, .dead, .dead, .dead], hOf [(1000000000, (.box [(.imm (.ints .i64 p1q0)), (.imm (.ints .i64 p1q1))])), (1000000001, (.box [(.imm (.ints .i64 p2q0)), (.imm (.ints .i64 p2q1))])), (1000000002, (.box [(.imm .nils), (.imm .nils)])), (1000000003, (.ints .i64 x0q7))], [], []⟩
theorem e (fuel : Nat) (p0 : Int) (p1q0 : List Int) (p1q1 : List Int) (p2q0 : List Int) (p2q1 : List Int) : runF Try.prog X I 0 fuel 119 Try.f119 [.d (.int .i64 p0), .d (.agg [(.ints .i64 p1q0), (.ints .i64 p1q1)]), .d (.agg [(.ints .i64 p2q0), (.ints .i64 p2q1)])] =
  (bif ((((p1q0.length : Nat) : Int) : Int) == 0) then
  L0 fuel fuel (t0 p0 p1q0 p1q1 p2q0 p2q1 p2q0 0 ([])) (k0  fuel)
  else
  L0 fuel fuel (t0 p0 p1q0 p1q1 p2q0 p2q1 p1q0 0 ([])) (k0  fuel)) := by kernel_rfl
theorem s0 (fuel n0 : Nat) (p0 : Int) (p1q0 : List Int) (p1q1 : List Int) (p2q0 : List Int) (p2q1 : List Int) (x0q1 : List Int) (x0q2 : Int) (x0q7 : List Int) : L0 fuel (n0 + 1) (t0 p0 p1q0 p1q1 p2q0 p2q1 x0q1 x0q2 x0q7) (k0  fuel) =
  (bif decide (x0q1.length < 9223372036854775808) then
  (bif (decide ((x0q2 : Int) < (volW x0q1))) then
  (idx (minI x0q2 (IntKind.wrap .i64 (((p1q1.length : Nat) : Int) - 1))) p1q1.length).bind fun j5 =>
  (p1q1[j5]?).bind fun v6 =>
  (idx (minI x0q2 (IntKind.wrap .i64 (((p2q1.length : Nat) : Int) - 1))) p2q1.length).bind fun j7 =>
  (p2q1[j7]?).bind fun v8 =>
  (bif fits (x0q7.length + ([(operF p0 v6 v8)] : List Int).length) 8 then
  L0 fuel n0 (t0 p0 p1q0 p1q1 p2q0 p2q1 x0q1 ((IntKind.wrap .i64 (x0q2 + 1))) ((x0q7 ++ [(operF p0 v6 v8)]))) (k0  fuel)
  else
  none)
  else
  (bif szB x0q1 && szB x0q7 then
  some ([.agg [((.ints .i64 x0q1), true), ((.ints .i64 x0q7), true)]], [])
  else
  none))
  else
  none) := by kernel_rfl
end spec_combine
theorem spec_combine.ok_of (hX : ∀ E ∈ spec_combine.X, CallSpec Try.prog E) (h : ∀ (op : Int) (s1 : List Int) (d1 : List Int) (s2 : List Int) (d2 : List Int), (validA s1 d1 && validA s2 d2 && fitB s1 s2) = true → ∃ fuel, runF Try.prog spec_combine.X spec_combine.I 0 fuel 119 Try.f119 [.d (.int .i64 op), .d (.agg [(.ints .i64 s1), (.ints .i64 d1)]), .d (.agg [(.ints .i64 s2), (.ints .i64 d2)])] = some ([.agg [((.ints .i64 (cS s1 s2)), true), ((.ints .i64 (cD op s1 d1 s2 d2)), true)]], [])) : CallSpec Try.prog spec_combine.E :=
  callSpec_of (d := 0) hX (by kernel_rfl) spec_combine.I_ok (by kernel_rfl) (by kernel_rfl) (by kernel_rfl) (fun _ _ _ _ h => by dsimp only [spec_combine.E] at h; cases h) (fun xs hp => by
    dsimp only [spec_combine.E] at hp ⊢
    split at hp
    · exact h _ _ _ _ _ hp
    · cases hp)
theorem spec_combine.loop (fuel : Nat) (op : Int) (s1 d1 s2 d2 : List Int) (S : List Int) (hS : S.length ≤ 3) (hV : ((volW S).toNat : Int) = volW S) (hv : (volW S).toNat ≤ 60) (g1 : 0 < d1.length ∧ d1.length ≤ 60 ∨ (volW S).toNat = 0) (g2 : 0 < d2.length ∧ d2.length ≤ 60 ∨ (volW S).toNat = 0) : ∀ (m n j : Nat) (out : List Int), (volW S).toNat - j = m → m < n → j ≤ (volW S).toNat → out = tab j (fun i => operF op (d1.getD (min i (d1.length - 1)) 0) (d2.getD (min i (d2.length - 1)) 0)) →
    spec_combine.L0 fuel n (spec_combine.t0 op s1 d1 s2 d2 S (j : Int) out) (spec_combine.k0 fuel) = some ([.agg [(.ints .i64 S, true), (.ints .i64 (tab (volW S).toNat (fun i => operF op (d1.getD (min i (d1.length - 1)) 0) (d2.getD (min i (d2.length - 1)) 0))), true)]], []) := by
  intro m
  induction m with
  | zero =>
    intro n j out h1 h2 h3 h4
    obtain ⟨n, rfl⟩ : ∃ n', n = n' + 1 := ⟨n - 1, by omega⟩
    have ho : out.length = j := by rw [h4, tab_length]
    rw [spec_combine.s0, decide_eq_true (p := S.length < 9223372036854775808) (by omega), decide_eq_false (p := (j : Int) < volW S) (by omega), szB_of (xs := S) (by omega), szB_of (xs := out) (by omega), h4, show j = (volW S).toNat by omega]
    rfl
  | succ m ih =>
    intro n j out h1 h2 h3 h4
    obtain ⟨n, rfl⟩ : ∃ n', n = n' + 1 := ⟨n - 1, by omega⟩
    have ho : out.length = j := by rw [h4, tab_length]
    have a1 : min j (d1.length - 1) < d1.length := by omega
    have a2 : min j (d2.length - 1) < d2.length := by omega
    have c1 : minI (j : Int) (IntKind.wrap .i64 (((d1.length : Nat) : Int) - 1)) = ((min j (d1.length - 1) : Nat) : Int) := by
      rw [wS (by omega) (by omega)]; unfold minI; split <;> omega
    have c2 : minI (j : Int) (IntKind.wrap .i64 (((d2.length : Nat) : Int) - 1)) = ((min j (d2.length - 1) : Nat) : Int) := by
      rw [wS (by omega) (by omega)]; unfold minI; split <;> omega
    rw [spec_combine.s0, decide_eq_true (p := S.length < 9223372036854775808) (by omega), decide_eq_true (p := (j : Int) < volW S) (by omega), c1, c2, idx_nat a1, idx_nat a2, w1 (by omega)]
    simp only [cond_true, Option.bind_some, getS a1, getS a2]
    rw [fitsOk (by simp; omega)]
    simp only [cond_true]
    have b1 : d1.getD (min j (d1.length - 1)) 0 = d1[min j (d1.length - 1)] := by simp [a1]
    have b2 : d2.getD (min j (d2.length - 1)) 0 = d2[min j (d2.length - 1)] := by simp [a2]
    exact ih n (j + 1) _ (by omega) (by omega) (by omega) (by rw [tab_succ, h4, b1, b2])
theorem spec_combine.ok : CallSpec Try.prog spec_combine.E := spec_combine.ok_of (by simp [spec_combine.X, spec_volume.ok, spec_operate.ok, spec_make1.ok]) fun op s1 d1 s2 d2 h => by
  simp only [Bool.and_eq_true] at h
  obtain ⟨⟨v1, v2⟩, hf⟩ := h
  have b1 := validA_len v1
  have b2 := validA_len v2
  have e1 := vol_len v1
  have e2 := vol_len v2
  have p1 := (vol_bd (validA_inv v1).1).1
  have p2 := (vol_bd (validA_inv v2).1).1
  obtain ⟨F, hF⟩ : ∃ F : Nat, 60 < F := ⟨61, by omega⟩
  refine ⟨F, ?_⟩
  rw [spec_combine.e, len0]
  by_cases h1 : s1.length = 0
  · have e := List.length_eq_zero_iff.mp h1
    subst e
    have l1 := sc_len v1
    have hc : cS [] s2 = s2 := rfl
    rw [decide_eq_true h1, cond_true, cD, hc]
    exact spec_combine.loop F op [] d1 s2 d2 s2 (by omega) (by omega) (by omega) (by omega) (by omega) _ F 0 [] rfl (by omega) (by omega) rfl
  · have hc : cS s1 s2 = s1 := by rw [cS, decide_eq_false h1]; rfl
    rw [decide_eq_false h1, cond_false, cD, hc]
    refine spec_combine.loop F op s1 d1 s2 d2 s1 (by omega) (by omega) (by omega) (by omega) ?_ _ F 0 [] rfl (by omega) (by omega) rfl
    by_cases h2 : s2.length = 0
    · have e := List.length_eq_zero_iff.mp h2
      subst e
      have l2 := sc_len v2
      omega
    · rw [fitB, decide_eq_false h1, decide_eq_false h2, cond_false, cond_false] at hf
      have := of_decide_eq_true hf
      subst this
      omega

namespace spec_neutral
noncomputable def E : Entry := ⟨127, true, false, fun | [.d (.int .i64 op)] => opOk op | _ => false, fun | [.d (.int .i64 op)] => ([.one ((.int .i64 (neuF op)), false)], []) | _ => ([], []), fun _ => [], false, fun _ => none⟩
end spec_neutral
namespace spec_neutral
noncomputable def X : List Entry := []
noncomputable def I : List Inl := [⟨127, Try.f127, ⟨[], [], [], [], [], []⟩⟩]
theorem I_ok : ∀ i ∈ I, Try.prog.funcs[i.f]? = some i.fn ∧ (i.fn.name == "runtime.NumGoroutine") = false := by
  intro i hi
  simp only [I, List.mem_cons, List.not_mem_nil, or_false] at hi
  subst hi
  exact ⟨by kernel_rfl, by kernel_rfl⟩
theorem e (fuel : Nat) (p0 : Int) : runF Try.prog X I 0 fuel 127 Try.f127 [.d (.int .i64 p0)] =
  (idx (IntKind.wrap .i64 (p0 - 1)) [0, 0, 1, 1000000, (-1000000), 1, 0, 0].length).bind fun j1 =>
  ([0, 0, 1, 1000000, (-1000000), 1, 0, 0][j1]?).bind fun v2 =>
  some ([.one ((.int .i64 v2), false)], []) := by kernel_rfl
end spec_neutral
theorem spec_neutral.ok_of (hX : ∀ E ∈ spec_neutral.X, CallSpec Try.prog E) (h : ∀ (op : Int), (opOk op) = true → ∃ fuel, runF Try.prog spec_neutral.X spec_neutral.I 0 fuel 127 Try.f127 [.d (.int .i64 op)] = some ([.one ((.int .i64 (neuF op)), false)], [])) : CallSpec Try.prog spec_neutral.E :=
  callSpec_of (d := 0) hX (by kernel_rfl) spec_neutral.I_ok (by kernel_rfl) (by kernel_rfl) (by kernel_rfl) (fun _ _ _ _ h => by dsimp only [spec_neutral.E] at h; cases h) (fun xs hp => by
    dsimp only [spec_neutral.E] at hp ⊢
    split at hp
    · exact h _ hp
    · cases hp)
theorem spec_neutral.ok : CallSpec Try.prog spec_neutral.E := spec_neutral.ok_of (by simp [spec_neutral.X]) fun op h => ⟨0, by
  rw [spec_neutral.e]
  rcases opOk_cases h with rfl | rfl | rfl | rfl | rfl | rfl | rfl | rfl <;> rfl⟩

namespace spec_fold
noncomputable def E : Entry := ⟨118, true, false, fun | [.d (.int .i64 op), .d (.ints .i64 xs)] => opOk op && decide (xs.length < 9223372036854775808) | _ => false, fun | [.d (.int .i64 op), .d (.ints .i64 xs)] => ([.one ((.int .i64 (redF op xs)), false)], []) | _ => ([], []), fun _ => [], false, fun _ => none⟩
end spec_fold
namespace spec_fold
noncomputable def X : List Entry := [spec_neutral.E, spec_operate.E]
noncomputable def I : List Inl := [⟨118, Try.f118, ⟨[], [(1000005, [2, 3, 4, 7, 8, 9, 10, 11, 12, 13, 14, 15, 16, 17, 18, 19, 20, 21, 22, 23, 24, 25, 26, 27, 28, 29, 30, 31, 32])], [], [], [], []⟩⟩]
theorem I_ok : ∀ i ∈ I, Try.prog.funcs[i.f]? = some i.fn ∧ (i.fn.name == "runtime.NumGoroutine") = false := by
  intro i hi
  simp only [I, List.mem_cons, List.not_mem_nil, or_false] at hi
  subst hi
  exact ⟨by kernel_rfl, by kernel_rfl⟩
noncomputable abbrev L0 (fuel n : Nat) (s : St) (k : Kont) := lAt Try.prog X I fuel true 0 false 118 (bodyOf Try.f118) [1, 1, 1, 0, 1, 0] n s k
noncomputable abbrev k0  (fuel : Nat) : Kont := (kAt Try.prog X I fuel true 0 false 118 (bodyOf Try.f118) [1, 1, 1, 0, 1, 0] [] (endK Try.prog Try.f118))
noncomputable def t0 (p0 : Int) (p1 : List Int) (x0q2 : Int) (x0q3 : Int) : St := ⟨[(.imm (.int .i64 p0)), (.imm (.ints .i64 p1)), .dead, .dead, .dead, (.imm (.int .i64 x0q2)), (.imm (.int .i64 x0q3)), .dead, .dead, .dead, .dead, .dead, .dead, .dead, .dead, .dead, .dead, .dead, .dead, .dead, .dead, .dead, .dead, .dead, .dead, .dead, .dead, .dead, .dead, .dead, .dead, .dead, .dead], hOf [], [], []⟩
theorem e (fuel : Nat) (p0 : Int) (p1 : List Int) : runF Try.prog X I 0 fuel 118 Try.f118 [.d (.int .i64 p0), .d (.ints .i64 p1)] =
  (bif ((((p1.length : Nat) : Int) : Int) == 0) then
  (bif opOk p0 then
  some ([.one ((.int .i64 (neuF p0)), false)], [])
  else
  none)
  else
  (idx (IntKind.wrap .i64 (((p1.length : Nat) : Int) - 1)) p1.length).bind fun j1 =>
  (p1[j1]?).bind fun v2 =>
  L0 fuel fuel (t0 p0 p1 v2 ((IntKind.wrap .i64 (((p1.length : Nat) : Int) - 2)))) (k0  fuel)) := by kernel_rfl
theorem s0 (fuel n0 : Nat) (p0 : Int) (p1 : List Int) (x0q2 : Int) (x0q3 : Int) : L0 fuel (n0 + 1) (t0 p0 p1 x0q2 x0q3) (k0  fuel) =
  (bif (decide ((x0q3 : Int) ≥ 0)) then
  (idx x0q3 p1.length).bind fun j7 =>
  (p1[j7]?).bind fun v8 =>
  L0 fuel n0 (t0 p0 p1 ((operF p0 v8 x0q2)) ((IntKind.wrap .i64 (x0q3 - 1)))) (k0  fuel)
  else
  some ([.one ((.int .i64 x0q2), false)], [])) := by kernel_rfl
end spec_fold
theorem spec_fold.ok_of (hX : ∀ E ∈ spec_fold.X, CallSpec Try.prog E) (h : ∀ (op : Int) (xs : List Int), (opOk op && decide (xs.length < 9223372036854775808)) = true → ∃ fuel, runF Try.prog spec_fold.X spec_fold.I 0 fuel 118 Try.f118 [.d (.int .i64 op), .d (.ints .i64 xs)] = some ([.one ((.int .i64 (redF op xs)), false)], [])) : CallSpec Try.prog spec_fold.E :=
  callSpec_of (d := 0) hX (by kernel_rfl) spec_fold.I_ok (by kernel_rfl) (by kernel_rfl) (by kernel_rfl) (fun _ _ _ _ h => by dsimp only [spec_fold.E] at h; cases h) (fun xs hp => by
    dsimp only [spec_fold.E] at hp ⊢
    split at hp
    · exact h _ _ hp
    · cases hp)
theorem spec_fold.ok : CallSpec Try.prog spec_fold.E := spec_fold.ok_of (by simp [spec_fold.X, spec_neutral.ok, spec_operate.ok]) fun op xs h => ⟨xs.length + 1, by
  simp only [Bool.and_eq_true, decide_eq_true_eq] at h
  rw [spec_fold.e, len0]
  by_cases h0 : xs.length = 0
  · have h0' := List.length_eq_zero_iff.mp h0
    subst h0'
    rw [decide_eq_true h0, h.1]
    simp only [cond_true, redF, neuV, h.1]
  · obtain ⟨k, hk⟩ : ∃ k, xs.length = k + 1 := ⟨xs.length - 1, by omega⟩
    have e1 : ((xs.length : Nat) : Int) - 1 = (k : Int) := by omega
    have hkl : k < xs.length := by omega
    rw [decide_eq_false h0, cond_false, wS (by omega) (by omega), wS (by omega) (by omega), e1, idx_nat hkl]
    simp only [Option.bind_some, getD_get hkl]
    rw [show ((xs.length : Nat) : Int) - 2 = (k : Int) - 1 - ((0 : Nat) : Int) by omega]
    refine run_loop (N := k) (fun n j acc => spec_fold.L0 (xs.length + 1) n (spec_fold.t0 op xs acc ((k : Int) - 1 - (j : Int))) (spec_fold.k0 (xs.length + 1))) (fun j acc => acc = redF op (xs.drop (k - j))) ?_ ?_ (xs.length + 1) 0 _ (by omega) (by omega) (by rw [Nat.sub_zero, redF_last (by omega)])
    · intro n acc ho
      rw [spec_fold.s0, decide_eq_false (by omega), ho, Nat.sub_self, List.drop_zero]
      rfl
    · intro n j acc hj ho
      obtain ⟨i, hi⟩ : ∃ i, k - j = i + 1 := ⟨k - j - 1, by omega⟩
      have hil : i < xs.length := by omega
      have e1 : (k : Int) - 1 - (j : Int) = (i : Int) := by omega
      rw [e1, spec_fold.s0, decide_eq_true (by omega), idx_nat hil, wS (by omega) (by omega)]
      simp only [cond_true, Option.bind_some, getD_get hil]
      refine ⟨_, ?_, by rw [show (k : Int) - 1 - ((j + 1 : Nat) : Int) = (i : Int) - 1 by omega]⟩
      rw [ho, hi, show k - (j + 1) = i by omega]
      exact (redF_drop (by omega)).symm⟩

namespace spec_InnerProduct
noncomputable def E : Entry := ⟨95, false, false, fun | [.d (.int .i64 f), .d (.int .i64 g), .d (.agg [(.ints .i64 sa), (.ints .i64 da)]), .d (.agg [(.ints .i64 sb), (.ints .i64 db)])] => decide (sa.length < 9223372036854775808) && decide (da.length < 9223372036854775808) && decide (sb.length < 9223372036854775808) && decide (db.length < 9223372036854775808) | _ => false, fun | [.d (.int .i64 f), .d (.int .i64 g), .d (.agg [(.ints .i64 sa), (.ints .i64 da)]), .d (.agg [(.ints .i64 sb), (.ints .i64 db)])] => ([.agg [((.ints .i64 (inS f g sa da sb db)), true), ((.ints .i64 (inD f g sa da sb db)), true)], .one ((.bool (inB f g sa da sb db)), false)], []) | _ => ([], []), fun _ => [], true, fun _ => none⟩
end spec_InnerProduct
namespace spec_InnerProduct
noncomputable def X : List Entry := [spec_validOp.E, spec_valid.E, spec_validShape.E, spec_volume.E, spec_lane.E, spec_vector.E, spec_combine.E, spec_fold.E, spec_make1.E]
noncomputable def I : List Inl := [⟨95, Try.f95, ⟨[102, 105, 110, 112, 113, 120], [(1000009, [2, 3, 4, 5, 9, 14, 15, 16, 17, 18, 19, 20, 21, 22, 23, 24, 25, 26, 27, 28, 29, 30, 31, 32, 33, 34, 35, 36, 37, 38, 39, 40, 41, 42, 43, 44, 45, 46, 47, 48, 49, 50, 51, 52, 53, 54, 55, 56, 57, 58, 59, 60, 61, 62, 63, 64, 65, 66, 67, 68, 69, 70, 71, 72, 73, 74, 75, 76, 77, 78, 79, 80, 81, 82, 83, 84, 85, 86, 87, 88, 89, 90, 91, 92, 93, 94, 95, 96, 97, 98, 99, 100, 101, 102, 103, 104, 105, 106, 107, 108, 109, 110, 111, 112, 113, 114, 115, 116, 117, 118, 119, 120]), (1000012, [2, 3, 4, 5, 9, 15, 16, 17, 18, 19, 20, 21, 22, 23, 24, 25, 26, 27, 28, 29, 30, 31, 32, 33, 34, 35, 36, 37, 38, 39, 40, 41, 42, 43, 44, 45, 46, 47, 48, 49, 50, 51, 52, 53, 54, 55, 56, 57, 58, 59, 60, 61, 62, 63, 64, 65, 66, 67, 68, 69, 70, 71, 72, 73, 74, 75, 76, 77, 78, 79, 80, 81, 82, 83, 84, 85, 86, 87, 88, 89, 90, 91, 92, 93, 94, 95, 96, 97, 98, 99, 100, 101, 102, 103, 104, 105, 106, 107, 108, 109, 110, 111, 112, 113, 114, 115, 116, 117, 118, 119, 120])], [(4, [7])], [(1, [0, 1, 2, 3, 4, 5, 6, 7, 8, 9, 10, 11, 12, 13, 14, 15, 16, 17, 18, 19, 20, 21, 22, 23, 24, 25, 26, 27, 28, 29, 30, 31, 33, 39, 32, 34, 35, 36, 37, 38, 40, 41, 42, 43, 44]), (4, [1, 3, 6, 7, 8, 2, 4, 0, 5, 9, 10])], [74, 75], []⟩⟩]
theorem I_ok : ∀ i ∈ I, Try.prog.funcs[i.f]? = some i.fn ∧ (i.fn.name == "runtime.NumGoroutine") = false := by
  intro i hi
  simp only [I, List.mem_cons, List.not_mem_nil, or_false] at hi
  subst hi
  exact ⟨by kernel_rfl, by kernel_rfl⟩
noncomputable abbrev L0 (fuel n : Nat) (s : St) (k : Kont) := lAt Try.prog X I fuel true 0 false 95 (bodyOf Try.f95) [1, 1, 1, 1, 1, 1, 0, 1, 0] n s k
noncomputable abbrev k0  (fuel : Nat) : Kont := (kAt Try.prog X I fuel true 0 false 95 (bodyOf Try.f95) [1, 1, 1, 1, 1, 1, 0, 1, 0] [] (endK Try.prog Try.f95))
noncomputable def t0 (p0 : Int) (p1 : Int) (p3q0 : List Int) (p3q1 : List Int) (p2q0 : List Int) (p2q1 : List Int) (cq6 : Nat × Nat) (cq5 : Nat × Nat) (x0q5 : Int) (x0q9 : List Int) : St := ⟨[(.imm (.int .i64 p0)), (.imm (.int .i64 p1)), .dead, .dead, .dead, .dead, (.ptr 1000000000 0 0), (.dptr [(.ints .i64 p3q0), (.ints .i64 p3q1)] 0), (.ptr 1000000001 0 0), .dead, (.imm (.int .i64 (IntKind.wrap .i64 (((p2q0.length : Nat) : Int) - 1)))), (.all 1000000002 1), (.all 1000000003 1), (.imm (.int .i64 x0q5)), .dead, .dead, .dead, .dead, .dead, .dead, .dead, .dead, .dead, .dead, .dead, .dead, .dead, .dead, .dead, .dead, .dead, .dead, .dead, .dead, .dead, .dead, .dead, .dead, .dead, .dead, .dead, .dead, .dead, .dead, .dead, .dead, .dead, .dead, .dead, .dead, .dead, .dead, .dead, .dead, .dead, .dead, .dead, .dead, .dead, .dead, .dead, .dead, .dead, .dead, .dead, .dead, .dead, .dead, .dead, .dead, .dead, .dead, .dead, .dead, .dead, .dead, .dead, .dead, .dead, .dead, .dead, .dead, .dead, .dead, .dead, .dead, .dead, .dead, .dead, .dead, .dead, .dead, .dead, .dead, .dead, .dead, .dead, .dead, .dead, .dead, .dead, .dead, .dead, .dead, .dead, .dead, .dead, .dead, .dead, .dead, .dead, .dead, .dead, .dead, .dead, .dead, .dead, .dead, .dead, .dead, .dead], hOf [(1000000000, (.box [(.imm (.ints .i64 p2q0)), (.imm (.ints .i64 p2q1))])), (1000000001, (.box [(.imm .nils), (.imm .nils)])), (1000000002, (.ints .i64 ((([] : List Int) ++ ((p2q0.drop cq6.1).take (cq6.2 - cq6.1))) ++ ((p3q0.drop cq5.1).take (cq5.2 - cq5.1))))), (1000000003, (.ints .i64 x0q9))], [], []⟩
noncomputable abbrev L1 (fuel n : Nat) (s : St) (k : Kont) := lAt Try.prog X I fuel true 0 false 95 (bodyOf Try.f95) [1, 1, 1, 1, 1, 1, 0, 1, 0, 0, 1, 0, 0, 1, 0] n s k
noncomputable abbrev k1 (n0 : Nat) (fuel : Nat) : Kont := (kAt Try.prog X I fuel true 0 false 95 (bodyOf Try.f95) [1, 1, 1, 1, 1, 1, 0, 1, 0, 0, 1, 0, 0, 1, 0] [n0] (endK Try.prog Try.f95))
noncomputable def t1 (p0 : Int) (p1 : Int) (p3q0 : List Int) (p3q1 : List Int) (p2q0 : List Int) (x0q5 : Int) (p2q1 : List Int) (cq6 : Nat × Nat) (cq5 : Nat × Nat) (x1q6 : Int) (x1q10 : List Int) : St := ⟨[(.imm (.int .i64 p0)), (.imm (.int .i64 p1)), .dead, .dead, .dead, .dead, (.ptr 1000000000 0 0), (.dptr [(.ints .i64 p3q0), (.ints .i64 p3q1)] 0), (.ptr 1000000001 0 0), .dead, (.imm (.int .i64 (IntKind.wrap .i64 (((p2q0.length : Nat) : Int) - 1)))), (.all 1000000002 1), (.all 1000000003 1), (.imm (.int .i64 x0q5)), (.imm (.int .i64 x1q6)), .dead, .dead, .dead, .dead, .dead, .dead, .dead, .dead, .dead, .dead, .dead, .dead, .dead, .dead, .dead, .dead, .dead, .dead, .dead, .dead, .dead, .dead, .dead, .dead, .dead, .dead, .dead, .dead, .dead, .dead, .dead, .dead, .dead, .dead, .dead, .dead, .dead, .dead, .dead, .dead, .dead, .dead, .dead, .dead, .dead, .dead, .dead, .dead, .dead, .dead, .dead, .dead, .dead, .dead, .dead, .dead, .dead, .dead, .dead, .dead, .dead, .dead, .dead, .dead, .dead, .dead, .dead, .dead, .dead, .dead, .dead, .dead, .dead, .dead, .dead, .dead, .dead, .dead, .dead, .dead, .dead, .dead, .dead, .dead, .dead, .dead, .dead, .dead, .dead, .dead, .dead, .dead, .dead, .dead, .dead, .dead, .dead, .dead, .dead, .dead, .dead, .dead, .dead, .dead, .dead, .dead], hOf [(1000000000, (.box [(.imm (.ints .i64 p2q0)), (.imm (.ints .i64 p2q1))])), (1000000001, (.box [(.imm .nils), (.imm .nils)])), (1000000002, (.ints .i64 ((([] : List Int) ++ ((p2q0.drop cq6.1).take (cq6.2 - cq6.1))) ++ ((p3q0.drop cq5.1).take (cq5.2 - cq5.1))))), (1000000003, (.ints .i64 x1q10))], [], []⟩
theorem e (fuel : Nat) (p0 : Int) (p1 : Int) (p2q0 : List Int) (p2q1 : List Int) (p3q0 : List Int) (p3q1 : List Int) : runF Try.prog X I 0 fuel 95 Try.f95 [.d (.int .i64 p0), .d (.int .i64 p1), .d (.agg [(.ints .i64 p2q0), (.ints .i64 p2q1)]), .d (.agg [(.ints .i64 p3q0), (.ints .i64 p3q1)])] =
  (bif (!(opOk p0)) then
  some ([.agg [((.ints .i64 []), true), ((.ints .i64 []), true)], .one ((.bool false), false)], [])
  else
  (bif (!(opOk p1)) then
  some ([.agg [((.ints .i64 []), true), ((.ints .i64 []), true)], .one ((.bool false), false)], [])
  else
  (bif decide (p2q0.length < 9223372036854775808) && decide (p2q1.length < 9223372036854775808) then
  (bif (!(validA p2q0 p2q1)) then
  some ([.agg [((.ints .i64 []), true), ((.ints .i64 []), true)], .one ((.bool false), false)], [])
  else
  (bif decide (p3q0.length < 9223372036854775808) && decide (p3q1.length < 9223372036854775808) then
  (bif (!(validA p3q0 p3q1)) then
  some ([.agg [((.ints .i64 []), true), ((.ints .i64 []), true)], .one ((.bool false), false)], [])
  else
  (bif ((((p2q0.length : Nat) : Int) : Int) == 0) then
  some ([.agg [((.ints .i64 []), true), ((.ints .i64 []), true)], .one ((.bool false), false)], [])
  else
  (bif ((((p3q0.length : Nat) : Int) : Int) == 0) then
  some ([.agg [((.ints .i64 []), true), ((.ints .i64 []), true)], .one ((.bool false), false)], [])
  else
  (idx (IntKind.wrap .i64 (((p2q0.length : Nat) : Int) - 1)) p2q0.length).bind fun j1 =>
  (p2q0[j1]?).bind fun v2 =>
  (idx 0 p3q0.length).bind fun j3 =>
  (p3q0[j3]?).bind fun v4 =>
  (bif ((v2 : Int) != v4) then
  some ([.agg [((.ints .i64 []), true), ((.ints .i64 []), true)], .one ((.bool false), false)], [])
  else
  (cutEnds p3q0.length (some (.imm (.int .i64 1))) (none)).bind fun cq5 =>
  (cutEnds p2q0.length (none) (some (.imm (.int .i64 (IntKind.wrap .i64 (((p2q0.length : Nat) : Int) - 1)))))).bind fun cq6 =>
  (bif fits (([] : List Int).length + ((p2q0.drop cq6.1).take (cq6.2 - cq6.1)).length) 8 then
  (bif fits ((([] : List Int) ++ ((p2q0.drop cq6.1).take (cq6.2 - cq6.1))).length + ((p3q0.drop cq5.1).take (cq5.2 - cq5.1)).length) 8 then
  (bif decide ((((([] : List Int) ++ ((p2q0.drop cq6.1).take (cq6.2 - cq6.1))) ++ ((p3q0.drop cq5.1).take (cq5.2 - cq5.1)))).length < 9223372036854775808) then
  (bif (!(validS (((([] : List Int) ++ ((p2q0.drop cq6.1).take (cq6.2 - cq6.1))) ++ ((p3q0.drop cq5.1).take (cq5.2 - cq5.1)))))) then
  some ([.agg [((.ints .i64 []), true), ((.ints .i64 []), true)], .one ((.bool false), false)], [])
  else
  L0 fuel fuel (t0 p0 p1 p3q0 p3q1 p2q0 p2q1 cq6 cq5 0 ([])) (k0  fuel))
  else
  none)
  else
  none)
  else
  none)))))
  else
  none))
  else
  none))) := by kernel_rfl
theorem s0 (fuel n0 : Nat) (p0 : Int) (p1 : Int) (p3q0 : List Int) (p3q1 : List Int) (p2q0 : List Int) (p2q1 : List Int) (cq6 : Nat × Nat) (cq5 : Nat × Nat) (x0q5 : Int) (x0q9 : List Int) : L0 fuel (n0 + 1) (t0 p0 p1 p3q0 p3q1 p2q0 p2q1 cq6 cq5 x0q5 x0q9) (k0  fuel) =
  (cutEnds p2q0.length (none) (some (.imm (.int .i64 (IntKind.wrap .i64 (((p2q0.length : Nat) : Int) - 1)))))).bind fun cq14 =>
  (bif decide ((((p2q0.drop cq14.1).take (cq14.2 - cq14.1))).length < 9223372036854775808) then
  (bif (decide ((x0q5 : Int) < (volW (((p2q0.drop cq14.1).take (cq14.2 - cq14.1)))))) then
  L1 fuel fuel (t1 p0 p1 p3q0 p3q1 p2q0 x0q5 p2q1 cq6 cq5 0 x0q9) (k1 n0 fuel)
  else
  (bif szB (((([] : List Int) ++ ((p2q0.drop cq6.1).take (cq6.2 - cq6.1))) ++ ((p3q0.drop cq5.1).take (cq5.2 - cq5.1)))) && szB x0q9 then
  some ([.agg [((.ints .i64 (((([] : List Int) ++ ((p2q0.drop cq6.1).take (cq6.2 - cq6.1))) ++ ((p3q0.drop cq5.1).take (cq5.2 - cq5.1))))), true), ((.ints .i64 x0q9), true)], .one ((.bool true), false)], [])
  else
  none))
  else
  none) := by kernel_rfl
theorem s1 (fuel n0 n1 : Nat) (p0 : Int) (p1 : Int) (p3q0 : List Int) (p3q1 : List Int) (p2q0 : List Int) (x0q5 : Int) (p2q1 : List Int) (cq6 : Nat × Nat) (cq5 : Nat × Nat) (x1q6 : Int) (x1q10 : List Int) : L1 fuel (n1 + 1) (t1 p0 p1 p3q0 p3q1 p2q0 x0q5 p2q1 cq6 cq5 x1q6 x1q10) (k1 n0 fuel) =
  (cutEnds p3q0.length (some (.imm (.int .i64 1))) (none)).bind fun cq16 =>
  (bif decide ((((p3q0.drop cq16.1).take (cq16.2 - cq16.1))).length < 9223372036854775808) then
  (bif (decide ((x1q6 : Int) < (volW (((p3q0.drop cq16.1).take (cq16.2 - cq16.1)))))) then
  (bif axB p2q0 p2q1 ((IntKind.wrap .i64 (((p2q0.length : Nat) : Int) - 1))) && laneB p2q0 ((IntKind.wrap .i64 (((p2q0.length : Nat) : Int) - 1))) x0q5 0 then
  (bif axB p3q0 p3q1 0 && laneB p3q0 0 0 x1q6 then
  (bif szB ((lnK p2q0 p2q1 ((IntKind.wrap .i64 (((p2q0.length : Nat) : Int) - 1))) (Int.toNat x0q5) (Int.toNat 0))) then
  (bif szB ((lnK p3q0 p3q1 0 (Int.toNat 0) (Int.toNat x1q6))) then
  (bif validA ([((((lnK p2q0 p2q1 ((IntKind.wrap .i64 (((p2q0.length : Nat) : Int) - 1))) (Int.toNat x0q5) (Int.toNat 0))).length : Nat) : Int)]) (((lnK p2q0 p2q1 ((IntKind.wrap .i64 (((p2q0.length : Nat) : Int) - 1))) (Int.toNat x0q5) (Int.toNat 0)))) && validA ([((((lnK p3q0 p3q1 0 (Int.toNat 0) (Int.toNat x1q6))).length : Nat) : Int)]) (((lnK p3q0 p3q1 0 (Int.toNat 0) (Int.toNat x1q6)))) && fitB ([((((lnK p2q0 p2q1 ((IntKind.wrap .i64 (((p2q0.length : Nat) : Int) - 1))) (Int.toNat x0q5) (Int.toNat 0))).length : Nat) : Int)]) ([((((lnK p3q0 p3q1 0 (Int.toNat 0) (Int.toNat x1q6))).length : Nat) : Int)]) then
  (bif opOk p0 && decide (((cD p1 ([((((lnK p2q0 p2q1 ((IntKind.wrap .i64 (((p2q0.length : Nat) : Int) - 1))) (Int.toNat x0q5) (Int.toNat 0))).length : Nat) : Int)]) (((lnK p2q0 p2q1 ((IntKind.wrap .i64 (((p2q0.length : Nat) : Int) - 1))) (Int.toNat x0q5) (Int.toNat 0)))) ([((((lnK p3q0 p3q1 0 (Int.toNat 0) (Int.toNat x1q6))).length : Nat) : Int)]) (((lnK p3q0 p3q1 0 (Int.toNat 0) (Int.toNat x1q6)))))).length < 9223372036854775808) then
  (bif fits (x1q10.length + ([(redF p0 ((cD p1 ([((((lnK p2q0 p2q1 ((IntKind.wrap .i64 (((p2q0.length : Nat) : Int) - 1))) (Int.toNat x0q5) (Int.toNat 0))).length : Nat) : Int)]) (((lnK p2q0 p2q1 ((IntKind.wrap .i64 (((p2q0.length : Nat) : Int) - 1))) (Int.toNat x0q5) (Int.toNat 0)))) ([((((lnK p3q0 p3q1 0 (Int.toNat 0) (Int.toNat x1q6))).length : Nat) : Int)]) (((lnK p3q0 p3q1 0 (Int.toNat 0) (Int.toNat x1q6)))))))] : List Int).length) 8 then
  L1 fuel n1 (t1 p0 p1 p3q0 p3q1 p2q0 x0q5 p2q1 cq6 cq5 ((IntKind.wrap .i64 (x1q6 + 1))) ((x1q10 ++ [(redF p0 ((cD p1 ([((((lnK p2q0 p2q1 ((IntKind.wrap .i64 (((p2q0.length : Nat) : Int) - 1))) (Int.toNat x0q5) (Int.toNat 0))).length : Nat) : Int)]) (((lnK p2q0 p2q1 ((IntKind.wrap .i64 (((p2q0.length : Nat) : Int) - 1))) (Int.toNat x0q5) (Int.toNat 0)))) ([((((lnK p3q0 p3q1 0 (Int.toNat 0) (Int.toNat x1q6))).length : Nat) : Int)]) (((lnK p3q0 p3q1 0 (Int.toNat 0) (Int.toNat x1q6)))))))]))) (k1 n0 fuel)
  else
  none)
  else
  none)
  else
  none)
  else
  none)
  else
  none)
  else
  none)
  else
  none)
  else
  L0 fuel n0 (t0 p0 p1 p3q0 p3q1 p2q0 p2q1 cq6 cq5 ((IntKind.wrap .i64 (x0q5 + 1))) x1q10) (k0  fuel))
  else
  none) := by kernel_rfl
end spec_InnerProduct
theorem spec_InnerProduct.ok_of (hX : ∀ E ∈ spec_InnerProduct.X, CallSpec Try.prog E) (h : ∀ (f : Int) (g : Int) (sa : List Int) (da : List Int) (sb : List Int) (db : List Int), (decide (sa.length < 9223372036854775808) && decide (da.length < 9223372036854775808) && decide (sb.length < 9223372036854775808) && decide (db.length < 9223372036854775808)) = true → ∃ fuel, runF Try.prog spec_InnerProduct.X spec_InnerProduct.I 0 fuel 95 Try.f95 [.d (.int .i64 f), .d (.int .i64 g), .d (.agg [(.ints .i64 sa), (.ints .i64 da)]), .d (.agg [(.ints .i64 sb), (.ints .i64 db)])] = some ([.agg [((.ints .i64 (inS f g sa da sb db)), true), ((.ints .i64 (inD f g sa da sb db)), true)], .one ((.bool (inB f g sa da sb db)), false)], [])) : CallSpec Try.prog spec_InnerProduct.E :=
  callSpec_of (d := 0) hX (by kernel_rfl) spec_InnerProduct.I_ok (by kernel_rfl) (by kernel_rfl) (by kernel_rfl) (fun _ _ _ _ h => by dsimp only [spec_InnerProduct.E] at h; cases h) (fun xs hp => by
    dsimp only [spec_InnerProduct.E] at hp ⊢
    split at hp
    · exact h _ _ _ _ _ _ hp
    · cases hp)
theorem spec_InnerProduct.inner (fuel n0 : Nat) (f g : Int) (sa da sb db : List Int) (hb : inB f g sa da sb db = true) (hf : 3600 < fuel) (c6 c5 : Nat × Nat) (i : Nat) (hi : i < befN sa (sa.length - 1)) :
    spec_InnerProduct.L1 fuel fuel (spec_InnerProduct.t1 f g sb db sa (i : Int) da c6 c5 0 ((inN f g sa da sb db).take (i * behN sb 0))) (spec_InnerProduct.k1 n0 fuel) = spec_InnerProduct.L0 fuel n0 (spec_InnerProduct.t0 f g sb db sa da c6 c5 ((IntKind.wrap .i64 ((i : Int) + 1))) ((inN f g sa da sb db).take ((i + 1) * behN sb 0))) (spec_InnerProduct.k0 fuel) := by
  obtain ⟨hA, hvs, hvol, h60⟩ := inB_A hb
  obtain ⟨a1, a2, a3, a4, a5, a6, a7⟩ := inA_inv hA
  simp only [inB, Bool.and_eq_true] at hb
  obtain ⟨ja, hja, hja2, hva, axa, hda, _⟩ := axB_inv a1
  obtain ⟨jb, hjb, hjb2, hvb, axb, hdb, _⟩ := axB_inv a2
  have hja3 : ja = sa.length - 1 := by omega
  have hjb3 : jb = 0 := by omega
  subst hja3
  subst hjb3
  have hr := axa.rank
  have hrb := axb.rank
  have hM := axb.beh_le
  have hLa := axa.len_le
  have hlN : (inN f g sa da sb db).length = befN sa (sa.length - 1) * behN sb 0 := by simp only [inN, tab_length, inSh_prod]
  have hprod := inSh_prod (sa := sa) (sb := sb)
  have hK : IntKind.wrap .i64 (((sa.length : Nat) : Int) - 1) = inK sa := by unfold inK; rw [wS (by omega) (by omega)]
  have c2 := cut_one (n := sb.length) (by omega)
  have hdr : (sb.drop 1).take (sb.length - 1) = sb.drop 1 := drop_take
  have hvd := axb.beh
  refine run_loop (N := behN sb 0) (fun n m out => spec_InnerProduct.L1 fuel n (spec_InnerProduct.t1 f g sb db sa (i : Int) da c6 c5 (m : Int) out) (spec_InnerProduct.k1 n0 fuel)) (fun m out => out = (inN f g sa da sb db).take (i * behN sb 0 + m)) ?_ ?_ fuel 0 _ (by omega) (by omega) rfl
  · intro n out ho
    rw [spec_InnerProduct.s1, c2]
    simp only [Option.bind_some, hdr]
    rw [lt_of (by simp only [List.length_drop]; omega), cond_true, hvd, dge (by omega), cond_false, ho, Nat.add_mul, Nat.one_mul]
  · intro n m out hm ho
    obtain ⟨e1, e2, e3⟩ := enc2 hi hm
    have hol : out.length = i * behN sb 0 + m := by rw [ho, take_len (by omega)]
    have hx : lnK sa da (inK sa) i 0 = inX sa da sb (i * behN sb 0 + m) := by rw [inX, e2]
    have hy : lnK sb db 0 0 m = inY sb db (i * behN sb 0 + m) := by rw [inY, e3]
    have l1 := inX_length (sa := sa) (da := da) (sb := sb) (n := i * behN sb 0 + m) a5
    have l2 := inY_length (sb := sb) (db := db) (n := i * behN sb 0 + m)
    have hl1 : laneB sa (inK sa) (i : Int) 0 = true := by
      simp only [laneB, a6, Int.toNat_natCast, a7, Bool.and_eq_true, decide_eq_true_eq]
      refine ⟨⟨⟨by omega, by omega⟩, by omega⟩, by omega⟩
    have hl2 : laneB sb 0 0 (m : Int) = true := by
      simp only [laneB, show (0 : Int).toNat = 0 from rfl, show befN sb 0 = 1 from rfl, Bool.and_eq_true, decide_eq_true_eq]
      refine ⟨⟨⟨by omega, by omega⟩, by omega⟩, by omega⟩
    obtain ⟨x1, x2, x3, x4, x5⟩ := inX_eq hA (n := i * behN sb 0 + m) (by omega)
    have v1 := lnD_valid hva hja2 (i := i) (m := 0) hi (by omega)
    have v2 := lnD_valid hvb hjb2 (i := 0) (m := m) (by rw [x5]; omega) hm
    rw [e2] at x1
    rw [e3] at x2
    rw [← x1] at v1
    rw [← x2] at v2
    have v1' : validA [(((inX sa da sb (i * behN sb 0 + m)).length : Nat) : Int)] (inX sa da sb (i * behN sb 0 + m)) = true := by rw [l1]; exact v1
    have v2' : validA [(((inY sb db (i * behN sb 0 + m)).length : Nat) : Int)] (inY sb db (i * behN sb 0 + m)) = true := by rw [l2]; exact v2
    have hfit : fitB [(((inX sa da sb (i * behN sb 0 + m)).length : Nat) : Int)] [(((inY sb db (i * behN sb 0 + m)).length : Nat) : Int)] = true := by
      rw [l1, l2, a3]
      simp [fitB]
    have hcd := cD_vec g (ys := inY sb db (i * behN sb 0 + m)) v1' (by omega)
    rw [spec_InnerProduct.s1, c2]
    simp only [Option.bind_some, hdr, hK, Int.toNat_natCast, show Int.toNat 0 = 0 from rfl]
    rw [lt_of (by simp only [List.length_drop]; omega), cond_true, hvd, dlt hm, cond_true, a1, a2, hl1, hl2, hx, hy, szB_of (by omega), szB_of (by omega), v1', v2', hfit, hcd, hb.1.1.1.1.1, lt_of (by rw [pwD_q2, tab_length]; omega), w1 (by omega)]
    simp only [Bool.and_self, cond_true]
    rw [fitsOk (by simp only [List.length_cons, List.length_nil]; omega), cond_true]
    refine ⟨_, ?_, rfl⟩
    rw [ho]
    refine take_push (by omega) ?_
    simp only [inN]
    rw [tab_getD (by omega)]
    rfl
theorem spec_InnerProduct.loop (fuel : Nat) (f g : Int) (sa da sb db : List Int) (hb : inB f g sa da sb db = true) (hf : 3600 < fuel) :
    spec_InnerProduct.L0 fuel fuel (spec_InnerProduct.t0 f g sb db sa da (0, sa.length - 1) (1, sb.length) 0 []) (spec_InnerProduct.k0 fuel) = some ([.agg [((.ints .i64 (inSh sa sb)), true), ((.ints .i64 (inN f g sa da sb db)), true)], .one ((.bool true), false)], []) := by
  obtain ⟨hA, hvs, hvol, h60⟩ := inB_A hb
  obtain ⟨a1, a2, a3, a4, a5, a6, a7⟩ := inA_inv hA
  obtain ⟨ja, hja, hja2, hva, axa, hda, _⟩ := axB_inv a1
  obtain ⟨jb, hjb, hjb2, hvb, axb, hdb, _⟩ := axB_inv a2
  have hja3 : ja = sa.length - 1 := by omega
  subst hja3
  have hr := axa.rank
  have hrb := axb.rank
  have hM := axa.bef_le
  have hK : IntKind.wrap .i64 (((sa.length : Nat) : Int) - 1) = ((sa.length - 1 : Nat) : Int) := by rw [wS (by omega) (by omega)]; omega
  have c1 : cutEnds sa.length none (some (.imm (.int .i64 ((sa.length - 1 : Nat) : Int)))) = some (0, sa.length - 1) := cut_hi (by omega)
  have hlN : (inN f g sa da sb db).length = befN sa (sa.length - 1) * behN sb 0 := by simp only [inN, tab_length, inSh_prod]
  have hprod := inSh_prod (sa := sa) (sb := sb)
  have htk : (sa.drop 0).take (sa.length - 1 - 0) = sa.take (sa.length - 1) := by rw [List.drop_zero, Nat.sub_zero]
  have hvt := axa.bef
  refine run_loop (N := befN sa (sa.length - 1)) (fun n i out => spec_InnerProduct.L0 fuel n (spec_InnerProduct.t0 f g sb db sa da (0, sa.length - 1) (1, sb.length) (i : Int) out) (spec_InnerProduct.k0 fuel)) (fun i out => out = (inN f g sa da sb db).take (i * behN sb 0)) ?_ ?_ fuel 0 _ (by omega) (by omega) (by simp)
  · intro n out ho
    rw [← hlN, List.take_length] at ho
    rw [spec_InnerProduct.s0, hK, c1]
    simp only [Option.bind_some, htk]
    rw [lt_of (by simp only [List.length_take]; omega), cond_true, hvt, dge (by omega), cond_false, List.nil_append, ← htk, in_parts, szB_of (by simp only [inSh, List.length_append, List.length_take, List.length_drop]; omega), szB_of (by rw [ho]; omega), ho]
    rfl
  · intro n i out hi ho
    rw [spec_InnerProduct.s0, hK, c1]
    simp only [Option.bind_some, htk]
    rw [lt_of (by simp only [List.length_take]; omega), cond_true, hvt, dlt hi, cond_true, ho, spec_InnerProduct.inner fuel n f g sa da sb db hb hf _ _ i hi, w1 (by omega)]
    exact ⟨_, rfl, rfl⟩
theorem spec_InnerProduct.ok : CallSpec Try.prog spec_InnerProduct.E := spec_InnerProduct.ok_of (by simp [spec_InnerProduct.X, spec_validOp.ok, spec_valid.ok, spec_validShape.ok, spec_volume.ok, spec_lane.ok, spec_vector.ok, spec_combine.ok, spec_fold.ok, spec_make1.ok]) fun f g sa da sb db h => by
  obtain ⟨F, hF⟩ : ∃ F : Nat, 3600 < F := ⟨3601, by omega⟩
  refine ⟨F, ?_⟩
  simp only [Bool.and_eq_true] at h
  rw [spec_InnerProduct.e, h.1.1.1, h.1.1.2, h.1.2, h.2]
  unfold inS inD
  cases h1 : opOk f with
  | false => simp only [inB, h1]; rfl
  | true =>
    cases h2 : opOk g with
    | false => simp only [inB, h1, h2]; rfl
    | true =>
      cases h3 : validA sa da with
      | false => simp only [inB, h1, h2, axB, h3]; rfl
      | true =>
        cases h4 : validA sb db with
        | false => simp only [inB, h1, h2, axB, h3, h4, Bool.false_and, Bool.and_false]; rfl
        | true =>
          have hr := (validS_inv (validA_inv h3).1).1
          have hrb := (validS_inv (validA_inv h4).1).1
          by_cases h5 : sa.length = 0
          · have : inB f g sa da sb db = false := by
              have : axOk sa (inK sa) = false := by simp only [axOk, inK]; simp; omega
              simp only [inB, axB, this, Bool.and_false, Bool.false_and]
            rw [this, h5]; rfl
          · have q5 : (((sa.length : Nat) : Int) == 0) = false := by rw [beq_eq_false_iff_ne]; omega
            by_cases h6 : sb.length = 0
            · have : inB f g sa da sb db = false := by
                have : axOk sb 0 = false := by rw [axOk, decide_eq_false (p := (0 : Int) < ((sb.length : Nat) : Int)) (by omega), Bool.and_false]
                simp only [inB, axB, this, Bool.and_false, Bool.false_and]
              rw [this, h6, q5]; rfl
            · have q6 : (((sb.length : Nat) : Int) == 0) = false := by rw [beq_eq_false_iff_ne]; omega
              have a1 : axB sa da (inK sa) = true := by
                rw [show inK sa = ((sa.length - 1 : Nat) : Int) by unfold inK; omega]; exact axB_of h3 (by omega)
              have a2 : axB sb db 0 = true := axB_of (k := 0) h4 (by omega)
              have axa := ax_of (validA_inv h3).1 (k := sa.length - 1) (by omega)
              have axb := ax_of (validA_inv h4).1 (k := 0) (by omega)
              have hK : IntKind.wrap .i64 (((sa.length : Nat) : Int) - 1) = ((sa.length - 1 : Nat) : Int) := by rw [wS (by omega) (by omega)]; omega
              have i0 : idx 0 sb.length = some 0 := idx_nat (j := 0) (by omega)
              have c1 : cutEnds sa.length none (some (.imm (.int .i64 ((sa.length - 1 : Nat) : Int)))) = some (0, sa.length - 1) := cut_hi (by omega)
              have c2 := cut_one (n := sb.length) (by omega)
              have g1 := getD_get (A := sa) (n := sa.length - 1) (by omega)
              have g2 := getD_get (A := sb) (n := 0) (by omega)
              rw [axa.len] at g1
              rw [axb.len] at g2
              rw [q5, q6, hK, idx_nat (j := sa.length - 1) (by omega), i0]
              simp only [Option.bind_some, g1, g2, c1, c2]
              by_cases h7 : lenN sa (sa.length - 1) = lenN sb 0
              · have hne : (((lenN sb 0 : Nat) : Int) != ((lenN sb 0 : Nat) : Int)) = false := by simp
                rw [h7, hne, fitsOk (by simp only [List.length_nil, List.length_take, List.length_drop]; omega), fitsOk (by simp only [List.length_nil, List.nil_append, List.length_take, List.length_drop]; omega), List.nil_append, in_parts, lt_of (by simp only [inSh, List.length_append, List.length_take, List.length_drop]; omega)]
                cases h8 : validS (inSh sa sb) with
                | false =>
                  have : inB f g sa da sb db = false := by simp only [inB, h8, Bool.and_false]
                  rw [this]; rfl
                | true =>
                  have hb : inB f g sa da sb db = true := by simp only [inB, h1, h2, a1, a2, h7, h8, decide_true, Bool.and_self]
                  rw [hb]
                  exact spec_InnerProduct.loop F f g sa da sb db hb hF
              · have hne : (((lenN sa (sa.length - 1) : Nat) : Int) != ((lenN sb 0 : Nat) : Int)) = true := by simp; omega
                have : inB f g sa da sb db = false := by simp only [inB, decide_eq_false h7, Bool.and_false, Bool.false_and]
                rw [hne, this]; rfl

namespace spec_SumProduct
noncomputable def E : Entry := ⟨70, false, false, fun | [.d (.agg [(.ints .i64 sa), (.ints .i64 da)]), .d (.agg [(.ints .i64 sb), (.ints .i64 db)])] => decide (sa.length < 9223372036854775808) && decide (da.length < 9223372036854775808) && decide (sb.length < 9223372036854775808) && decide (db.length < 9223372036854775808) | _ => false, fun | [.d (.agg [(.ints .i64 sa), (.ints .i64 da)]), .d (.agg [(.ints .i64 sb), (.ints .i64 db)])] => ([.agg [((.ints .i64 (inS 1 3 sa da sb db)), true), ((.ints .i64 (inD 1 3 sa da sb db)), true)], .one ((.bool (inB 1 3 sa da sb db)), false)], []) | _ => ([], []), fun _ => [], true, fun _ => none⟩
end spec_SumProduct
namespace spec_SumProduct
noncomputable def X : List Entry := [spec_InnerProduct.E]
noncomputable def I : List Inl := [⟨70, Try.f70, ⟨[8], [], [], [], [], []⟩⟩]
theorem I_ok : ∀ i ∈ I, Try.prog.funcs[i.f]? = some i.fn ∧ (i.fn.name == "runtime.NumGoroutine") = false := by
  intro i hi
  simp only [I, List.mem_cons, List.not_mem_nil, or_false] at hi
  subst hi
  exact ⟨by kernel_rfl, by kernel_rfl⟩
theorem e (fuel : Nat) (p0q0 : List Int) (p0q1 : List Int) (p1q0 : List Int) (p1q1 : List Int) : runF Try.prog X I 0 fuel 70 Try.f70 [.d (.agg [(.ints .i64 p0q0), (.ints .i64 p0q1)]), .d (.agg [(.ints .i64 p1q0), (.ints .i64 p1q1)])] =
  (bif decide (p0q0.length < 9223372036854775808) && decide (p0q1.length < 9223372036854775808) && decide (p1q0.length < 9223372036854775808) && decide (p1q1.length < 9223372036854775808) then
  some ([.agg [((.ints .i64 (inS 1 3 p0q0 p0q1 p1q0 p1q1)), true), ((.ints .i64 (inD 1 3 p0q0 p0q1 p1q0 p1q1)), true)], .one ((.bool (inB 1 3 p0q0 p0q1 p1q0 p1q1)), false)], [])
  else
  none) := by kernel_rfl
end spec_SumProduct
theorem spec_SumProduct.ok_of (hX : ∀ E ∈ spec_SumProduct.X, CallSpec Try.prog E) (h : ∀ (sa : List Int) (da : List Int) (sb : List Int) (db : List Int), (decide (sa.length < 9223372036854775808) && decide (da.length < 9223372036854775808) && decide (sb.length < 9223372036854775808) && decide (db.length < 9223372036854775808)) = true → ∃ fuel, runF Try.prog spec_SumProduct.X spec_SumProduct.I 0 fuel 70 Try.f70 [.d (.agg [(.ints .i64 sa), (.ints .i64 da)]), .d (.agg [(.ints .i64 sb), (.ints .i64 db)])] = some ([.agg [((.ints .i64 (inS 1 3 sa da sb db)), true), ((.ints .i64 (inD 1 3 sa da sb db)), true)], .one ((.bool (inB 1 3 sa da sb db)), false)], [])) : CallSpec Try.prog spec_SumProduct.E :=
  callSpec_of (d := 0) hX (by kernel_rfl) spec_SumProduct.I_ok (by kernel_rfl) (by kernel_rfl) (by kernel_rfl) (fun _ _ _ _ h => by dsimp only [spec_SumProduct.E] at h; cases h) (fun xs hp => by
    dsimp only [spec_SumProduct.E] at hp ⊢
    split at hp
    · exact h _ _ _ _ hp
    · cases hp)
theorem spec_SumProduct.ok : CallSpec Try.prog spec_SumProduct.E := spec_SumProduct.ok_of (by simp [spec_SumProduct.X, spec_InnerProduct.ok]) fun sa da sb db h => ⟨0, by
  rw [spec_SumProduct.e, h]
  rfl⟩

namespace spec_PowerOf
noncomputable def E : Entry := ⟨35, false, false, fun | [.d (.agg [(.ints .i64 sh), (.ints .i64 da)]), .d (.int .i64 n)] => decide (sh.length < 9223372036854775808) && decide (da.length < 9223372036854775808) | _ => false, fun | [.d (.agg [(.ints .i64 sh), (.ints .i64 da)]), .d (.int .i64 n)] => ([.agg [((.ints .i64 (pwS sh da n)), true), ((.ints .i64 (ppD sh da n)), true)], .one ((.bool (poOk sh da n)), false)], []) | _ => ([], []), fun _ => [], true, fun _ => none⟩
end spec_PowerOf
namespace spec_PowerOf
noncomputable def X : List Entry := [spec_isSquare.E, spec_inRange.E, spec_Identity.E, spec_SumProduct.E]
noncomputable def I : List Inl := [⟨35, Try.f35, ⟨[21, 30], [(1000005, [0, 3, 5, 8, 9, 10, 11, 12, 13, 14, 15, 16, 17, 18, 19, 20, 21, 22, 23, 24, 25, 26, 27, 28, 29, 30, 31, 32, 33])], [], [], [], []⟩⟩]
theorem I_ok : ∀ i ∈ I, Try.prog.funcs[i.f]? = some i.fn ∧ (i.fn.name == "runtime.NumGoroutine") = false := by
  intro i hi
  simp only [I, List.mem_cons, List.not_mem_nil, or_false] at hi
  subst hi
  exact ⟨by kernel_rfl, by kernel_rfl⟩
noncomputable abbrev L0 (fuel n : Nat) (s : St) (k : Kont) := lAt Try.prog X I fuel true 0 false 35 (bodyOf Try.f35) [1, 1, 1, 0, 1, 0] n s k
noncomputable abbrev k0  (fuel : Nat) : Kont := (kAt Try.prog X I fuel true 0 false 35 (bodyOf Try.f35) [1, 1, 1, 0, 1, 0] [] (endK Try.prog Try.f35))
noncomputable def t0 (p1 : Int) (p0q0 : List Int) (p0q1 : List Int) (x0q1 : Int) (x0q4 : List Int) (x0q5 : List Int) : St := ⟨[.dead, (.imm (.int .i64 p1)), (.ptr 1000000000 0 0), .dead, (.ptr 1000000001 0 0), .dead, (.ptr 1000000002 0 0), (.imm (.int .i64 x0q1)), .dead, .dead, .dead, .dead, .dead, .dead, .dead, .dead, .dead, .dead, .dead, .dead, .dead, .dead, .dead, .dead, .dead, .dead, .dead, .dead, .dead, .dead, .dead, .dead, .dead, .dead], hOf [(1000000000, (.box [(.imm (.ints .i64 p0q0)), (.imm (.ints .i64 p0q1))])), (1000000001, (.box [(.imm .nils), (.imm .nils)])), (1000000002, (.box [(.all 1000000003 1), (.all 1000000004 1)])), (1000000003, (.ints .i64 x0q4)), (1000000004, (.ints .i64 x0q5))], [], []⟩
theorem e (fuel : Nat) (p0q0 : List Int) (p0q1 : List Int) (p1 : Int) : runF Try.prog X I 0 fuel 35 Try.f35 [.d (.agg [(.ints .i64 p0q0), (.ints .i64 p0q1)]), .d (.int .i64 p1)] =
  (bif decide (p0q0.length < 9223372036854775808) && decide (p0q1.length < 9223372036854775808) then
  (bif (!(sqB p0q0 p0q1)) then
  some ([.agg [((.ints .i64 []), true), ((.ints .i64 []), true)], .one ((.bool false), false)], [])
  else
  (bif (!(decide (0 ≤ p1) && decide (p1 ≤ 5))) then
  some ([.agg [((.ints .i64 []), true), ((.ints .i64 []), true)], .one ((.bool false), false)], [])
  else
  (idx 0 p0q0.length).bind fun j1 =>
  (p0q0[j1]?).bind fun v2 =>
  L0 fuel fuel (t0 p1 p0q0 p0q1 0 ((idS v2)) ((idD v2))) (k0  fuel)))
  else
  none) := by kernel_rfl
theorem s0 (fuel n0 : Nat) (p1 : Int) (p0q0 : List Int) (p0q1 : List Int) (x0q1 : Int) (x0q4 : List Int) (x0q5 : List Int) : L0 fuel (n0 + 1) (t0 p1 p0q0 p0q1 x0q1 x0q4 x0q5) (k0  fuel) =
  (bif (decide ((x0q1 : Int) < p1)) then
  (bif decide (x0q4.length < 9223372036854775808) && decide (x0q5.length < 9223372036854775808) && decide (p0q0.length < 9223372036854775808) && decide (p0q1.length < 9223372036854775808) then
  L0 fuel n0 (t0 p1 p0q0 p0q1 ((IntKind.wrap .i64 (x0q1 + 1))) ((inS 1 3 x0q4 x0q5 p0q0 p0q1)) ((inD 1 3 x0q4 x0q5 p0q0 p0q1))) (k0  fuel)
  else
  none)
  else
  some ([.agg [((.ints .i64 x0q4), true), ((.ints .i64 x0q5), true)], .one ((.bool true), false)], [])) := by kernel_rfl
end spec_PowerOf
theorem spec_PowerOf.ok_of (hX : ∀ E ∈ spec_PowerOf.X, CallSpec Try.prog E) (h : ∀ (sh : List Int) (da : List Int) (n : Int), (decide (sh.length < 9223372036854775808) && decide (da.length < 9223372036854775808)) = true → ∃ fuel, runF Try.prog spec_PowerOf.X spec_PowerOf.I 0 fuel 35 Try.f35 [.d (.agg [(.ints .i64 sh), (.ints .i64 da)]), .d (.int .i64 n)] = some ([.agg [((.ints .i64 (pwS sh da n)), true), ((.ints .i64 (ppD sh da n)), true)], .one ((.bool (poOk sh da n)), false)], [])) : CallSpec Try.prog spec_PowerOf.E :=
  callSpec_of (d := 0) hX (by kernel_rfl) spec_PowerOf.I_ok (by kernel_rfl) (by kernel_rfl) (by kernel_rfl) (fun _ _ _ _ h => by dsimp only [spec_PowerOf.E] at h; cases h) (fun xs hp => by
    dsimp only [spec_PowerOf.E] at hp ⊢
    split at hp
    · exact h _ _ _ hp
    · cases hp)
theorem spec_PowerOf.ok : CallSpec Try.prog spec_PowerOf.E := spec_PowerOf.ok_of (by simp [spec_PowerOf.X, spec_isSquare.ok, spec_inRange.ok, spec_Identity.ok, spec_SumProduct.ok]) fun sh da n h => by
  obtain ⟨F, hF⟩ : ∃ F : Nat, 100 < F := ⟨101, by omega⟩
  refine ⟨F, ?_⟩
  rw [spec_PowerOf.e, h, cond_true]
  unfold pwS ppD poOk
  cases hb : sqB sh da with
  | false => rfl
  | true =>
    cases hp : decide (0 ≤ n) && decide (n ≤ 5) with
    | false => rfl
    | true =>
      simp only [Bool.and_eq_true, decide_eq_true_eq] at hp h
      obtain ⟨p, rfl⟩ : ∃ p : Nat, n = p := ⟨n.toNat, by omega⟩
      obtain ⟨k, hk, hsh, hl, hv, ha⟩ := sqB_inv hb
      have h4 := sq4 hk
      have hF2 := pow_facts hk hl hv hsh
      have ix : idx 0 sh.length = some 0 := by rw [hsh]; rfl
      have ig : sh[0]? = some (k : Int) := by rw [hsh]; rfl
      rw [ix]
      simp only [Option.bind_some, ig]
      rw [(idSD hk).1, (idSD hk).2]
      simp only [Bool.and_self, Bool.not_true, cond_false, cond_true, Int.toNat_natCast]
      refine run_loop (N := p) (fun m j (st : List Int × List Int) => spec_PowerOf.L0 F m (spec_PowerOf.t0 (p : Int) sh da (j : Int) st.1 st.2) (spec_PowerOf.k0 F)) (fun j st => st.1 = sh ∧ st.2 = powL sh da j) ?_ ?_ F 0 (_, _) (by omega) (by omega) ⟨hsh.symm, by rw [hsh]; rfl⟩
      · rintro m ⟨s1, s2⟩ ⟨e1, e2⟩
        simp only at e1 e2
        subst s1; subst s2
        rw [spec_PowerOf.s0, dge (by omega), cond_false]
      · rintro m j ⟨s1, s2⟩ hj ⟨e1, e2⟩
        simp only at e1 e2
        subst s1; subst s2
        obtain ⟨q1, q2, q3⟩ := hF2 j
        dsimp only
        rw [spec_PowerOf.s0, dlt hj, cond_true, w1 (by omega), lt_of (by omega), lt_of (by omega), lt_of (by omega)]
        refine ⟨(sh, powL sh da (j + 1)), ⟨rfl, rfl⟩, ?_⟩
        rw [q2, q3]
        rfl

namespace laws_FnPowerOfNone
noncomputable def E : Entry := ⟨8, true, false, fun | [.d (.ints .u8 bs)] => bytesB bs | _ => false, fun | [.d (.ints .u8 bs)] => ([.one ((.bool true), false)], []) | _ => ([], []), fun _ => [], false, fun _ => none⟩
end laws_FnPowerOfNone
namespace laws_FnPowerOfNone
noncomputable def X : List Entry := [spec_DrawPowerOf.E, impl_PowerOf.E, spec_PowerOf.E, laws_equalArray.E, impl_Identity.E, impl_ValidArray.E]
noncomputable def I : List Inl := [⟨8, Try.f8, ⟨[18, 24, 30, 56, 61, 74], [], [], [(10, [0, 1, 2, 3, 4, 6, 5, 7, 8, 9, 10, 11, 12, 13, 14, 15, 16, 17, 18, 19, 20, 21, 22])], [], []⟩⟩]
theorem I_ok : ∀ i ∈ I, Try.prog.funcs[i.f]? = some i.fn ∧ (i.fn.name == "runtime.NumGoroutine") = false := by
  intro i hi
  simp only [I, List.mem_cons, List.not_mem_nil, or_false] at hi
  subst hi
  exact ⟨by kernel_rfl, by kernel_rfl⟩
theorem e (fuel : Nat) (p0 : List Int) : runF Try.prog X I 0 fuel 8 Try.f8 [.d (.ints .u8 p0)] =
  (bif (decide ((((p0.length : Nat) : Int) : Int) > 1048576)) then
  some ([.one ((.bool true), false)], [])
  else
  (bif bytesB p0 then
  (bif decide (((asS (cutC p0) 0)).length < 9223372036854775808) && decide (((asD (cutC p0) 0)).length < 9223372036854775808) then
  (bif decide (((asS (cutC p0) 0)).length < 9223372036854775808) && decide (((asD (cutC p0) 0)).length < 9223372036854775808) then
  (bif decide (((pwS ((asS (cutC p0) 0)) ((asD (cutC p0) 0)) ((oneV (cutC p0) (asP (cutC p0) 0) powL5)))).length < 9223372036854775808) && decide (((ppD ((asS (cutC p0) 0)) ((asD (cutC p0) 0)) ((oneV (cutC p0) (asP (cutC p0) 0) powL5)))).length < 9223372036854775808) && decide (((pwS ((asS (cutC p0) 0)) ((asD (cutC p0) 0)) ((oneV (cutC p0) (asP (cutC p0) 0) powL5)))).length < 9223372036854775808) && decide (((ppD ((asS (cutC p0) 0)) ((asD (cutC p0) 0)) ((oneV (cutC p0) (asP (cutC p0) 0) powL5)))).length < 9223372036854775808) then
  (bif (!(decide (((pwS ((asS (cutC p0) 0)) ((asD (cutC p0) 0)) ((oneV (cutC p0) (asP (cutC p0) 0) powL5)))) = ((pwS ((asS (cutC p0) 0)) ((asD (cutC p0) 0)) ((oneV (cutC p0) (asP (cutC p0) 0) powL5))))) && decide (((ppD ((asS (cutC p0) 0)) ((asD (cutC p0) 0)) ((oneV (cutC p0) (asP (cutC p0) 0) powL5)))) = ((ppD ((asS (cutC p0) 0)) ((asD (cutC p0) 0)) ((oneV (cutC p0) (asP (cutC p0) 0) powL5))))))) then
  (bif decide (((pwS ((asS (cutC p0) 0)) ((asD (cutC p0) 0)) ((oneV (cutC p0) (asP (cutC p0) 0) powL5)))).length < 9223372036854775808) && decide (((ppD ((asS (cutC p0) 0)) ((asD (cutC p0) 0)) ((oneV (cutC p0) (asP (cutC p0) 0) powL5)))).length < 9223372036854775808) && decide (((pwS ((asS (cutC p0) 0)) ((asD (cutC p0) 0)) ((oneV (cutC p0) (asP (cutC p0) 0) powL5)))).length < 9223372036854775808) && decide (((ppD ((asS (cutC p0) 0)) ((asD (cutC p0) 0)) ((oneV (cutC p0) (asP (cutC p0) 0) powL5)))).length < 9223372036854775808) then
  (bif (decide (((pwS ((asS (cutC p0) 0)) ((asD (cutC p0) 0)) ((oneV (cutC p0) (asP (cutC p0) 0) powL5)))) = ((pwS ((asS (cutC p0) 0)) ((asD (cutC p0) 0)) ((oneV (cutC p0) (asP (cutC p0) 0) powL5))))) && decide (((ppD ((asS (cutC p0) 0)) ((asD (cutC p0) 0)) ((oneV (cutC p0) (asP (cutC p0) 0) powL5)))) = ((ppD ((asS (cutC p0) 0)) ((asD (cutC p0) 0)) ((oneV (cutC p0) (asP (cutC p0) 0) powL5)))))) then
  some ([.one ((.bool ((poOk ((asS (cutC p0) 0)) ((asD (cutC p0) 0)) ((oneV (cutC p0) (asP (cutC p0) 0) powL5))) == (poOk ((asS (cutC p0) 0)) ((asD (cutC p0) 0)) ((oneV (cutC p0) (asP (cutC p0) 0) powL5))))), false)], [])
  else
  some ([.one ((.bool false), false)], []))
  else
  none)
  else
  (bif (!((poOk ((asS (cutC p0) 0)) ((asD (cutC p0) 0)) ((oneV (cutC p0) (asP (cutC p0) 0) powL5))) == (poOk ((asS (cutC p0) 0)) ((asD (cutC p0) 0)) ((oneV (cutC p0) (asP (cutC p0) 0) powL5))))) then
  (bif decide (((pwS ((asS (cutC p0) 0)) ((asD (cutC p0) 0)) ((oneV (cutC p0) (asP (cutC p0) 0) powL5)))).length < 9223372036854775808) && decide (((ppD ((asS (cutC p0) 0)) ((asD (cutC p0) 0)) ((oneV (cutC p0) (asP (cutC p0) 0) powL5)))).length < 9223372036854775808) && decide (((pwS ((asS (cutC p0) 0)) ((asD (cutC p0) 0)) ((oneV (cutC p0) (asP (cutC p0) 0) powL5)))).length < 9223372036854775808) && decide (((ppD ((asS (cutC p0) 0)) ((asD (cutC p0) 0)) ((oneV (cutC p0) (asP (cutC p0) 0) powL5)))).length < 9223372036854775808) then
  (bif (decide (((pwS ((asS (cutC p0) 0)) ((asD (cutC p0) 0)) ((oneV (cutC p0) (asP (cutC p0) 0) powL5)))) = ((pwS ((asS (cutC p0) 0)) ((asD (cutC p0) 0)) ((oneV (cutC p0) (asP (cutC p0) 0) powL5))))) && decide (((ppD ((asS (cutC p0) 0)) ((asD (cutC p0) 0)) ((oneV (cutC p0) (asP (cutC p0) 0) powL5)))) = ((ppD ((asS (cutC p0) 0)) ((asD (cutC p0) 0)) ((oneV (cutC p0) (asP (cutC p0) 0) powL5)))))) then
  some ([.one ((.bool ((poOk ((asS (cutC p0) 0)) ((asD (cutC p0) 0)) ((oneV (cutC p0) (asP (cutC p0) 0) powL5))) == (poOk ((asS (cutC p0) 0)) ((asD (cutC p0) 0)) ((oneV (cutC p0) (asP (cutC p0) 0) powL5))))), false)], [])
  else
  some ([.one ((.bool false), false)], []))
  else
  none)
  else
  (bif (!(poOk ((asS (cutC p0) 0)) ((asD (cutC p0) 0)) ((oneV (cutC p0) (asP (cutC p0) 0) powL5)))) then
  (bif decide (((pwS ((asS (cutC p0) 0)) ((asD (cutC p0) 0)) ((oneV (cutC p0) (asP (cutC p0) 0) powL5)))).length < 9223372036854775808) && decide (((ppD ((asS (cutC p0) 0)) ((asD (cutC p0) 0)) ((oneV (cutC p0) (asP (cutC p0) 0) powL5)))).length < 9223372036854775808) && decide (((pwS ((asS (cutC p0) 0)) ((asD (cutC p0) 0)) ((oneV (cutC p0) (asP (cutC p0) 0) powL5)))).length < 9223372036854775808) && decide (((ppD ((asS (cutC p0) 0)) ((asD (cutC p0) 0)) ((oneV (cutC p0) (asP (cutC p0) 0) powL5)))).length < 9223372036854775808) then
  (bif (decide (((pwS ((asS (cutC p0) 0)) ((asD (cutC p0) 0)) ((oneV (cutC p0) (asP (cutC p0) 0) powL5)))) = ((pwS ((asS (cutC p0) 0)) ((asD (cutC p0) 0)) ((oneV (cutC p0) (asP (cutC p0) 0) powL5))))) && decide (((ppD ((asS (cutC p0) 0)) ((asD (cutC p0) 0)) ((oneV (cutC p0) (asP (cutC p0) 0) powL5)))) = ((ppD ((asS (cutC p0) 0)) ((asD (cutC p0) 0)) ((oneV (cutC p0) (asP (cutC p0) 0) powL5)))))) then
  some ([.one ((.bool ((poOk ((asS (cutC p0) 0)) ((asD (cutC p0) 0)) ((oneV (cutC p0) (asP (cutC p0) 0) powL5))) == (poOk ((asS (cutC p0) 0)) ((asD (cutC p0) 0)) ((oneV (cutC p0) (asP (cutC p0) 0) powL5))))), false)], [])
  else
  some ([.one ((.bool false), false)], []))
  else
  none)
  else
  (bif decide (((asS (cutC p0) 0)).length < 9223372036854775808) && decide (((asD (cutC p0) 0)).length < 9223372036854775808) then
  (bif decide (((asS (cutC p0) 0)).length < 9223372036854775808) && decide (((asD (cutC p0) 0)).length < 9223372036854775808) then
  (bif (poOk ((asS (cutC p0) 0)) ((asD (cutC p0) 0)) 0) then
  (bif (poOk ((asS (cutC p0) 0)) ((asD (cutC p0) 0)) 1) then
  (idx 0 (asS (cutC p0) 0).length).bind fun j1 =>
  ((asS (cutC p0) 0)[j1]?).bind fun v2 =>
  (bif decide (((pwS ((asS (cutC p0) 0)) ((asD (cutC p0) 0)) 0)).length < 9223372036854775808) && decide (((ppD ((asS (cutC p0) 0)) ((asD (cutC p0) 0)) 0)).length < 9223372036854775808) && decide (((idS v2)).length < 9223372036854775808) && decide (((idD v2)).length < 9223372036854775808) then
  (bif (decide (((pwS ((asS (cutC p0) 0)) ((asD (cutC p0) 0)) 0)) = ((idS v2))) && decide (((ppD ((asS (cutC p0) 0)) ((asD (cutC p0) 0)) 0)) = ((idD v2)))) then
  (bif decide (((pwS ((asS (cutC p0) 0)) ((asD (cutC p0) 0)) 1)).length < 9223372036854775808) && decide (((ppD ((asS (cutC p0) 0)) ((asD (cutC p0) 0)) 1)).length < 9223372036854775808) && decide (((asS (cutC p0) 0)).length < 9223372036854775808) && decide (((asD (cutC p0) 0)).length < 9223372036854775808) then
  (bif (decide (((pwS ((asS (cutC p0) 0)) ((asD (cutC p0) 0)) 1)) = ((asS (cutC p0) 0))) && decide (((ppD ((asS (cutC p0) 0)) ((asD (cutC p0) 0)) 1)) = ((asD (cutC p0) 0)))) then
  (bif decide (((pwS ((asS (cutC p0) 0)) ((asD (cutC p0) 0)) ((oneV (cutC p0) (asP (cutC p0) 0) powL5)))).length < 9223372036854775808) && decide (((ppD ((asS (cutC p0) 0)) ((asD (cutC p0) 0)) ((oneV (cutC p0) (asP (cutC p0) 0) powL5)))).length < 9223372036854775808) then
  some ([.one ((.bool (validA ((pwS ((asS (cutC p0) 0)) ((asD (cutC p0) 0)) ((oneV (cutC p0) (asP (cutC p0) 0) powL5)))) ((ppD ((asS (cutC p0) 0)) ((asD (cutC p0) 0)) ((oneV (cutC p0) (asP (cutC p0) 0) powL5)))))), false)], [])
  else
  none)
  else
  some ([.one ((.bool false), false)], []))
  else
  none)
  else
  some ([.one ((.bool false), false)], []))
  else
  none)
  else
  some ([.one ((.bool false), false)], []))
  else
  some ([.one ((.bool false), false)], []))
  else
  none)
  else
  none))))
  else
  none)
  else
  none)
  else
  none)
  else
  none)) := by kernel_rfl
end laws_FnPowerOfNone
theorem laws_FnPowerOfNone.ok_of (hX : ∀ E ∈ laws_FnPowerOfNone.X, CallSpec Try.prog E) (h : ∀ (bs : List Int), (bytesB bs) = true → ∃ fuel, runF Try.prog laws_FnPowerOfNone.X laws_FnPowerOfNone.I 0 fuel 8 Try.f8 [.d (.ints .u8 bs)] = some ([.one ((.bool true), false)], [])) : CallSpec Try.prog laws_FnPowerOfNone.E :=
  callSpec_of (d := 0) hX (by kernel_rfl) laws_FnPowerOfNone.I_ok (by kernel_rfl) (by kernel_rfl) (by kernel_rfl) (fun _ _ _ _ h => by dsimp only [laws_FnPowerOfNone.E] at h; cases h) (fun xs hp => by
    dsimp only [laws_FnPowerOfNone.E] at hp ⊢
    split at hp
    · exact h _ hp
    · cases hp)
theorem laws_FnPowerOfNone.ok : CallSpec Try.prog laws_FnPowerOfNone.E := laws_FnPowerOfNone.ok_of (by simp [laws_FnPowerOfNone.X, spec_DrawPowerOf.ok, impl_PowerOf.ok, spec_PowerOf.ok, laws_equalArray.ok, impl_Identity.ok, impl_ValidArray.ok]) fun bs h => by
  obtain ⟨F, hF⟩ : ∃ F : Nat, 4000 < F := ⟨4001, by omega⟩
  refine ⟨F, ?_⟩
  rw [laws_FnPowerOfNone.e]
  by_cases hl : ((bs.length : Nat) : Int) > 1048576
  · rw [decide_eq_true hl]; rfl
  rw [decide_eq_false hl, cond_false, h, cond_true]
  have r0 := cut_ok h (p := 0) (by omega) (by omega)
  obtain ⟨a1, a2, a3, a4⟩ := as_bd r0 (by omega)
  obtain ⟨sh, hsh⟩ : ∃ x, asS (cutC bs) 0 = x := ⟨_, rfl⟩
  obtain ⟨da, hda⟩ : ∃ x, asD (cutC bs) 0 = x := ⟨_, rfl⟩
  rw [hsh] at a1
  rw [hda] at a2
  have g1 := lt_of (xs := sh) (by omega)
  have g2 := lt_of (xs := da) (by omega)
  have r1 := rd_le (q := asP (cutC bs) 0) r0 (by omega) (by omega)
  have hnm : oneV (cutC bs) (asP (cutC bs) 0) powL5 ∈ powL5 := oneV_mem r1 (by simp [powL5]) (by simp [powL5])
  obtain ⟨n, hn⟩ : ∃ x, oneV (cutC bs) (asP (cutC bs) 0) powL5 = x := ⟨_, rfl⟩
  rw [hn] at hnm
  have hnb : -1 ≤ n ∧ n ≤ 6 := by
    simp only [powL5, List.mem_cons, List.not_mem_nil, or_false] at hnm
    omega
  simp only [hsh, hda, hn]
  have w := pp_len sh da n
  have g3 := lt_of (xs := pwS sh da n) (by omega)
  have g4 := lt_of (xs := ppD sh da n) (by omega)
  cases hb : poOk sh da n with
  | false => simp only [Bool.and_self, Bool.and_true, Bool.true_and, cond_true, cond_false, Bool.not_true, Bool.not_false, bne_self_eq_false, beq_self_eq_true, decide_true, eq_self, g1, g2, g3, g4]
  | true =>
    obtain ⟨p, k, rfl, hp, hk, rfl, hl, hv, hq, hvp⟩ := poOk_inv hb
    have hF := pow_facts hk hl hv rfl
    have hS : ∀ q : Nat, q ≤ 5 → poOk [(k : Int), (k : Int)] da (q : Int) = true ∧ pwS [(k : Int), (k : Int)] da (q : Int) = [(k : Int), (k : Int)] ∧ ppD [(k : Int), (k : Int)] da (q : Int) = powL [(k : Int), (k : Int)] da q := fun q hq5 => by
      have h1 : poOk [(k : Int), (k : Int)] da (q : Int) = true := by simp [poOk, hq]; omega
      exact ⟨h1, by simp only [pwS, h1, cond_true], by simp only [ppD, h1, cond_true, Int.toNat_natCast]⟩
    obtain ⟨_, p1, p2⟩ := hS p hp
    rw [p1] at g3
    rw [p2] at g4
    obtain ⟨z0, z1, z2⟩ := hS 0 (by omega)
    obtain ⟨o0, o1, o2⟩ := hS 1 (by omega)
    have ep0 : powL [(k : Int), (k : Int)] da 0 = idN k := rfl
    have ep1 : powL [(k : Int), (k : Int)] da 1 = da := id_left hv
    rw [ep0] at z2
    rw [ep1] at o2
    have z0' : poOk [(k : Int), (k : Int)] da 0 = true := z0
    have z1' : pwS [(k : Int), (k : Int)] da 0 = [(k : Int), (k : Int)] := z1
    have z2' : ppD [(k : Int), (k : Int)] da 0 = idN k := z2
    have o0' : poOk [(k : Int), (k : Int)] da 1 = true := o0
    have o1' : pwS [(k : Int), (k : Int)] da 1 = [(k : Int), (k : Int)] := o1
    have o2' : ppD [(k : Int), (k : Int)] da 1 = da := o2
    have g5 := lt_of (xs := idN k) (by rw [idN_length]; have := sq4 hk; omega)
    have ix : idx 0 ([(k : Int), (k : Int)] : List Int).length = some 0 := rfl
    have ig : ([(k : Int), (k : Int)] : List Int)[0]? = some (k : Int) := rfl
    rw [z0', z1', z2', o0', o1', o2', p1, p2, ix]
    simp only [Option.bind_some, ig]
    rw [(idSD hk).1, (idSD hk).2]
    simp only [Bool.and_self, Bool.and_true, Bool.true_and, cond_true, cond_false, Bool.not_true, Bool.not_false, bne_self_eq_false, beq_self_eq_true, decide_true, eq_self, g1, g2, g3, g4, g5, hvp]

end Go.Ab
