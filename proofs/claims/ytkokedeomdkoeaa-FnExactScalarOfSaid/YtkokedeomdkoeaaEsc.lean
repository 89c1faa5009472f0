import Derived.Test.YtkokedeomdkoeaaAbLaw
import Derived.Test.YtkokedeomdkoeaaProg
import Derived.Test.YtkokedeomdkoeaaChecked
open Go Go.Ab Go.Proofs
set_option maxRecDepth 100000
set_option linter.unusedVariables false
namespace Go.Ab
/-- What is left of a mark: k, k + 1, and so on. -/
def markL : List Int → Int → List Int
  | [], _ => []
  | _ :: xs, k => k :: markL xs (IntKind.wrap .i64 (k + 1))
def markK : List Int → Int → Int
  | [], k => k
  | _ :: xs, k => markK xs (IntKind.wrap .i64 (k + 1))
def heldL : List Int → Int → Int
  | [], k => k
  | x :: xs, k => bif x != k then -1 else heldL xs (IntKind.wrap .i64 (k + 1))
def heldA (sh da : List Int) (k : Int) : Int := bif decide (heldL sh k < 0) then -1 else bif decide (heldL da (heldL sh k) < 0) then -1 else heldL da (heldL sh k)
def numB (v : Int) : Bool := decide (-1000000 ≤ v) && decide (v ≤ 1000000)
def scalL (v : Int) : List Int := bif numB v then [v] else []
abbrev nilI : List Int := []

theorem idx_nat {j n : Nat} (h : j < n) : idx (j : Int) n = some j := by simp [idx, h]
theorem w1 {j : Nat} (h : j < 9223372036854775807) : IntKind.wrap .i64 ((j : Int) + 1) = ((j + 1 : Nat) : Int) := by rw [IntKind.wrap_i64]; omega
theorem dlt {j n : Nat} (h : j < n) : decide ((j : Int) < ((n : Nat) : Int)) = true := by simp [h]
theorem dge {j n : Nat} (h : ¬ j < n) : decide ((j : Int) < ((n : Nat) : Int)) = false := by simp; omega
theorem getS {xs : List Int} {j : Nat} (h : j < xs.length) : xs[j]? = some xs[j] := List.getElem?_eq_getElem h
theorem dropS {xs : List Int} {j : Nat} (h : j < xs.length) : xs.drop j = xs[j] :: xs.drop (j + 1) := List.drop_eq_getElem_cons h
theorem dropE {xs : List Int} {j : Nat} (h : ¬ j < xs.length) : xs.drop j = [] := List.drop_eq_nil_of_le (by omega)
theorem markL_length (xs : List Int) (k : Int) : (markL xs k).length = xs.length := by
  induction xs generalizing k with
  | nil => rfl
  | cons x xs ih => simp [markL, ih]
end Go.Ab
namespace Go.Ab
namespace spec_inRange
def E : Entry := ⟨29, true, false, fun | [.d (.int .i64 v), .d (.int .i64 lo), .d (.int .i64 hi)] => true | _ => false, fun | [.d (.int .i64 v), .d (.int .i64 lo), .d (.int .i64 hi)] => ([.one ((.bool (decide (lo ≤ v) && decide (v ≤ hi))), false)], []) | _ => ([], [])⟩
end spec_inRange
namespace spec_inRange
noncomputable def X : List Entry := []
def A : Ann := ⟨[], []⟩
theorem e (fuel : Nat) (p0 : Int) (p1 : Int) (p2 : Int) : runF Try.prog X A fuel Try.f29 [.d (.int .i64 p0), .d (.int .i64 p1), .d (.int .i64 p2)] =
(bif (decide ((p1 : Int) ≤ p0)) then
some ([.one ((.bool (decide ((p0 : Int) ≤ p2))), false)], [])
else
some ([.one ((.bool false), false)], [])) := by kernel_rfl
end spec_inRange
theorem spec_inRange.ok_of (hX : ∀ E ∈ spec_inRange.X, CallSpec Try.prog E) (h : ∀ (v : Int) (lo : Int) (hi : Int), (true) = true → ∃ fuel, runF Try.prog spec_inRange.X spec_inRange.A fuel Try.f29 [.d (.int .i64 v), .d (.int .i64 lo), .d (.int .i64 hi)] = some ([.one ((.bool (decide (lo ≤ v) && decide (v ≤ hi))), false)], [])) : CallSpec Try.prog spec_inRange.E :=
  callSpec_of hX (by kernel_rfl) (by kernel_rfl) (by kernel_rfl) (by kernel_rfl) (fun xs hp => by
    dsimp only [spec_inRange.E] at hp ⊢
    split at hp
    · exact h _ _ _ hp
    · cases hp)
theorem spec_inRange.ok : CallSpec Try.prog spec_inRange.E := spec_inRange.ok_of (by simp [spec_inRange.X]) fun v lo hi _ => ⟨0, by
  rw [spec_inRange.e]
  cases decide (lo ≤ v) <;> rfl⟩

namespace spec_scalar
def E : Entry := ⟨30, false, false, fun | [.d (.int .i64 v)] => true | _ => false, fun | [.d (.int .i64 v)] => ([.agg [((.ints .i64 nilI), true), ((.ints .i64 [v]), true)]], []) | _ => ([], [])⟩
end spec_scalar
namespace spec_scalar
noncomputable def X : List Entry := []
def A : Ann := ⟨[], []⟩
theorem e (fuel : Nat) (p0 : Int) : runF Try.prog X A fuel Try.f30 [.d (.int .i64 p0)] =
some ([.agg [((.ints .i64 []), true), ((.ints .i64 [p0]), true)]], []) := by kernel_rfl
end spec_scalar
theorem spec_scalar.ok_of (hX : ∀ E ∈ spec_scalar.X, CallSpec Try.prog E) (h : ∀ (v : Int), (true) = true → ∃ fuel, runF Try.prog spec_scalar.X spec_scalar.A fuel Try.f30 [.d (.int .i64 v)] = some ([.agg [((.ints .i64 nilI), true), ((.ints .i64 [v]), true)]], [])) : CallSpec Try.prog spec_scalar.E :=
  callSpec_of hX (by kernel_rfl) (by kernel_rfl) (by kernel_rfl) (by kernel_rfl) (fun xs hp => by
    dsimp only [spec_scalar.E] at hp ⊢
    split at hp
    · exact h _ hp
    · cases hp)
theorem spec_scalar.ok : CallSpec Try.prog spec_scalar.E := spec_scalar.ok_of (by simp [spec_scalar.X]) fun v _ => ⟨0, by
  rw [spec_scalar.e]⟩

namespace spec_ScalarOf
def E : Entry := ⟨9, false, false, fun | [.d (.int .i64 v)] => true | _ => false, fun | [.d (.int .i64 v)] => ([.agg [((.ints .i64 nilI), true), ((.ints .i64 (scalL v)), true)]], []) | _ => ([], [])⟩
end spec_ScalarOf
namespace spec_ScalarOf
noncomputable def X : List Entry := [spec_inRange.E, spec_scalar.E]
def A : Ann := ⟨[8], []⟩
theorem e (fuel : Nat) (p0 : Int) : runF Try.prog X A fuel Try.f9 [.d (.int .i64 p0)] =
(bif (!(decide (((-1000000)) ≤ p0) && decide (p0 ≤ 1000000))) then
some ([.agg [((.ints .i64 []), true), ((.ints .i64 []), true)]], [])
else
some ([.agg [((.ints .i64 nilI), true), ((.ints .i64 [p0]), true)]], [])) := by kernel_rfl
end spec_ScalarOf
theorem spec_ScalarOf.ok_of (hX : ∀ E ∈ spec_ScalarOf.X, CallSpec Try.prog E) (h : ∀ (v : Int), (true) = true → ∃ fuel, runF Try.prog spec_ScalarOf.X spec_ScalarOf.A fuel Try.f9 [.d (.int .i64 v)] = some ([.agg [((.ints .i64 nilI), true), ((.ints .i64 (scalL v)), true)]], [])) : CallSpec Try.prog spec_ScalarOf.E :=
  callSpec_of hX (by kernel_rfl) (by kernel_rfl) (by kernel_rfl) (by kernel_rfl) (fun xs hp => by
    dsimp only [spec_ScalarOf.E] at hp ⊢
    split at hp
    · exact h _ hp
    · cases hp)
theorem spec_ScalarOf.ok : CallSpec Try.prog spec_ScalarOf.E := spec_ScalarOf.ok_of (by simp [spec_ScalarOf.X, spec_inRange.ok, spec_scalar.ok]) fun v _ => ⟨0, by
  rw [spec_ScalarOf.e]
  unfold scalL numB
  cases (decide (-1000000 ≤ v) && decide (v ≤ 1000000)) <;> rfl⟩

namespace impl_isNumber
def E : Entry := ⟨31, true, false, fun | [.d (.int .i64 v)] => true | _ => false, fun | [.d (.int .i64 v)] => ([.one ((.bool (numB v)), false)], []) | _ => ([], [])⟩
end impl_isNumber
namespace impl_isNumber
noncomputable def X : List Entry := []
def A : Ann := ⟨[], []⟩
theorem e (fuel : Nat) (p0 : Int) : runF Try.prog X A fuel Try.f31 [.d (.int .i64 p0)] =
(bif (decide (((-1000000) : Int) ≤ p0)) then
some ([.one ((.bool (decide ((p0 : Int) ≤ 1000000))), false)], [])
else
some ([.one ((.bool false), false)], [])) := by kernel_rfl
end impl_isNumber
theorem impl_isNumber.ok_of (hX : ∀ E ∈ impl_isNumber.X, CallSpec Try.prog E) (h : ∀ (v : Int), (true) = true → ∃ fuel, runF Try.prog impl_isNumber.X impl_isNumber.A fuel Try.f31 [.d (.int .i64 v)] = some ([.one ((.bool (numB v)), false)], [])) : CallSpec Try.prog impl_isNumber.E :=
  callSpec_of hX (by kernel_rfl) (by kernel_rfl) (by kernel_rfl) (by kernel_rfl) (fun xs hp => by
    dsimp only [impl_isNumber.E] at hp ⊢
    split at hp
    · exact h _ hp
    · cases hp)
theorem impl_isNumber.ok : CallSpec Try.prog impl_isNumber.E := impl_isNumber.ok_of (by simp [impl_isNumber.X]) fun v _ => ⟨0, by
  rw [impl_isNumber.e]
  unfold numB
  cases decide (-1000000 ≤ v) <;> rfl⟩

namespace impl_ScalarOf
def E : Entry := ⟨10, false, false, fun | [.d (.int .i64 v)] => true | _ => false, fun | [.d (.int .i64 v)] => ([.agg [((.ints .i64 nilI), true), ((.ints .i64 (scalL v)), true)]], []) | _ => ([], [])⟩
end impl_ScalarOf
namespace impl_ScalarOf
noncomputable def X : List Entry := [impl_isNumber.E]
def A : Ann := ⟨[], []⟩
theorem e (fuel : Nat) (p0 : Int) : runF Try.prog X A fuel Try.f10 [.d (.int .i64 p0)] =
(bif (!(numB p0)) then
some ([.agg [((.ints .i64 []), true), ((.ints .i64 []), true)]], [])
else
some ([.agg [((.ints .i64 []), true), ((.ints .i64 [p0]), true)]], [])) := by kernel_rfl
end impl_ScalarOf
theorem impl_ScalarOf.ok_of (hX : ∀ E ∈ impl_ScalarOf.X, CallSpec Try.prog E) (h : ∀ (v : Int), (true) = true → ∃ fuel, runF Try.prog impl_ScalarOf.X impl_ScalarOf.A fuel Try.f10 [.d (.int .i64 v)] = some ([.agg [((.ints .i64 nilI), true), ((.ints .i64 (scalL v)), true)]], [])) : CallSpec Try.prog impl_ScalarOf.E :=
  callSpec_of hX (by kernel_rfl) (by kernel_rfl) (by kernel_rfl) (by kernel_rfl) (fun xs hp => by
    dsimp only [impl_ScalarOf.E] at hp ⊢
    split at hp
    · exact h _ hp
    · cases hp)
theorem impl_ScalarOf.ok : CallSpec Try.prog impl_ScalarOf.E := impl_ScalarOf.ok_of (by simp [impl_ScalarOf.X, impl_isNumber.ok]) fun v _ => ⟨0, by
  rw [impl_ScalarOf.e]
  unfold scalL
  cases numB v <;> rfl⟩

namespace laws_eqIntS
def E : Entry := ⟨19, true, false, fun | [.d (.ints .i64 xs), .d (.ints .i64 ys)] => decide (xs.length < 9223372036854775807) && decide (ys.length < 9223372036854775807) | _ => false, fun | [.d (.ints .i64 xs), .d (.ints .i64 ys)] => ([.one ((.bool (decide (xs = ys))), false)], []) | _ => ([], [])⟩
end laws_eqIntS
namespace laws_eqIntS
noncomputable def X : List Entry := []
def A : Ann := ⟨[], [(1000004, [2, 3, 4, 6, 7, 8, 9, 10, 11, 12, 13, 14, 15, 16, 17, 18, 19, 20, 21, 22, 23, 24, 25])]⟩
noncomputable abbrev L0 (fuel n : Nat) (s : St) (k : Kont) := lAt Try.prog X A fuel (bodyOf Try.f19) [1, 1, 0, 1, 0] n s k
noncomputable abbrev k0  (fuel : Nat) : Kont := kAt Try.prog X A fuel (bodyOf Try.f19) [1, 1, 0, 1, 0] [] (endK Try.prog Try.f19)
def t0 (p0 : List Int) (p1 : List Int) (x0_2 : Int) : St := ⟨[(.imm (.ints .i64 p0)), (.imm (.ints .i64 p1)), .dead, .dead, .dead, (.imm (.int .i64 x0_2)), .dead, .dead, .dead, .dead, .dead, .dead, .dead, .dead, .dead, .dead, .dead, .dead, .dead, .dead, .dead, .dead, .dead, .dead, .dead, .dead], hOf [], []⟩
theorem e (fuel : Nat) (p0 : List Int) (p1 : List Int) : runF Try.prog X A fuel Try.f19 [.d (.ints .i64 p0), .d (.ints .i64 p1)] =
(bif ((((p0.length : Nat) : Int) : Int) != ((p1.length : Nat) : Int)) then
some ([.one ((.bool false), false)], [])
else
L0 fuel fuel (t0 p0 p1 0) (k0  fuel)) := by kernel_rfl
theorem s0 (fuel n0 : Nat) (p0 : List Int) (p1 : List Int) (x0_2 : Int) : L0 fuel (n0 + 1) (t0 p0 p1 x0_2) (k0  fuel) =
(bif (decide ((x0_2 : Int) < ((p0.length : Nat) : Int))) then
(idx x0_2 p0.length).bind fun k9 =>
(p0[k9]?).bind fun v10 =>
(idx x0_2 p1.length).bind fun k11 =>
(p1[k11]?).bind fun v12 =>
(bif ((v10 : Int) != v12) then
some ([.one ((.bool false), false)], [])
else
L0 fuel n0 (t0 p0 p1 ((IntKind.wrap .i64 (x0_2 + 1)))) (k0  fuel))
else
some ([.one ((.bool true), false)], [])) := by kernel_rfl
end laws_eqIntS
theorem laws_eqIntS.ok_of (hX : ∀ E ∈ laws_eqIntS.X, CallSpec Try.prog E) (h : ∀ (xs : List Int) (ys : List Int), (decide (xs.length < 9223372036854775807) && decide (ys.length < 9223372036854775807)) = true → ∃ fuel, runF Try.prog laws_eqIntS.X laws_eqIntS.A fuel Try.f19 [.d (.ints .i64 xs), .d (.ints .i64 ys)] = some ([.one ((.bool (decide (xs = ys))), false)], [])) : CallSpec Try.prog laws_eqIntS.E :=
  callSpec_of hX (by kernel_rfl) (by kernel_rfl) (by kernel_rfl) (by kernel_rfl) (fun xs hp => by
    dsimp only [laws_eqIntS.E] at hp ⊢
    split at hp
    · exact h _ _ hp
    · cases hp)
theorem laws_eqIntS.loop (fuel : Nat) (xs ys : List Int) (hl : xs.length = ys.length) (hx : xs.length < 9223372036854775807) : ∀ (m n j : Nat), xs.length - j = m → m < n → j ≤ xs.length →
    laws_eqIntS.L0 fuel n (laws_eqIntS.t0 xs ys (j : Int)) (laws_eqIntS.k0 fuel) = some ([.one (.bool (decide (xs.drop j = ys.drop j)), false)], []) := by
  intro m
  induction m with
  | zero =>
    intro n j h1 h2 h3
    obtain ⟨n, rfl⟩ : ∃ n', n = n' + 1 := ⟨n - 1, by omega⟩
    have hj : ¬ j < xs.length := by omega
    rw [laws_eqIntS.s0, dge hj, dropE hj, dropE (xs := ys) (by omega)]
    rfl
  | succ m ih =>
    intro n j h1 h2 h3
    obtain ⟨n, rfl⟩ : ∃ n', n = n' + 1 := ⟨n - 1, by omega⟩
    have hj : j < xs.length := by omega
    have hj2 : j < ys.length := by omega
    rw [laws_eqIntS.s0, dlt hj, idx_nat hj, idx_nat hj2, w1 (by omega), dropS hj, dropS hj2]
    simp only [cond_true, Option.bind_some, getS hj, getS hj2]
    rw [ih n (j + 1) (by omega) (by omega) (by omega)]
    by_cases hv : xs[j] = ys[j]
    · rw [hv]
      simp only [bne_self_eq_false, cond_false, List.cons.injEq, true_and]
    · have : (xs[j] != ys[j]) = true := by simp [hv]
      rw [this]
      simp only [cond_true, List.cons.injEq, hv, false_and, decide_false]

theorem laws_eqIntS.ok : CallSpec Try.prog laws_eqIntS.E := laws_eqIntS.ok_of (by simp [laws_eqIntS.X]) fun xs ys h => by
  simp only [Bool.and_eq_true, decide_eq_true_eq] at h
  refine ⟨xs.length + 1, ?_⟩
  rw [laws_eqIntS.e]
  by_cases hl : xs.length = ys.length
  · have := laws_eqIntS.loop (xs.length + 1) xs ys hl h.1 xs.length (xs.length + 1) 0 (by omega) (by omega) (by omega)
    simp only [List.drop_zero] at this
    simp only [hl, bne_self_eq_false, cond_false]
    rw [← hl]
    exact this
  · have hne : xs ≠ ys := fun e => hl (e ▸ rfl)
    have : (((xs.length : Nat) : Int) != ((ys.length : Nat) : Int)) = true := by simp; omega
    rw [this]
    simp [hne]

namespace laws_eqArray
def E : Entry := ⟨11, true, false, fun | [.d (.agg [(.ints .i64 sa), (.ints .i64 da)]), .d (.agg [(.ints .i64 sb), (.ints .i64 db)])] => decide (sa.length < 9223372036854775807) && decide (da.length < 9223372036854775807) && decide (sb.length < 9223372036854775807) && decide (db.length < 9223372036854775807) | _ => false, fun | [.d (.agg [(.ints .i64 sa), (.ints .i64 da)]), .d (.agg [(.ints .i64 sb), (.ints .i64 db)])] => ([.one ((.bool (decide (sa = sb) && decide (da = db))), false)], []) | _ => ([], [])⟩
end laws_eqArray
namespace laws_eqArray
noncomputable def X : List Entry := [laws_eqIntS.E]
def A : Ann := ⟨[], []⟩
theorem e (fuel : Nat) (p0_0 : List Int) (p0_1 : List Int) (p1_0 : List Int) (p1_1 : List Int) : runF Try.prog X A fuel Try.f11 [.d (.agg [(.ints .i64 p0_0), (.ints .i64 p0_1)]), .d (.agg [(.ints .i64 p1_0), (.ints .i64 p1_1)])] =
(bif decide (p0_0.length < 9223372036854775807) && decide (p1_0.length < 9223372036854775807) then
(bif (!(decide (p0_0 = p1_0))) then
some ([.one ((.bool false), false)], [])
else
(bif decide (p0_1.length < 9223372036854775807) && decide (p1_1.length < 9223372036854775807) then
(bif (!(decide (p0_1 = p1_1))) then
some ([.one ((.bool false), false)], [])
else
some ([.one ((.bool true), false)], []))
else
none))
else
none) := by kernel_rfl
end laws_eqArray
theorem laws_eqArray.ok_of (hX : ∀ E ∈ laws_eqArray.X, CallSpec Try.prog E) (h : ∀ (sa : List Int) (da : List Int) (sb : List Int) (db : List Int), (decide (sa.length < 9223372036854775807) && decide (da.length < 9223372036854775807) && decide (sb.length < 9223372036854775807) && decide (db.length < 9223372036854775807)) = true → ∃ fuel, runF Try.prog laws_eqArray.X laws_eqArray.A fuel Try.f11 [.d (.agg [(.ints .i64 sa), (.ints .i64 da)]), .d (.agg [(.ints .i64 sb), (.ints .i64 db)])] = some ([.one ((.bool (decide (sa = sb) && decide (da = db))), false)], [])) : CallSpec Try.prog laws_eqArray.E :=
  callSpec_of hX (by kernel_rfl) (by kernel_rfl) (by kernel_rfl) (by kernel_rfl) (fun xs hp => by
    dsimp only [laws_eqArray.E] at hp ⊢
    split at hp
    · exact h _ _ _ _ hp
    · cases hp)
theorem laws_eqArray.ok : CallSpec Try.prog laws_eqArray.E := laws_eqArray.ok_of (by simp [laws_eqArray.X, laws_eqIntS.ok]) fun sa da sb db h => ⟨0, by
  simp only [Bool.and_eq_true, decide_eq_true_eq] at h
  obtain ⟨⟨⟨h1, h2⟩, h3⟩, h4⟩ := h
  rw [laws_eqArray.e]
  simp only [h1, h2, h3, h4, decide_true, Bool.and_self, cond_true]
  cases decide (sa = sb) <;> cases decide (da = db) <;> rfl⟩

namespace laws_markIntS
def E : Entry := ⟨20, false, true, fun | [.rows true [(.i64, xs)], .d (.int .i64 k)] => decide (xs.length < 9223372036854775807) | _ => false, fun | [.rows true [(.i64, xs)], .d (.int .i64 k)] => ([.one ((.int .i64 (markK xs k)), false)], [[(.ints .i64 (markL xs k))]]) | _ => ([], [])⟩
end laws_markIntS
namespace laws_markIntS
noncomputable def X : List Entry := []
def A : Ann := ⟨[], [(1000002, [2, 3, 4, 6, 7, 8, 9, 10, 11, 12, 13, 14, 15, 16, 17, 18])]⟩
noncomputable abbrev L0 (fuel n : Nat) (s : St) (k : Kont) := lAt Try.prog X A fuel (bodyOf Try.f20) [1, 0, 1, 0] n s k
noncomputable abbrev k0  (fuel : Nat) : Kont := kAt Try.prog X A fuel (bodyOf Try.f20) [1, 0, 1, 0] [] (endK Try.prog Try.f20)
def t0 (x0_0 : Int) (x0_1 : Int) (x0_2 : List Int) : St := ⟨[(.all 1000000000 1), (.imm (.int .i64 x0_0)), .dead, .dead, .dead, (.imm (.int .i64 x0_1)), .dead, .dead, .dead, .dead, .dead, .dead, .dead, .dead, .dead, .dead, .dead, .dead, .dead], hOf [(1000000000, (.ints .i64 x0_2))], [(.all 1000000000 1)]⟩
theorem e (fuel : Nat) (p0 : List Int) (p1 : Int) : runF Try.prog X A fuel Try.f20 [.rows true [(.i64, p0)], .d (.int .i64 p1)] =
L0 fuel fuel (t0 p1 0 p0) (k0  fuel) := by kernel_rfl
theorem s0 (fuel n0 : Nat) (x0_0 : Int) (x0_1 : Int) (x0_2 : List Int) : L0 fuel (n0 + 1) (t0 x0_0 x0_1 x0_2) (k0  fuel) =
(bif (decide ((x0_1 : Int) < ((x0_2.length : Nat) : Int))) then
(idx x0_1 x0_2.length).bind fun k3 =>
(bif decide (k3 < x0_2.length) then
L0 fuel n0 (t0 ((IntKind.wrap .i64 (x0_0 + 1))) ((IntKind.wrap .i64 (x0_1 + 1))) ((x0_2.set k3 x0_0))) (k0  fuel)
else
none)
else
some ([.one ((.int .i64 x0_0), false)], [[(.ints .i64 x0_2)]])) := by kernel_rfl
end laws_markIntS
theorem laws_markIntS.ok_of (hX : ∀ E ∈ laws_markIntS.X, CallSpec Try.prog E) (h : ∀ (xs : List Int) (k : Int), (decide (xs.length < 9223372036854775807)) = true → ∃ fuel, runF Try.prog laws_markIntS.X laws_markIntS.A fuel Try.f20 [.rows true [(.i64, xs)], .d (.int .i64 k)] = some ([.one ((.int .i64 (markK xs k)), false)], [[(.ints .i64 (markL xs k))]])) : CallSpec Try.prog laws_markIntS.E :=
  callSpec_of hX (by kernel_rfl) (by kernel_rfl) (by kernel_rfl) (by kernel_rfl) (fun xs hp => by
    dsimp only [laws_markIntS.E] at hp ⊢
    split at hp
    · exact h _ _ hp
    · cases hp)
theorem laws_markIntS.loop (fuel : Nat) : ∀ (m n j : Nat) (k : Int) (xs : List Int), xs.length < 9223372036854775807 → xs.length - j = m → m < n → j ≤ xs.length →
    laws_markIntS.L0 fuel n (laws_markIntS.t0 k (j : Int) xs) (laws_markIntS.k0 fuel) = some ([.one (.int .i64 (markK (xs.drop j) k), false)], [[.ints .i64 (xs.take j ++ markL (xs.drop j) k)]]) := by
  intro m
  induction m with
  | zero =>
    intro n j k xs hx h1 h2 h3
    obtain ⟨n, rfl⟩ : ∃ n', n = n' + 1 := ⟨n - 1, by omega⟩
    have hj : ¬ j < xs.length := by omega
    have : xs.take j = xs := List.take_of_length_le (by omega)
    rw [laws_markIntS.s0, dge hj, dropE hj, this]
    simp [markL, markK]
  | succ m ih =>
    intro n j k xs hx h1 h2 h3
    obtain ⟨n, rfl⟩ : ∃ n', n = n' + 1 := ⟨n - 1, by omega⟩
    have hj : j < xs.length := by omega
    rw [laws_markIntS.s0, dlt hj, idx_nat hj, w1 (by omega), dropS hj]
    simp only [cond_true, Option.bind_some, hj, decide_true]
    rw [ih n (j + 1) _ (xs.set j k) (by simpa using hx) (by simp; omega) (by omega) (by simp; omega)]
    have e1 : (xs.set j k).drop (j + 1) = xs.drop (j + 1) := by simp [List.drop_set]
    have e2 : (xs.set j k).take (j + 1) = xs.take j ++ [k] := by
      rw [List.take_add_one]
      simp [List.take_set, hj]
      exact List.set_eq_of_length_le (by simp; omega)
    rw [e1, e2]
    simp [markL, markK]

theorem laws_markIntS.ok : CallSpec Try.prog laws_markIntS.E := laws_markIntS.ok_of (by simp [laws_markIntS.X]) fun xs k h => by
  simp only [decide_eq_true_eq] at h
  refine ⟨xs.length + 1, ?_⟩
  rw [laws_markIntS.e]
  have := laws_markIntS.loop (xs.length + 1) xs.length (xs.length + 1) 0 k xs h (by omega) (by omega) (by omega)
  simpa using this

namespace laws_markArray
def E : Entry := ⟨12, false, true, fun | [.rows false [(.i64, sh), (.i64, da)], .d (.int .i64 k)] => decide (sh.length < 9223372036854775807) && decide (da.length < 9223372036854775807) | _ => false, fun | [.rows false [(.i64, sh), (.i64, da)], .d (.int .i64 k)] => ([.one ((.int .i64 (markK da (markK sh k))), false)], [[(.ints .i64 (markL sh k))], [(.ints .i64 (markL da (markK sh k)))]]) | _ => ([], [])⟩
end laws_markArray
namespace laws_markArray
noncomputable def X : List Entry := [laws_markIntS.E]
def A : Ann := ⟨[], []⟩
theorem e (fuel : Nat) (p0_0 : List Int) (p0_1 : List Int) (p1 : Int) : runF Try.prog X A fuel Try.f12 [.rows false [(.i64, p0_0), (.i64, p0_1)], .d (.int .i64 p1)] =
(bif decide (p0_0.length < 9223372036854775807) then
(bif decide (p0_1.length < 9223372036854775807) then
some ([.one ((.int .i64 (markK p0_1 ((markK p0_0 p1)))), false)], [[(.ints .i64 (markL p0_0 p1))], [(.ints .i64 (markL p0_1 ((markK p0_0 p1))))]])
else
none)
else
none) := by kernel_rfl
end laws_markArray
theorem laws_markArray.ok_of (hX : ∀ E ∈ laws_markArray.X, CallSpec Try.prog E) (h : ∀ (sh : List Int) (da : List Int) (k : Int), (decide (sh.length < 9223372036854775807) && decide (da.length < 9223372036854775807)) = true → ∃ fuel, runF Try.prog laws_markArray.X laws_markArray.A fuel Try.f12 [.rows false [(.i64, sh), (.i64, da)], .d (.int .i64 k)] = some ([.one ((.int .i64 (markK da (markK sh k))), false)], [[(.ints .i64 (markL sh k))], [(.ints .i64 (markL da (markK sh k)))]])) : CallSpec Try.prog laws_markArray.E :=
  callSpec_of hX (by kernel_rfl) (by kernel_rfl) (by kernel_rfl) (by kernel_rfl) (fun xs hp => by
    dsimp only [laws_markArray.E] at hp ⊢
    split at hp
    · exact h _ _ _ hp
    · cases hp)
theorem laws_markArray.ok : CallSpec Try.prog laws_markArray.E := laws_markArray.ok_of (by simp [laws_markArray.X, laws_markIntS.ok]) fun sh da k h => ⟨0, by
  simp only [Bool.and_eq_true, decide_eq_true_eq] at h
  rw [laws_markArray.e]
  simp only [h.1, h.2, decide_true, cond_true]⟩

namespace laws_heldIntS
def E : Entry := ⟨32, true, false, fun | [.d (.ints .i64 xs), .d (.int .i64 k)] => decide (xs.length < 9223372036854775807) | _ => false, fun | [.d (.ints .i64 xs), .d (.int .i64 k)] => ([.one ((.int .i64 (heldL xs k)), false)], []) | _ => ([], [])⟩
end laws_heldIntS
namespace laws_heldIntS
noncomputable def X : List Entry := []
def A : Ann := ⟨[], [(1000002, [2, 3, 4, 6, 7, 8, 9, 10, 11, 12, 13, 14, 15, 16, 17, 18, 19, 20])]⟩
noncomputable abbrev L0 (fuel n : Nat) (s : St) (k : Kont) := lAt Try.prog X A fuel (bodyOf Try.f32) [1, 0, 1, 0] n s k
noncomputable abbrev k0  (fuel : Nat) : Kont := kAt Try.prog X A fuel (bodyOf Try.f32) [1, 0, 1, 0] [] (endK Try.prog Try.f32)
def t0 (p0 : List Int) (x0_1 : Int) (x0_2 : Int) : St := ⟨[(.imm (.ints .i64 p0)), (.imm (.int .i64 x0_1)), .dead, .dead, .dead, (.imm (.int .i64 x0_2)), .dead, .dead, .dead, .dead, .dead, .dead, .dead, .dead, .dead, .dead, .dead, .dead, .dead, .dead, .dead], hOf [], []⟩
theorem e (fuel : Nat) (p0 : List Int) (p1 : Int) : runF Try.prog X A fuel Try.f32 [.d (.ints .i64 p0), .d (.int .i64 p1)] =
L0 fuel fuel (t0 p0 p1 0) (k0  fuel) := by kernel_rfl
theorem s0 (fuel n0 : Nat) (p0 : List Int) (x0_1 : Int) (x0_2 : Int) : L0 fuel (n0 + 1) (t0 p0 x0_1 x0_2) (k0  fuel) =
(bif (decide ((x0_2 : Int) < ((p0.length : Nat) : Int))) then
(idx x0_2 p0.length).bind fun k5 =>
(p0[k5]?).bind fun v6 =>
(bif ((v6 : Int) != x0_1) then
some ([.one ((.int .i64 (-1)), false)], [])
else
L0 fuel n0 (t0 p0 ((IntKind.wrap .i64 (x0_1 + 1))) ((IntKind.wrap .i64 (x0_2 + 1)))) (k0  fuel))
else
some ([.one ((.int .i64 x0_1), false)], [])) := by kernel_rfl
end laws_heldIntS
theorem laws_heldIntS.ok_of (hX : ∀ E ∈ laws_heldIntS.X, CallSpec Try.prog E) (h : ∀ (xs : List Int) (k : Int), (decide (xs.length < 9223372036854775807)) = true → ∃ fuel, runF Try.prog laws_heldIntS.X laws_heldIntS.A fuel Try.f32 [.d (.ints .i64 xs), .d (.int .i64 k)] = some ([.one ((.int .i64 (heldL xs k)), false)], [])) : CallSpec Try.prog laws_heldIntS.E :=
  callSpec_of hX (by kernel_rfl) (by kernel_rfl) (by kernel_rfl) (by kernel_rfl) (fun xs hp => by
    dsimp only [laws_heldIntS.E] at hp ⊢
    split at hp
    · exact h _ _ hp
    · cases hp)
theorem laws_heldIntS.loop (fuel : Nat) (xs : List Int) (hx : xs.length < 9223372036854775807) : ∀ (m n j : Nat) (k : Int), xs.length - j = m → m < n → j ≤ xs.length →
    laws_heldIntS.L0 fuel n (laws_heldIntS.t0 xs k (j : Int)) (laws_heldIntS.k0 fuel) = some ([.one (.int .i64 (heldL (xs.drop j) k), false)], []) := by
  intro m
  induction m with
  | zero =>
    intro n j k h1 h2 h3
    obtain ⟨n, rfl⟩ : ∃ n', n = n' + 1 := ⟨n - 1, by omega⟩
    have hj : ¬ j < xs.length := by omega
    rw [laws_heldIntS.s0, dge hj, dropE hj]
    rfl
  | succ m ih =>
    intro n j k h1 h2 h3
    obtain ⟨n, rfl⟩ : ∃ n', n = n' + 1 := ⟨n - 1, by omega⟩
    have hj : j < xs.length := by omega
    rw [laws_heldIntS.s0, dlt hj, idx_nat hj, w1 (by omega), dropS hj]
    simp only [cond_true, Option.bind_some, getS hj, heldL]
    rw [ih n (j + 1) _ (by omega) (by omega) (by omega)]
    cases (xs[j] != k) <;> rfl

theorem laws_heldIntS.ok : CallSpec Try.prog laws_heldIntS.E := laws_heldIntS.ok_of (by simp [laws_heldIntS.X]) fun xs k h => by
  simp only [decide_eq_true_eq] at h
  refine ⟨xs.length + 1, ?_⟩
  rw [laws_heldIntS.e]
  exact laws_heldIntS.loop (xs.length + 1) xs h xs.length (xs.length + 1) 0 k (by omega) (by omega) (by omega)

namespace laws_heldArray
def E : Entry := ⟨13, true, false, fun | [.d (.agg [(.ints .i64 sh), (.ints .i64 da)]), .d (.int .i64 k)] => decide (sh.length < 9223372036854775807) && decide (da.length < 9223372036854775807) | _ => false, fun | [.d (.agg [(.ints .i64 sh), (.ints .i64 da)]), .d (.int .i64 k)] => ([.one ((.int .i64 (heldA sh da k)), false)], []) | _ => ([], [])⟩
end laws_heldArray
namespace laws_heldArray
noncomputable def X : List Entry := [laws_heldIntS.E]
def A : Ann := ⟨[], []⟩
theorem e (fuel : Nat) (p0_0 : List Int) (p0_1 : List Int) (p1 : Int) : runF Try.prog X A fuel Try.f13 [.d (.agg [(.ints .i64 p0_0), (.ints .i64 p0_1)]), .d (.int .i64 p1)] =
(bif decide (p0_0.length < 9223372036854775807) then
(bif (decide (((heldL p0_0 p1) : Int) < 0)) then
some ([.one ((.int .i64 (-1)), false)], [])
else
(bif decide (p0_1.length < 9223372036854775807) then
(bif (decide (((heldL p0_1 ((heldL p0_0 p1))) : Int) < 0)) then
some ([.one ((.int .i64 (-1)), false)], [])
else
some ([.one ((.int .i64 (heldL p0_1 ((heldL p0_0 p1)))), false)], []))
else
none))
else
none) := by kernel_rfl
end laws_heldArray
theorem laws_heldArray.ok_of (hX : ∀ E ∈ laws_heldArray.X, CallSpec Try.prog E) (h : ∀ (sh : List Int) (da : List Int) (k : Int), (decide (sh.length < 9223372036854775807) && decide (da.length < 9223372036854775807)) = true → ∃ fuel, runF Try.prog laws_heldArray.X laws_heldArray.A fuel Try.f13 [.d (.agg [(.ints .i64 sh), (.ints .i64 da)]), .d (.int .i64 k)] = some ([.one ((.int .i64 (heldA sh da k)), false)], [])) : CallSpec Try.prog laws_heldArray.E :=
  callSpec_of hX (by kernel_rfl) (by kernel_rfl) (by kernel_rfl) (by kernel_rfl) (fun xs hp => by
    dsimp only [laws_heldArray.E] at hp ⊢
    split at hp
    · exact h _ _ _ hp
    · cases hp)
theorem laws_heldArray.ok : CallSpec Try.prog laws_heldArray.E := laws_heldArray.ok_of (by simp [laws_heldArray.X, laws_heldIntS.ok]) fun sh da k h => ⟨0, by
  simp only [Bool.and_eq_true, decide_eq_true_eq] at h
  rw [laws_heldArray.e]
  unfold heldA
  simp only [h.1, h.2, decide_true, cond_true]
  cases decide (heldL sh k < 0) <;> cases decide (heldL da (heldL sh k) < 0) <;> rfl⟩

namespace laws_FnExactScalarOf
def E : Entry := ⟨3, true, false, fun | [.d (.int .i64 v)] => true | _ => false, fun | [.d (.int .i64 v)] => ([.one ((.bool true), false)], []) | _ => ([], [])⟩
end laws_FnExactScalarOf
namespace laws_FnExactScalarOf
noncomputable def X : List Entry := [spec_ScalarOf.E, impl_ScalarOf.E, laws_eqArray.E, laws_markArray.E, laws_heldArray.E]
def A : Ann := ⟨[9, 11, 28], []⟩
theorem e (fuel : Nat) (p0 : Int) : runF Try.prog X A fuel Try.f3 [.d (.int .i64 p0)] =
(bif decide (nilI.length < 9223372036854775807) && decide (((scalL p0)).length < 9223372036854775807) && decide (nilI.length < 9223372036854775807) && decide (((scalL p0)).length < 9223372036854775807) then
(bif (!(decide (nilI = nilI) && decide (((scalL p0)) = ((scalL p0))))) then
some ([.one ((.bool false), false)], [])
else
(bif decide (nilI.length < 9223372036854775807) && decide (((scalL p0)).length < 9223372036854775807) then
(bif decide (((markL nilI 1)).length < 9223372036854775807) && decide (((markL ((scalL p0)) (markK nilI 1))).length < 9223372036854775807) then
(bif (decide (((heldA ((markL nilI 1)) ((markL ((scalL p0)) (markK nilI 1))) 1) : Int) < 0)) then
some ([.one ((.bool false), false)], [])
else
(bif (((heldA ((markL nilI 1)) ((markL ((scalL p0)) (markK nilI 1))) 1) : Int) != (markK ((scalL p0)) (markK nilI 1))) then
some ([.one ((.bool false), false)], [])
else
(bif decide (nilI.length < 9223372036854775807) && decide (((scalL p0)).length < 9223372036854775807) && decide (nilI.length < 9223372036854775807) && decide (((scalL p0)).length < 9223372036854775807) then
(bif (!(decide (nilI = nilI) && decide (((scalL p0)) = ((scalL p0))))) then
some ([.one ((.bool false), false)], [])
else
(bif decide (((markL nilI 1)).length < 9223372036854775807) && decide (((markL ((scalL p0)) (markK nilI 1))).length < 9223372036854775807) then
(bif (decide (((heldA ((markL nilI 1)) ((markL ((scalL p0)) (markK nilI 1))) 1) : Int) < 0)) then
some ([.one ((.bool false), false)], [])
else
(bif (((heldA ((markL nilI 1)) ((markL ((scalL p0)) (markK nilI 1))) 1) : Int) != (markK ((scalL p0)) (markK nilI 1))) then
some ([.one ((.bool false), false)], [])
else
some ([.one ((.bool true), false)], [])))
else
none))
else
none)))
else
none)
else
none))
else
none) := by kernel_rfl
end laws_FnExactScalarOf
theorem laws_FnExactScalarOf.ok_of (hX : ∀ E ∈ laws_FnExactScalarOf.X, CallSpec Try.prog E) (h : ∀ (v : Int), (true) = true → ∃ fuel, runF Try.prog laws_FnExactScalarOf.X laws_FnExactScalarOf.A fuel Try.f3 [.d (.int .i64 v)] = some ([.one ((.bool true), false)], [])) : CallSpec Try.prog laws_FnExactScalarOf.E :=
  callSpec_of hX (by kernel_rfl) (by kernel_rfl) (by kernel_rfl) (by kernel_rfl) (fun xs hp => by
    dsimp only [laws_FnExactScalarOf.E] at hp ⊢
    split at hp
    · exact h _ hp
    · cases hp)
theorem laws_FnExactScalarOf.ok : CallSpec Try.prog laws_FnExactScalarOf.E := laws_FnExactScalarOf.ok_of (by simp [laws_FnExactScalarOf.X, spec_ScalarOf.ok, impl_ScalarOf.ok, laws_eqArray.ok, laws_markArray.ok, laws_heldArray.ok]) fun v _ => ⟨0, by
  rw [laws_FnExactScalarOf.e]
  unfold scalL
  have hw : IntKind.i64.wrap 2 = 2 := by decide
  cases numB v <;> simp [nilI, markL, markK, heldA, heldL, hw]⟩

end Go.Ab
