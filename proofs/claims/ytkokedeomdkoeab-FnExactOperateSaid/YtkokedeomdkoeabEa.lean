import Derived.Test.YtkokedeomdkoeabAbLaw
import Derived.Test.YtkokedeomdkoeabProg
import Derived.Test.YtkokedeomdkoeabChecked
open Go Go.Ab Go.Proofs
set_option maxRecDepth 100000
set_option linter.unusedVariables false
set_option linter.unusedSimpArgs false
namespace Go.Ab
/-- What is left of a mark: k, k + 1, and so on. -/
def markL : List Int → Int → List Int
  | [], _ => []
  | _ :: xs, k => k :: markL xs (IntKind.wrap .i64 (k + 1))
def markK : List Int → Int → Int
  | [], k => k
  | _ :: xs, k => markK xs (IntKind.wrap .i64 (k + 1))
def heldL : List Int → Int → Int
  | [], k => k
  | x :: xs, k => bif x != k then -1 else heldL xs (IntKind.wrap .i64 (k + 1))
def heldA (sh da : List Int) (k : Int) : Int := bif decide (heldL sh k < 0) then -1 else bif decide (heldL da (heldL sh k) < 0) then -1 else heldL da (heldL sh k)
def numB (v : Int) : Bool := decide (-1000000 ≤ v) && decide (v ≤ 1000000)
def scalL (v : Int) : List Int := bif numB v then [v] else []
abbrev nilI : List Int := []

theorem idx_nat {j n : Nat} (h : j < n) : idx (j : Int) n = some j := by simp [idx, h]
theorem w1 {j : Nat} (h : j < 9223372036854775807) : IntKind.wrap .i64 ((j : Int) + 1) = ((j + 1 : Nat) : Int) := by rw [IntKind.wrap_i64]; omega
theorem dlt {j n : Nat} (h : j < n) : decide ((j : Int) < ((n : Nat) : Int)) = true := by simp [h]
theorem dge {j n : Nat} (h : ¬ j < n) : decide ((j : Int) < ((n : Nat) : Int)) = false := by simp; omega
theorem getS {xs : List Int} {j : Nat} (h : j < xs.length) : xs[j]? = some xs[j] := List.getElem?_eq_getElem h
theorem dropS {xs : List Int} {j : Nat} (h : j < xs.length) : xs.drop j = xs[j] :: xs.drop (j + 1) := List.drop_eq_getElem_cons h
theorem dropE {xs : List Int} {j : Nat} (h : ¬ j < xs.length) : xs.drop j = [] := List.drop_eq_nil_of_le (by omega)
theorem markL_length (xs : List Int) (k : Int) : (markL xs k).length = xs.length := by
  induction xs generalizing k with
  | nil => rfl
  | cons x xs ih => simp [markL, ih]
end Go.Ab
namespace Go.Ab
def szB (xs : List Int) : Bool := decide (xs.length ≤ 1099511627776)
def szI (xs : List Int) (left : Int) : Int := bif decide (IntKind.wrap .i64 (left - ((xs.length : Nat) : Int)) < 0) then -1 else IntKind.wrap .i64 (left - ((xs.length : Nat) : Int))
def szA (sh da : List Int) (left : Int) : Int := bif decide (szI sh left < 0) then -1 else bif decide (szI da (szI sh left) < 0) then -1 else szI da (szI sh left)
def allB (xs : List Int) (lo hi : Int) : Bool := xs.all fun v => decide (lo ≤ v) && decide (v ≤ hi)
def volFrom : List Int → Int → Int
  | [], n => n
  | x :: xs, n => volFrom xs (IntKind.wrap .i64 (n * x))
def volW (xs : List Int) : Int := volFrom xs 1
def validS (sh : List Int) : Bool := decide (((sh.length : Nat) : Int) ≤ 3) && allB sh 0 60 && decide (volW sh ≤ 60)
def validA (sh da : List Int) : Bool := validS sh && (((da.length : Nat) : Int) == volW sh) && allB da (-1000000) 1000000
def rankV (sh da : List Int) : Int := bif validA sh da then ((sh.length : Nat) : Int) else -1
def sizeV (sh da : List Int) : Int := bif validA sh da then ((da.length : Nat) : Int) else -1
def strd (sh : List Int) (k : Nat) : Int := bif decide (k < sh.length) then volW (sh.drop (k + 1)) else 0
def cntOk (n : Int) : Bool := decide (0 ≤ n) && decide (n ≤ 60)
def cntS (n : Int) : List Int := bif cntOk n then [n] else []
def cntD (n : Int) : List Int := bif cntOk n then (List.range n.toNat).map Int.ofNat else []
def vecOk (xs : List Int) : Bool := decide (xs.length ≤ 60) && allB xs (-1000000) 1000000
def vecS (xs : List Int) : List Int := bif vecOk xs then [((xs.length : Nat) : Int)] else []
def vecD (xs : List Int) : List Int := bif vecOk xs then xs else []

theorem szB_lt {xs : List Int} (h : szB xs = true) : xs.length < 9223372036854775808 := by
  have := of_decide_eq_true h; omega
theorem szB_le {xs : List Int} (h : szB xs = true) : xs.length ≤ 1099511627776 := of_decide_eq_true h
theorem szB_of {xs : List Int} (h : xs.length ≤ 1099511627776) : szB xs = true := decide_eq_true h
theorem lt_of {xs : List Int} (h : xs.length < 9223372036854775808) : decide (xs.length < 9223372036854775808) = true := decide_eq_true h
theorem wS {x : Int} (h1 : -9223372036854775808 ≤ x) (h2 : x ≤ 9223372036854775807) : IntKind.wrap .i64 x = x := by rw [IntKind.wrap_i64]; omega
theorem mkOk {n : Int} (h0 : 0 ≤ n) (h : n ≤ 1099511627776) : (decide (0 ≤ n) && decide (n ≤ n) && decide (n ≤ 1152921504606846976) && decide (((8 : Nat) : Int) * n ≤ 281474976710656)) = true := by
  simp; omega
theorem fitsOk {n : Nat} (h : n ≤ 4398046511104) : fits n 8 = true := by simp [fits]; omega
theorem copyL_all (xs : List Int) : copyL (List.replicate xs.length 0) 0 (List.replicate xs.length (0 : Int)).length xs = xs := by
  simp [copyL, spl]
theorem take_set_succ {xs out : List Int} {j : Nat} (hj : j < xs.length) (h2 : j < out.length) (h : out.take j = xs.take j) : (out.set j xs[j]).take (j + 1) = xs.take (j + 1) := by
  rw [List.take_add_one, List.take_add_one, List.take_set, List.set_eq_of_length_le (by simp; omega), h]
  simp [h2, hj]
theorem mul60 {a b : Int} (ha : 0 ≤ a) (ha' : a ≤ 60) (hb : 0 ≤ b) (hb' : b ≤ 60) : 0 ≤ a * b ∧ a * b ≤ 3600 :=
  ⟨Int.mul_nonneg ha hb, Int.le_trans (Int.mul_le_mul ha' hb' hb (by omega)) (by omega)⟩
theorem mul3600 {a b : Int} (ha : 0 ≤ a) (ha' : a ≤ 3600) (hb : 0 ≤ b) (hb' : b ≤ 60) : 0 ≤ a * b ∧ a * b ≤ 216000 :=
  ⟨Int.mul_nonneg ha hb, Int.le_trans (Int.mul_le_mul ha' hb' hb (by omega)) (by omega)⟩
theorem allB_nil (lo hi : Int) : allB [] lo hi = true := rfl
theorem allB_cons (x : Int) (xs : List Int) (lo hi : Int) : allB (x :: xs) lo hi = ((decide (lo ≤ x) && decide (x ≤ hi)) && allB xs lo hi) := rfl
theorem numB_eq (v : Int) : numB v = (decide (-1000000 ≤ v) && decide (v ≤ 1000000)) := rfl
theorem szI_small {xs : List Int} {left : Int} (h0 : 0 ≤ left) (h1 : left ≤ 1048576) (hx : xs.length < 9223372036854775808) : szI xs left = bif decide (left < ((xs.length : Nat) : Int)) then -1 else left - ((xs.length : Nat) : Int) := by
  unfold szI
  rw [wS (by omega) (by omega)]
  by_cases h : left < ((xs.length : Nat) : Int)
  · have h' : left - ((xs.length : Nat) : Int) < 0 := by omega
    simp [h, h']
  · have h' : ¬ left - ((xs.length : Nat) : Int) < 0 := by omega
    simp [h, h']
/-- What a law's guard says. -/
theorem szA_small {sh da : List Int} (h1 : sh.length < 9223372036854775808) (h2 : da.length < 9223372036854775808) (h : ¬ szA sh da 1048576 < 0) : sh.length + da.length ≤ 1048576 := by
  unfold szA at h
  rw [szI_small (by omega) (by omega) h1] at h
  by_cases ha : (1048576 : Int) < ((sh.length : Nat) : Int)
  · simp [ha] at h
  · simp only [ha, decide_false, cond_false] at h
    rw [szI_small (by omega) (by omega) h2] at h
    by_cases hb : (1048576 - ((sh.length : Nat) : Int)) < ((da.length : Nat) : Int)
    · simp only [hb, decide_true, cond_true] at h
      have hneg : ¬ (1048576 - ((sh.length : Nat) : Int) < 0) := by omega
      simp [hneg] at h
    · omega
end Go.Ab
namespace Go.Ab
theorem markK_eq : ∀ (xs : List Int) (k : Int), 0 ≤ k → k + xs.length < 4611686018427387904 → markK xs k = k + ((xs.length : Nat) : Int)
  | [], k, _, _ => by simp [markK]
  | x :: xs, k, h0, h1 => by
    simp only [List.length_cons] at h1
    simp only [markK]
    rw [wS (by omega) (by omega), markK_eq xs (k + 1) (by omega) (by omega)]
    simp only [List.length_cons]
    omega
theorem heldL_mark : ∀ (xs : List Int) (k : Int), 0 ≤ k → k + xs.length < 4611686018427387904 → heldL (markL xs k) k = k + ((xs.length : Nat) : Int)
  | [], k, _, _ => by simp [markL, heldL]
  | x :: xs, k, h0, h1 => by
    simp only [List.length_cons] at h1
    simp only [markL, heldL, bne_self_eq_false, cond_false]
    rw [wS (by omega) (by omega), heldL_mark xs (k + 1) (by omega) (by omega)]
    simp only [List.length_cons]
    omega
theorem mark1_ok {xs : List Int} (h : xs.length ≤ 4398046511104) : decide (markK xs 1 < 0) = false := by
  rw [markK_eq xs 1 (by omega) (by omega)]; simp; omega
/-- What the marks of an array's memory say: nothing is shared. -/
theorem marks_ok {sh da : List Int} (h1 : sh.length ≤ 1099511627776) (h2 : da.length ≤ 1099511627776) :
    decide (sh.length < 9223372036854775808) = true ∧ decide (da.length < 9223372036854775808) = true ∧ decide ((markL sh 1).length < 9223372036854775808) = true ∧
    decide ((markL da (markK sh 1)).length < 9223372036854775808) = true ∧ heldA (markL sh 1) (markL da (markK sh 1)) 1 = markK da (markK sh 1) ∧ decide (markK da (markK sh 1) < 0) = false := by
  have e1 := markK_eq sh 1 (by omega) (by omega)
  have e2 := markK_eq da (1 + ((sh.length : Nat) : Int)) (by omega) (by omega)
  have e3 := heldL_mark sh 1 (by omega) (by omega)
  have e4 := heldL_mark da (1 + ((sh.length : Nat) : Int)) (by omega) (by omega)
  refine ⟨decide_eq_true (by omega), decide_eq_true (by omega), by rw [markL_length]; exact decide_eq_true (by omega), by rw [markL_length]; exact decide_eq_true (by omega), ?_, by rw [e1, e2]; exact decide_eq_false (by omega)⟩
  unfold heldA
  rw [e1, e3, e4, e2, decide_eq_false (by omega), decide_eq_false (by omega)]
  rfl
theorem cnt_len (n : Int) : (cntS n).length ≤ 1 ∧ (cntD n).length ≤ 60 := by
  unfold cntS cntD
  cases h : cntOk n with
  | false => simp
  | true =>
    have : 0 ≤ n ∧ n ≤ 60 := by simpa [cntOk] using h
    simp; omega
theorem vec_len (xs : List Int) : (vecS xs).length ≤ 1 ∧ (vecD xs).length ≤ 60 := by
  unfold vecS vecD
  cases h : vecOk xs with
  | false => simp
  | true =>
    have : xs.length ≤ 60 := by simp [vecOk] at h; exact h.1
    simp; omega
end Go.Ab
namespace Go.Ab
/-- A list by a rule. -/
def tab (n : Nat) (f : Nat → Int) : List Int := (List.range n).map f
theorem tab_length (n : Nat) (f : Nat → Int) : (tab n f).length = n := by simp [tab]
theorem tab_succ (n : Nat) (f : Nat → Int) : tab (n + 1) f = tab n f ++ [f n] := by simp [tab, List.range_succ]
theorem tab_get {n : Nat} {f : Nat → Int} {i : Nat} (h : i < n) : (tab n f)[i]? = some (f i) := by simp [tab, h]
theorem tab_getD {n : Nat} {f : Nat → Int} {i : Nat} (h : i < n) : (tab n f).getD i 0 = f i := by simp [tab, h]
theorem tab_congr {n : Nat} {f g : Nat → Int} (h : ∀ i, i < n → f i = g i) : tab n f = tab n g := by
  unfold tab
  exact List.map_congr_left fun i hi => h i (by simpa using hi)
theorem tab_self (xs : List Int) : tab xs.length (fun i => xs.getD i 0) = xs := by
  apply List.ext_getElem?
  intro i
  by_cases h : i < xs.length
  · rw [tab_get h]; simp [h]
  · rw [List.getElem?_eq_none (by rw [tab_length]; omega), List.getElem?_eq_none (by omega)]
/-- A row that is filled from the front. -/
theorem fill_step {n j : Nat} {f : Nat → Int} {out : List Int} (hj : j < n) (hl : out.length = n) (h : out.take j = tab j f) : (out.set j (f j)).take (j + 1) = tab (j + 1) f := by
  rw [tab_succ, ← h, List.take_add_one, List.take_set, List.set_eq_of_length_le (by simp; omega)]
  have : j < out.length := by omega
  simp [this]
/-- A number that is left as it is. -/
theorem fill_keep {n j : Nat} {f : Nat → Int} {out : List Int} (hj : j < n) (hl : out.length = n) (h : out.take j = tab j f) (h2 : out[j]? = some (f j)) : out.take (j + 1) = tab (j + 1) f := by
  rw [tab_succ, ← h, List.take_add_one, h2]
  rfl
theorem fill_end {n : Nat} {f : Nat → Int} {out : List Int} (hl : out.length = n) (h : out.take n = tab n f) : out = tab n f := by
  rw [← h, List.take_of_length_le (by omega)]
theorem divmod {a b c : Nat} (h : c < b) : (a * b + c) / b = a ∧ (a * b + c) % b = c := by
  constructor
  · rw [Nat.add_comm, Nat.add_mul_div_right _ _ (by omega), Nat.div_eq_of_lt h, Nat.zero_add]
  · rw [Nat.add_comm, Nat.add_mul_mod_self_right, Nat.mod_eq_of_lt h]
end Go.Ab
namespace Go.Ab
def offW : List Int → List Int → Int → Int
  | [], _, n => n
  | _ :: _, [], n => n
  | s :: sh, p :: pl, n => offW sh pl (IntKind.wrap .i64 (IntKind.wrap .i64 (n * s) + p))
def isPl : List Int → List Int → Bool
  | [], [] => true
  | s :: sh, p :: pl => (decide (0 ≤ p) && decide (p ≤ IntKind.wrap .i64 (s - 1))) && isPl sh pl
  | _, _ => false
def offS (sh pl : List Int) : Int := bif validS sh && isPl sh pl then offW sh pl 0 else -1
def offA (sh da pl : List Int) : Int := bif validA sh da then offS sh pl else -1
def itemB (sh da pl : List Int) : Bool := validA sh da && isPl sh pl
def itemV (sh da pl : List Int) : Int := bif itemB sh da pl then da.getD (offW sh pl 0).toNat 0 else 0
def withB (sh da pl : List Int) (n : Int) : Bool := itemB sh da pl && numB n
def withS (sh da pl : List Int) (n : Int) : List Int := bif withB sh da pl n then sh else []
def withD (sh da pl : List Int) (n : Int) : List Int := bif withB sh da pl n then da.set (offW sh pl 0).toNat n else []

theorem isPl_len : ∀ {sh pl : List Int}, isPl sh pl = true → pl.length = sh.length
  | [], [], _ => rfl
  | [], _ :: _, h => by simp [isPl] at h
  | _ :: _, [], h => by simp [isPl] at h
  | s :: sh, p :: pl, h => by
    simp only [isPl, Bool.and_eq_true] at h
    simp [isPl_len h.2]
theorem isPl_ne {sh pl : List Int} (h : pl.length ≠ sh.length) : isPl sh pl = false := by
  cases hb : isPl sh pl with
  | false => rfl
  | true => exact absurd (isPl_len hb) h
theorem validS_inv {sh : List Int} (h : validS sh = true) : sh.length ≤ 3 ∧ allB sh 0 60 = true ∧ volW sh ≤ 60 := by
  simp only [validS, Bool.and_eq_true, decide_eq_true_eq] at h
  exact ⟨by omega, h.1.2, h.2⟩
theorem horner {a b p q : Int} (hp : 0 ≤ p) (hp2 : p < a) (hq : 0 ≤ q) (hq2 : q < b) : 0 ≤ p * b + q ∧ p * b + q < a * b := by
  have h1 : 0 ≤ p * b := Int.mul_nonneg hp (by omega)
  have h2 : (p + 1) * b ≤ a * b := Int.mul_le_mul_of_nonneg_right (by omega) (by omega)
  rw [Int.add_mul, Int.one_mul] at h2
  omega
/-- A valid shape, by its number of axes. -/
theorem validS_cases {sh : List Int} (h : validS sh = true) : sh = [] ∨ (∃ a, sh = [a] ∧ 0 ≤ a ∧ a ≤ 60) ∨ (∃ a b, sh = [a, b] ∧ 0 ≤ a ∧ a ≤ 60 ∧ 0 ≤ b ∧ b ≤ 60 ∧ a * b ≤ 60) ∨
    ∃ a b c, sh = [a, b, c] ∧ 0 ≤ a ∧ a ≤ 60 ∧ 0 ≤ b ∧ b ≤ 60 ∧ 0 ≤ c ∧ c ≤ 60 ∧ a * b * c ≤ 60 := by
  obtain ⟨h1, h2, h3⟩ := validS_inv h
  match sh, h1, h2, h3 with
  | [], _, _, _ => exact .inl rfl
  | [a], _, h2, h3 =>
    simp only [allB_cons, allB_nil, Bool.and_true, Bool.and_eq_true, decide_eq_true_eq] at h2
    exact .inr (.inl ⟨a, rfl, h2.1, h2.2⟩)
  | [a, b], _, h2, h3 =>
    simp only [allB_cons, allB_nil, Bool.and_true, Bool.and_eq_true, decide_eq_true_eq] at h2
    have hm := mul60 h2.1.1 h2.1.2 h2.2.1 h2.2.2
    simp only [volW, volFrom, Int.one_mul, wS (x := a) (by omega) (by omega), wS (x := a * b) (by omega) (by omega)] at h3
    exact .inr (.inr (.inl ⟨a, b, rfl, h2.1.1, h2.1.2, h2.2.1, h2.2.2, h3⟩))
  | [a, b, c], _, h2, h3 =>
    simp only [allB_cons, allB_nil, Bool.and_true, Bool.and_eq_true, decide_eq_true_eq] at h2
    have hm := mul60 h2.1.1 h2.1.2 h2.2.1.1 h2.2.1.2
    have hm3 := mul3600 hm.1 hm.2 h2.2.2.1 h2.2.2.2
    simp only [volW, volFrom, Int.one_mul, wS (x := a) (by omega) (by omega), wS (x := a * b) (by omega) (by omega), wS (x := a * b * c) (by omega) (by omega)] at h3
    exact .inr (.inr (.inr ⟨a, b, c, rfl, h2.1.1, h2.1.2, h2.2.1.1, h2.2.1.2, h2.2.2.1, h2.2.2.2, h3⟩))
  | _ :: _ :: _ :: _ :: _, h1, _, _ => simp at h1
/-- The number of a place, without wraps, and where it lies. -/
theorem off_bd {sh pl : List Int} (h : validS sh = true) (hp : isPl sh pl = true) : 0 ≤ offW sh pl 0 ∧ offW sh pl 0 < volW sh := by
  have hl := isPl_len hp
  rcases validS_cases h with rfl | ⟨a, rfl, a0, a1⟩ | ⟨a, b, rfl, a0, a1, b0, b1, v⟩ | ⟨a, b, c, rfl, a0, a1, b0, b1, c0, c1, v⟩
  · match pl, hl with
    | [], _ => decide
  · match pl, hl with
    | [p], _ =>
      simp only [isPl, Bool.and_true, Bool.and_eq_true, decide_eq_true_eq, wS (x := a - 1) (by omega) (by omega)] at hp
      simp only [offW, volW, volFrom, Int.zero_mul, Int.one_mul, wS (x := a) (by omega) (by omega)]
      rw [wS (x := 0) (by omega) (by omega), Int.zero_add, wS (x := p) (by omega) (by omega)]
      omega
  · match pl, hl with
    | [p, q], _ =>
      simp only [isPl, Bool.and_true, Bool.and_eq_true, decide_eq_true_eq, wS (x := a - 1) (by omega) (by omega), wS (x := b - 1) (by omega) (by omega)] at hp
      have hh := horner (a := a) (b := b) hp.1.1 (by omega) hp.2.1 (by omega)
      have hpb := mul60 (a := p) (b := b) hp.1.1 (by omega) b0 b1
      simp only [offW, volW, volFrom, Int.zero_mul, Int.one_mul, wS (x := a) (by omega) (by omega)]
      rw [wS (x := 0) (by omega) (by omega), Int.zero_add, wS (x := p) (by omega) (by omega), wS (x := p * b) (by omega) (by omega), wS (x := p * b + q) (by omega) (by omega), wS (x := a * b) (by omega) (by omega)]
      exact hh
  · match pl, hl with
    | [p, q, r], _ =>
      simp only [isPl, Bool.and_true, Bool.and_eq_true, decide_eq_true_eq, wS (x := a - 1) (by omega) (by omega), wS (x := b - 1) (by omega) (by omega), wS (x := c - 1) (by omega) (by omega)] at hp
      have hh := horner (a := a) (b := b) hp.1.1 (by omega) hp.2.1.1 (by omega)
      have hpb := mul60 (a := p) (b := b) hp.1.1 (by omega) b0 b1
      have hab := mul60 a0 a1 b0 b1
      have hh2 := horner (a := a * b) (b := c) hh.1 hh.2 hp.2.2.1 (by omega)
      have habc := mul3600 hab.1 hab.2 c0 c1
      have hpc := mul3600 (a := p * b + q) (b := c) hh.1 (by omega) c0 c1
      simp only [offW, volW, volFrom, Int.zero_mul, Int.one_mul, wS (x := a) (by omega) (by omega)]
      rw [wS (x := 0) (by omega) (by omega), Int.zero_add, wS (x := p) (by omega) (by omega), wS (x := p * b) (by omega) (by omega), wS (x := p * b + q) (by omega) (by omega), wS (x := (p * b + q) * c) (by omega) (by omega), wS (x := (p * b + q) * c + r) (by omega) (by omega),
        wS (x := a * b) (by omega) (by omega), wS (x := a * b * c) (by omega) (by omega)]
      exact hh2
end Go.Ab
namespace Go.Ab
theorem validA_inv {sh da : List Int} (h : validA sh da = true) : validS sh = true ∧ ((da.length : Nat) : Int) = volW sh ∧ allB da (-1000000) 1000000 = true := by
  simp only [validA, Bool.and_eq_true, beq_iff_eq] at h
  exact ⟨h.1.1, h.1.2, h.2⟩
theorem validA_len {sh da : List Int} (h : validA sh da = true) : sh.length ≤ 3 ∧ da.length ≤ 60 := by
  obtain ⟨h1, h2, _⟩ := validA_inv h
  obtain ⟨h3, _, h4⟩ := validS_inv h1
  exact ⟨h3, by omega⟩
/-- A place of a valid array lies in its numbers. -/
theorem item_idx {sh da pl : List Int} (h : itemB sh da pl = true) : (offW sh pl 0).toNat < da.length ∧ idx (offW sh pl 0) da.length = some (offW sh pl 0).toNat ∧ offA sh da pl = offW sh pl 0 ∧ ¬ offA sh da pl < 0 := by
  simp only [itemB, Bool.and_eq_true] at h
  obtain ⟨h1, h2, _⟩ := validA_inv h.1
  obtain ⟨g1, g2⟩ := off_bd h1 h.2
  have e : offA sh da pl = offW sh pl 0 := by unfold offA offS; rw [h.1, h1, h.2]; rfl
  refine ⟨by omega, ?_, e, by omega⟩
  unfold idx
  rw [if_pos ⟨g1, by omega⟩]
theorem item_no {sh da pl : List Int} (h : itemB sh da pl = false) : offA sh da pl = -1 := by
  unfold offA offS
  unfold itemB at h
  cases hv : validA sh da with
  | false => rfl
  | true =>
    rw [hv] at h
    simp only [Bool.true_and] at h
    rw [h, Bool.and_false]
    rfl
end Go.Ab
namespace Go.Ab
theorem mark2_ok {xs ys : List Int} (h1 : xs.length ≤ 4398046511104) (h2 : ys.length ≤ 4398046511104) : decide (markK ys (markK xs 1) < 0) = false := by
  rw [markK_eq xs 1 (by omega) (by omega), markK_eq ys _ (by omega) (by omega)]
  exact decide_eq_false (by omega)
theorem mark3_ok {xs ys zs : List Int} (h1 : xs.length ≤ 4398046511104) (h2 : ys.length ≤ 4398046511104) (h3 : zs.length ≤ 4398046511104) : decide (markK zs (markK ys (markK xs 1)) < 0) = false := by
  rw [markK_eq xs 1 (by omega) (by omega), markK_eq ys _ (by omega) (by omega), markK_eq zs _ (by omega) (by omega)]
  exact decide_eq_false (by omega)
theorem with_len (sh da pl : List Int) (n : Int) : (withS sh da pl n).length ≤ 3 ∧ (withD sh da pl n).length ≤ 60 := by
  unfold withS withD
  cases h : withB sh da pl n with
  | false => simp
  | true =>
    simp only [withB, itemB, Bool.and_eq_true] at h
    obtain ⟨l1, l2⟩ := validA_len h.1.1
    simp
    omega
end Go.Ab
namespace Go.Ab
def limV (n : Int) : Int := minI (maxI n (-1000000)) 1000000
def tInt (b : Bool) : Int := bif b then 1 else 0
def absV (n : Int) : Int := maxI n (IntKind.wrap .i64 (0 - n))
def modV (a b : Int) : Int := Int.tmod (IntKind.wrap .i64 (Int.tmod a b + b)) b
def restV (d n : Int) : Int := bif decide (d ≤ 0) then n else modV n d
def opOk (op : Int) : Bool := decide (1 ≤ op) && decide (op ≤ 8)
def operF (op a b : Int) : Int :=
  bif op == 1 then limV (IntKind.wrap .i64 (a + b)) else bif op == 2 then limV (IntKind.wrap .i64 (a - b)) else bif op == 3 then limV (IntKind.wrap .i64 (a * b)) else bif op == 4 then minI a b else
  bif op == 5 then maxI a b else bif op == 6 then tInt (a == b) else bif op == 7 then tInt (decide (a < b)) else restV a b
def operV (op a b : Int) : Int := bif opOk op && (numB a && numB b) then operF op a b else 0
def neuF (op : Int) : Int := [0, 0, 1, 1000000, -1000000, 1, 0, 0].getD (op - 1).toNat 0
def neuV (op : Int) : Int := bif opOk op then neuF op else 0
theorem opOk_cases {op : Int} (h : opOk op = true) : op = 1 ∨ op = 2 ∨ op = 3 ∨ op = 4 ∨ op = 5 ∨ op = 6 ∨ op = 7 ∨ op = 8 := by
  simp only [opOk, Bool.and_eq_true, decide_eq_true_eq] at h
  omega
theorem opOk_no {op : Int} (h : opOk op = false) : op < 1 ∨ 8 < op := by
  simp only [opOk, Bool.and_eq_false_iff, decide_eq_false_iff_not] at h
  omega
theorem lim_spec (n : Int) : maxI (-1000000) (minI 1000000 n) = limV n := by
  unfold limV maxI minI
  repeat' split
  all_goals omega
theorem lim_bd (n : Int) : -1000000 ≤ limV n ∧ limV n ≤ 1000000 := by
  unfold limV maxI minI
  repeat' split
  all_goals omega
end Go.Ab
namespace Go.Ab
namespace spec_inRange
def E : Entry := ⟨16, true, false, fun | [.d (.int .i64 v), .d (.int .i64 lo), .d (.int .i64 hi)] => true | _ => false, fun | [.d (.int .i64 v), .d (.int .i64 lo), .d (.int .i64 hi)] => ([.one ((.bool (decide (lo ≤ v) && decide (v ≤ hi))), false)], []) | _ => ([], []), fun _ => [], false⟩
end spec_inRange
namespace spec_inRange
noncomputable def X : List Entry := []
def A : Ann := ⟨[], [], [], []⟩
theorem e (fuel : Nat) (p0 : Int) (p1 : Int) (p2 : Int) : runF Try.prog X A fuel Try.f16 [.d (.int .i64 p0), .d (.int .i64 p1), .d (.int .i64 p2)] =
  (bif (decide ((p1 : Int) ≤ p0)) then
  some ([.one ((.bool (decide ((p0 : Int) ≤ p2))), false)], [])
  else
  some ([.one ((.bool false), false)], [])) := by kernel_rfl
end spec_inRange
theorem spec_inRange.ok_of (hX : ∀ E ∈ spec_inRange.X, CallSpec Try.prog E) (h : ∀ (v : Int) (lo : Int) (hi : Int), (true) = true → ∃ fuel, runF Try.prog spec_inRange.X spec_inRange.A fuel Try.f16 [.d (.int .i64 v), .d (.int .i64 lo), .d (.int .i64 hi)] = some ([.one ((.bool (decide (lo ≤ v) && decide (v ≤ hi))), false)], [])) : CallSpec Try.prog spec_inRange.E :=
  callSpec_of hX (by kernel_rfl) (by kernel_rfl) (by kernel_rfl) (by kernel_rfl) (fun xs hp => by
    dsimp only [spec_inRange.E] at hp ⊢
    split at hp
    · exact h _ _ _ hp
    · cases hp)
theorem spec_inRange.ok : CallSpec Try.prog spec_inRange.E := spec_inRange.ok_of (by simp [spec_inRange.X]) fun v lo hi _ => ⟨0, by
  rw [spec_inRange.e]
  cases decide (lo ≤ v) <;> rfl⟩

namespace spec_validOp
def E : Entry := ⟨15, true, false, fun | [.d (.int .i64 op)] => true | _ => false, fun | [.d (.int .i64 op)] => ([.one ((.bool (opOk op)), false)], []) | _ => ([], []), fun _ => [], false⟩
end spec_validOp
namespace spec_validOp
noncomputable def X : List Entry := [spec_inRange.E]
def A : Ann := ⟨[], [], [], []⟩
theorem e (fuel : Nat) (p0 : Int) : runF Try.prog X A fuel Try.f15 [.d (.int .i64 p0)] =
  some ([.one ((.bool (decide (1 ≤ p0) && decide (p0 ≤ 8))), false)], []) := by kernel_rfl
end spec_validOp
theorem spec_validOp.ok_of (hX : ∀ E ∈ spec_validOp.X, CallSpec Try.prog E) (h : ∀ (op : Int), (true) = true → ∃ fuel, runF Try.prog spec_validOp.X spec_validOp.A fuel Try.f15 [.d (.int .i64 op)] = some ([.one ((.bool (opOk op)), false)], [])) : CallSpec Try.prog spec_validOp.E :=
  callSpec_of hX (by kernel_rfl) (by kernel_rfl) (by kernel_rfl) (by kernel_rfl) (fun xs hp => by
    dsimp only [spec_validOp.E] at hp ⊢
    split at hp
    · exact h _ hp
    · cases hp)
theorem spec_validOp.ok : CallSpec Try.prog spec_validOp.E := spec_validOp.ok_of (by simp [spec_validOp.X, spec_inRange.ok]) fun op _ => ⟨0, by rw [spec_validOp.e]; rfl⟩

namespace spec_limit
def E : Entry := ⟨24, true, false, fun | [.d (.int .i64 n)] => true | _ => false, fun | [.d (.int .i64 n)] => ([.one ((.int .i64 (limV n)), false)], []) | _ => ([], []), fun _ => [], false⟩
end spec_limit
namespace spec_limit
noncomputable def X : List Entry := []
def A : Ann := ⟨[], [], [], []⟩
theorem e (fuel : Nat) (p0 : Int) : runF Try.prog X A fuel Try.f24 [.d (.int .i64 p0)] =
  some ([.one ((.int .i64 (maxI (-1000000) (minI 1000000 p0))), false)], []) := by kernel_rfl
end spec_limit
theorem spec_limit.ok_of (hX : ∀ E ∈ spec_limit.X, CallSpec Try.prog E) (h : ∀ (n : Int), (true) = true → ∃ fuel, runF Try.prog spec_limit.X spec_limit.A fuel Try.f24 [.d (.int .i64 n)] = some ([.one ((.int .i64 (limV n)), false)], [])) : CallSpec Try.prog spec_limit.E :=
  callSpec_of hX (by kernel_rfl) (by kernel_rfl) (by kernel_rfl) (by kernel_rfl) (fun xs hp => by
    dsimp only [spec_limit.E] at hp ⊢
    split at hp
    · exact h _ hp
    · cases hp)
theorem spec_limit.ok : CallSpec Try.prog spec_limit.E := spec_limit.ok_of (by simp [spec_limit.X]) fun n _ => ⟨0, by rw [spec_limit.e, lim_spec]⟩

namespace spec_toInt
def E : Entry := ⟨25, true, false, fun | [.d (.bool b)] => true | _ => false, fun | [.d (.bool b)] => ([.one ((.int .i64 (tInt b)), false)], []) | _ => ([], []), fun _ => [], false⟩
end spec_toInt
namespace spec_toInt
noncomputable def X : List Entry := []
def A : Ann := ⟨[], [], [], []⟩
theorem e (fuel : Nat) (p0 : Bool) : runF Try.prog X A fuel Try.f25 [.d (.bool p0)] =
  (bif p0 then
  some ([.one ((.int .i64 1), false)], [])
  else
  some ([.one ((.int .i64 0), false)], [])) := by kernel_rfl
end spec_toInt
theorem spec_toInt.ok_of (hX : ∀ E ∈ spec_toInt.X, CallSpec Try.prog E) (h : ∀ (b : Bool), (true) = true → ∃ fuel, runF Try.prog spec_toInt.X spec_toInt.A fuel Try.f25 [.d (.bool b)] = some ([.one ((.int .i64 (tInt b)), false)], [])) : CallSpec Try.prog spec_toInt.E :=
  callSpec_of hX (by kernel_rfl) (by kernel_rfl) (by kernel_rfl) (by kernel_rfl) (fun xs hp => by
    dsimp only [spec_toInt.E] at hp ⊢
    split at hp
    · exact h _ hp
    · cases hp)
theorem spec_toInt.ok : CallSpec Try.prog spec_toInt.E := spec_toInt.ok_of (by simp [spec_toInt.X]) fun b _ => ⟨0, by rw [spec_toInt.e]; cases b <;> rfl⟩

namespace spec_modulo
def E : Entry := ⟨26, true, false, fun | [.d (.int .i64 a), .d (.int .i64 b)] => decide (0 < b) | _ => false, fun | [.d (.int .i64 a), .d (.int .i64 b)] => ([.one ((.int .i64 (modV a b)), false)], []) | _ => ([], []), fun _ => [], false⟩
end spec_modulo
namespace spec_modulo
noncomputable def X : List Entry := []
def A : Ann := ⟨[], [], [], []⟩
theorem e (fuel : Nat) (p0 : Int) (p1 : Int) : runF Try.prog X A fuel Try.f26 [.d (.int .i64 p0), .d (.int .i64 p1)] =
  (bif decide ((p1 : Int) = 0) then
  none
  else
  (bif decide ((p1 : Int) = 0) then
  none
  else
  some ([.one ((.int .i64 (Int.tmod (IntKind.wrap .i64 ((Int.tmod p0 p1) + p1)) p1)), false)], []))) := by kernel_rfl
end spec_modulo
theorem spec_modulo.ok_of (hX : ∀ E ∈ spec_modulo.X, CallSpec Try.prog E) (h : ∀ (a : Int) (b : Int), (decide (0 < b)) = true → ∃ fuel, runF Try.prog spec_modulo.X spec_modulo.A fuel Try.f26 [.d (.int .i64 a), .d (.int .i64 b)] = some ([.one ((.int .i64 (modV a b)), false)], [])) : CallSpec Try.prog spec_modulo.E :=
  callSpec_of hX (by kernel_rfl) (by kernel_rfl) (by kernel_rfl) (by kernel_rfl) (fun xs hp => by
    dsimp only [spec_modulo.E] at hp ⊢
    split at hp
    · exact h _ _ hp
    · cases hp)
theorem spec_modulo.ok : CallSpec Try.prog spec_modulo.E := spec_modulo.ok_of (by simp [spec_modulo.X]) fun a b h => ⟨0, by
  have := of_decide_eq_true h
  rw [spec_modulo.e, decide_eq_false (p := b = 0) (by omega)]
  rfl⟩

namespace spec_operate
def E : Entry := ⟨17, true, false, fun | [.d (.int .i64 op), .d (.int .i64 a), .d (.int .i64 b)] => true | _ => false, fun | [.d (.int .i64 op), .d (.int .i64 a), .d (.int .i64 b)] => ([.one ((.int .i64 (operF op a b)), false)], []) | _ => ([], []), fun _ => [], false⟩
end spec_operate
namespace spec_operate
noncomputable def X : List Entry := [spec_limit.E, spec_toInt.E, spec_modulo.E]
def A : Ann := ⟨[], [], [], []⟩
theorem e (fuel : Nat) (p0 : Int) (p1 : Int) (p2 : Int) : runF Try.prog X A fuel Try.f17 [.d (.int .i64 p0), .d (.int .i64 p1), .d (.int .i64 p2)] =
  (bif ((p0 : Int) == 1) then
  some ([.one ((.int .i64 (limV ((IntKind.wrap .i64 (p1 + p2))))), false)], [])
  else
  (bif ((p0 : Int) == 2) then
  some ([.one ((.int .i64 (limV ((IntKind.wrap .i64 (p1 - p2))))), false)], [])
  else
  (bif ((p0 : Int) == 3) then
  some ([.one ((.int .i64 (limV ((IntKind.wrap .i64 (p1 * p2))))), false)], [])
  else
  (bif ((p0 : Int) == 4) then
  some ([.one ((.int .i64 (minI p1 p2)), false)], [])
  else
  (bif ((p0 : Int) == 5) then
  some ([.one ((.int .i64 (maxI p1 p2)), false)], [])
  else
  (bif ((p0 : Int) == 6) then
  some ([.one ((.int .i64 (tInt (((p1 : Int) == p2)))), false)], [])
  else
  (bif ((p0 : Int) == 7) then
  some ([.one ((.int .i64 (tInt ((decide ((p1 : Int) < p2))))), false)], [])
  else
  (bif (decide ((p1 : Int) ≤ 0)) then
  some ([.one ((.int .i64 p2), false)], [])
  else
  (bif decide (0 < p1) then
  some ([.one ((.int .i64 (modV p2 p1)), false)], [])
  else
  none))))))))) := by kernel_rfl
end spec_operate
theorem spec_operate.ok_of (hX : ∀ E ∈ spec_operate.X, CallSpec Try.prog E) (h : ∀ (op : Int) (a : Int) (b : Int), (true) = true → ∃ fuel, runF Try.prog spec_operate.X spec_operate.A fuel Try.f17 [.d (.int .i64 op), .d (.int .i64 a), .d (.int .i64 b)] = some ([.one ((.int .i64 (operF op a b)), false)], [])) : CallSpec Try.prog spec_operate.E :=
  callSpec_of hX (by kernel_rfl) (by kernel_rfl) (by kernel_rfl) (by kernel_rfl) (fun xs hp => by
    dsimp only [spec_operate.E] at hp ⊢
    split at hp
    · exact h _ _ _ hp
    · cases hp)
theorem spec_operate.ok : CallSpec Try.prog spec_operate.E := spec_operate.ok_of (by simp [spec_operate.X, spec_limit.ok, spec_toInt.ok, spec_modulo.ok]) fun op a b _ => ⟨0, by
  rw [spec_operate.e]
  unfold operF restV
  by_cases h : a ≤ 0
  · rw [decide_eq_true h]
    cases op == 1 <;> cases op == 2 <;> cases op == 3 <;> cases op == 4 <;> cases op == 5 <;> cases op == 6 <;> cases op == 7 <;> rfl
  · rw [decide_eq_false h, decide_eq_true (p := 0 < a) (by omega)]
    cases op == 1 <;> cases op == 2 <;> cases op == 3 <;> cases op == 4 <;> cases op == 5 <;> cases op == 6 <;> cases op == 7 <;> rfl⟩

namespace spec_Operate
def E : Entry := ⟨9, true, false, fun | [.d (.int .i64 op), .d (.int .i64 a), .d (.int .i64 b)] => true | _ => false, fun | [.d (.int .i64 op), .d (.int .i64 a), .d (.int .i64 b)] => ([.one ((.int .i64 (operV op a b)), false)], []) | _ => ([], []), fun _ => [], false⟩
end spec_Operate
namespace spec_Operate
noncomputable def X : List Entry := [spec_validOp.E, spec_inRange.E, spec_operate.E]
def A : Ann := ⟨[], [], [], []⟩
theorem e (fuel : Nat) (p0 : Int) (p1 : Int) (p2 : Int) : runF Try.prog X A fuel Try.f9 [.d (.int .i64 p0), .d (.int .i64 p1), .d (.int .i64 p2)] =
  (bif (!(opOk p0)) then
  some ([.one ((.int .i64 0), false)], [])
  else
  (bif (!(decide (((-1000000)) ≤ p1) && decide (p1 ≤ 1000000))) then
  some ([.one ((.int .i64 0), false)], [])
  else
  (bif (!(decide (((-1000000)) ≤ p2) && decide (p2 ≤ 1000000))) then
  some ([.one ((.int .i64 0), false)], [])
  else
  some ([.one ((.int .i64 (operF p0 p1 p2)), false)], [])))) := by kernel_rfl
end spec_Operate
theorem spec_Operate.ok_of (hX : ∀ E ∈ spec_Operate.X, CallSpec Try.prog E) (h : ∀ (op : Int) (a : Int) (b : Int), (true) = true → ∃ fuel, runF Try.prog spec_Operate.X spec_Operate.A fuel Try.f9 [.d (.int .i64 op), .d (.int .i64 a), .d (.int .i64 b)] = some ([.one ((.int .i64 (operV op a b)), false)], [])) : CallSpec Try.prog spec_Operate.E :=
  callSpec_of hX (by kernel_rfl) (by kernel_rfl) (by kernel_rfl) (by kernel_rfl) (fun xs hp => by
    dsimp only [spec_Operate.E] at hp ⊢
    split at hp
    · exact h _ _ _ hp
    · cases hp)
theorem spec_Operate.ok : CallSpec Try.prog spec_Operate.E := spec_Operate.ok_of (by simp [spec_Operate.X, spec_validOp.ok, spec_inRange.ok, spec_operate.ok]) fun op a b _ => ⟨0, by
  rw [spec_Operate.e]
  unfold operV
  rw [← numB_eq, ← numB_eq]
  cases opOk op <;> cases numB a <;> cases numB b <;> rfl⟩

namespace impl_limited
def E : Entry := ⟨28, true, false, fun | [.d (.int .i64 n)] => true | _ => false, fun | [.d (.int .i64 n)] => ([.one ((.int .i64 (limV n)), false)], []) | _ => ([], []), fun _ => [], false⟩
end impl_limited
namespace impl_limited
noncomputable def X : List Entry := []
def A : Ann := ⟨[], [], [], []⟩
theorem e (fuel : Nat) (p0 : Int) : runF Try.prog X A fuel Try.f28 [.d (.int .i64 p0)] =
  some ([.one ((.int .i64 (minI (maxI p0 (-1000000)) 1000000)), false)], []) := by kernel_rfl
end impl_limited
theorem impl_limited.ok_of (hX : ∀ E ∈ impl_limited.X, CallSpec Try.prog E) (h : ∀ (n : Int), (true) = true → ∃ fuel, runF Try.prog impl_limited.X impl_limited.A fuel Try.f28 [.d (.int .i64 n)] = some ([.one ((.int .i64 (limV n)), false)], [])) : CallSpec Try.prog impl_limited.E :=
  callSpec_of hX (by kernel_rfl) (by kernel_rfl) (by kernel_rfl) (by kernel_rfl) (fun xs hp => by
    dsimp only [impl_limited.E] at hp ⊢
    split at hp
    · exact h _ hp
    · cases hp)
theorem impl_limited.ok : CallSpec Try.prog impl_limited.E := impl_limited.ok_of (by simp [impl_limited.X]) fun n _ => ⟨0, by rw [impl_limited.e]; rfl⟩

namespace impl_functionOfTwo_1
def E : Entry := ⟨27, true, false, fun | [.d (.int .i64 a), .d (.int .i64 b)] => true | _ => false, fun | [.d (.int .i64 a), .d (.int .i64 b)] => ([.one ((.int .i64 (limV (IntKind.wrap .i64 (a + b)))), false)], []) | _ => ([], []), fun _ => [], false⟩
end impl_functionOfTwo_1
namespace impl_functionOfTwo_1
noncomputable def X : List Entry := [impl_limited.E]
def A : Ann := ⟨[], [], [], []⟩
theorem e (fuel : Nat) (p0 : Int) (p1 : Int) : runF Try.prog X A fuel Try.f27 [.d (.int .i64 p0), .d (.int .i64 p1)] =
  some ([.one ((.int .i64 (limV ((IntKind.wrap .i64 (p0 + p1))))), false)], []) := by kernel_rfl
end impl_functionOfTwo_1
theorem impl_functionOfTwo_1.ok_of (hX : ∀ E ∈ impl_functionOfTwo_1.X, CallSpec Try.prog E) (h : ∀ (a : Int) (b : Int), (true) = true → ∃ fuel, runF Try.prog impl_functionOfTwo_1.X impl_functionOfTwo_1.A fuel Try.f27 [.d (.int .i64 a), .d (.int .i64 b)] = some ([.one ((.int .i64 (limV (IntKind.wrap .i64 (a + b)))), false)], [])) : CallSpec Try.prog impl_functionOfTwo_1.E :=
  callSpec_of hX (by kernel_rfl) (by kernel_rfl) (by kernel_rfl) (by kernel_rfl) (fun xs hp => by
    dsimp only [impl_functionOfTwo_1.E] at hp ⊢
    split at hp
    · exact h _ _ hp
    · cases hp)
theorem impl_functionOfTwo_1.ok : CallSpec Try.prog impl_functionOfTwo_1.E := impl_functionOfTwo_1.ok_of (by simp [impl_functionOfTwo_1.X, impl_limited.ok]) fun a b _ => ⟨0, by rw [impl_functionOfTwo_1.e]⟩

namespace impl_functionOfTwo_2
def E : Entry := ⟨29, true, false, fun | [.d (.int .i64 a), .d (.int .i64 b)] => true | _ => false, fun | [.d (.int .i64 a), .d (.int .i64 b)] => ([.one ((.int .i64 (limV (IntKind.wrap .i64 (a - b)))), false)], []) | _ => ([], []), fun _ => [], false⟩
end impl_functionOfTwo_2
namespace impl_functionOfTwo_2
noncomputable def X : List Entry := [impl_limited.E]
def A : Ann := ⟨[], [], [], []⟩
theorem e (fuel : Nat) (p0 : Int) (p1 : Int) : runF Try.prog X A fuel Try.f29 [.d (.int .i64 p0), .d (.int .i64 p1)] =
  some ([.one ((.int .i64 (limV ((IntKind.wrap .i64 (p0 - p1))))), false)], []) := by kernel_rfl
end impl_functionOfTwo_2
theorem impl_functionOfTwo_2.ok_of (hX : ∀ E ∈ impl_functionOfTwo_2.X, CallSpec Try.prog E) (h : ∀ (a : Int) (b : Int), (true) = true → ∃ fuel, runF Try.prog impl_functionOfTwo_2.X impl_functionOfTwo_2.A fuel Try.f29 [.d (.int .i64 a), .d (.int .i64 b)] = some ([.one ((.int .i64 (limV (IntKind.wrap .i64 (a - b)))), false)], [])) : CallSpec Try.prog impl_functionOfTwo_2.E :=
  callSpec_of hX (by kernel_rfl) (by kernel_rfl) (by kernel_rfl) (by kernel_rfl) (fun xs hp => by
    dsimp only [impl_functionOfTwo_2.E] at hp ⊢
    split at hp
    · exact h _ _ hp
    · cases hp)
theorem impl_functionOfTwo_2.ok : CallSpec Try.prog impl_functionOfTwo_2.E := impl_functionOfTwo_2.ok_of (by simp [impl_functionOfTwo_2.X, impl_limited.ok]) fun a b _ => ⟨0, by rw [impl_functionOfTwo_2.e]⟩

namespace impl_functionOfTwo_3
def E : Entry := ⟨30, true, false, fun | [.d (.int .i64 a), .d (.int .i64 b)] => true | _ => false, fun | [.d (.int .i64 a), .d (.int .i64 b)] => ([.one ((.int .i64 (limV (IntKind.wrap .i64 (a * b)))), false)], []) | _ => ([], []), fun _ => [], false⟩
end impl_functionOfTwo_3
namespace impl_functionOfTwo_3
noncomputable def X : List Entry := [impl_limited.E]
def A : Ann := ⟨[], [], [], []⟩
theorem e (fuel : Nat) (p0 : Int) (p1 : Int) : runF Try.prog X A fuel Try.f30 [.d (.int .i64 p0), .d (.int .i64 p1)] =
  some ([.one ((.int .i64 (limV ((IntKind.wrap .i64 (p0 * p1))))), false)], []) := by kernel_rfl
end impl_functionOfTwo_3
theorem impl_functionOfTwo_3.ok_of (hX : ∀ E ∈ impl_functionOfTwo_3.X, CallSpec Try.prog E) (h : ∀ (a : Int) (b : Int), (true) = true → ∃ fuel, runF Try.prog impl_functionOfTwo_3.X impl_functionOfTwo_3.A fuel Try.f30 [.d (.int .i64 a), .d (.int .i64 b)] = some ([.one ((.int .i64 (limV (IntKind.wrap .i64 (a * b)))), false)], [])) : CallSpec Try.prog impl_functionOfTwo_3.E :=
  callSpec_of hX (by kernel_rfl) (by kernel_rfl) (by kernel_rfl) (by kernel_rfl) (fun xs hp => by
    dsimp only [impl_functionOfTwo_3.E] at hp ⊢
    split at hp
    · exact h _ _ hp
    · cases hp)
theorem impl_functionOfTwo_3.ok : CallSpec Try.prog impl_functionOfTwo_3.E := impl_functionOfTwo_3.ok_of (by simp [impl_functionOfTwo_3.X, impl_limited.ok]) fun a b _ => ⟨0, by rw [impl_functionOfTwo_3.e]⟩

namespace impl_functionOfTwo_4
def E : Entry := ⟨31, true, false, fun | [.d (.int .i64 a), .d (.int .i64 b)] => true | _ => false, fun | [.d (.int .i64 a), .d (.int .i64 b)] => ([.one ((.int .i64 (minI a b)), false)], []) | _ => ([], []), fun _ => [], false⟩
end impl_functionOfTwo_4
namespace impl_functionOfTwo_4
noncomputable def X : List Entry := []
def A : Ann := ⟨[], [], [], []⟩
theorem e (fuel : Nat) (p0 : Int) (p1 : Int) : runF Try.prog X A fuel Try.f31 [.d (.int .i64 p0), .d (.int .i64 p1)] =
  some ([.one ((.int .i64 (minI p0 p1)), false)], []) := by kernel_rfl
end impl_functionOfTwo_4
theorem impl_functionOfTwo_4.ok_of (hX : ∀ E ∈ impl_functionOfTwo_4.X, CallSpec Try.prog E) (h : ∀ (a : Int) (b : Int), (true) = true → ∃ fuel, runF Try.prog impl_functionOfTwo_4.X impl_functionOfTwo_4.A fuel Try.f31 [.d (.int .i64 a), .d (.int .i64 b)] = some ([.one ((.int .i64 (minI a b)), false)], [])) : CallSpec Try.prog impl_functionOfTwo_4.E :=
  callSpec_of hX (by kernel_rfl) (by kernel_rfl) (by kernel_rfl) (by kernel_rfl) (fun xs hp => by
    dsimp only [impl_functionOfTwo_4.E] at hp ⊢
    split at hp
    · exact h _ _ hp
    · cases hp)
theorem impl_functionOfTwo_4.ok : CallSpec Try.prog impl_functionOfTwo_4.E := impl_functionOfTwo_4.ok_of (by simp [impl_functionOfTwo_4.X]) fun a b _ => ⟨0, by rw [impl_functionOfTwo_4.e]⟩

namespace impl_functionOfTwo_5
def E : Entry := ⟨32, true, false, fun | [.d (.int .i64 a), .d (.int .i64 b)] => true | _ => false, fun | [.d (.int .i64 a), .d (.int .i64 b)] => ([.one ((.int .i64 (maxI a b)), false)], []) | _ => ([], []), fun _ => [], false⟩
end impl_functionOfTwo_5
namespace impl_functionOfTwo_5
noncomputable def X : List Entry := []
def A : Ann := ⟨[], [], [], []⟩
theorem e (fuel : Nat) (p0 : Int) (p1 : Int) : runF Try.prog X A fuel Try.f32 [.d (.int .i64 p0), .d (.int .i64 p1)] =
  some ([.one ((.int .i64 (maxI p0 p1)), false)], []) := by kernel_rfl
end impl_functionOfTwo_5
theorem impl_functionOfTwo_5.ok_of (hX : ∀ E ∈ impl_functionOfTwo_5.X, CallSpec Try.prog E) (h : ∀ (a : Int) (b : Int), (true) = true → ∃ fuel, runF Try.prog impl_functionOfTwo_5.X impl_functionOfTwo_5.A fuel Try.f32 [.d (.int .i64 a), .d (.int .i64 b)] = some ([.one ((.int .i64 (maxI a b)), false)], [])) : CallSpec Try.prog impl_functionOfTwo_5.E :=
  callSpec_of hX (by kernel_rfl) (by kernel_rfl) (by kernel_rfl) (by kernel_rfl) (fun xs hp => by
    dsimp only [impl_functionOfTwo_5.E] at hp ⊢
    split at hp
    · exact h _ _ hp
    · cases hp)
theorem impl_functionOfTwo_5.ok : CallSpec Try.prog impl_functionOfTwo_5.E := impl_functionOfTwo_5.ok_of (by simp [impl_functionOfTwo_5.X]) fun a b _ => ⟨0, by rw [impl_functionOfTwo_5.e]⟩

namespace impl_truth
def E : Entry := ⟨34, true, false, fun | [.d (.bool b)] => true | _ => false, fun | [.d (.bool b)] => ([.one ((.int .i64 (tInt b)), false)], []) | _ => ([], []), fun _ => [], false⟩
end impl_truth
namespace impl_truth
noncomputable def X : List Entry := []
def A : Ann := ⟨[], [], [], []⟩
theorem e (fuel : Nat) (p0 : Bool) : runF Try.prog X A fuel Try.f34 [.d (.bool p0)] =
  (bif p0 then
  some ([.one ((.int .i64 1), false)], [])
  else
  some ([.one ((.int .i64 0), false)], [])) := by kernel_rfl
end impl_truth
theorem impl_truth.ok_of (hX : ∀ E ∈ impl_truth.X, CallSpec Try.prog E) (h : ∀ (b : Bool), (true) = true → ∃ fuel, runF Try.prog impl_truth.X impl_truth.A fuel Try.f34 [.d (.bool b)] = some ([.one ((.int .i64 (tInt b)), false)], [])) : CallSpec Try.prog impl_truth.E :=
  callSpec_of hX (by kernel_rfl) (by kernel_rfl) (by kernel_rfl) (by kernel_rfl) (fun xs hp => by
    dsimp only [impl_truth.E] at hp ⊢
    split at hp
    · exact h _ hp
    · cases hp)
theorem impl_truth.ok : CallSpec Try.prog impl_truth.E := impl_truth.ok_of (by simp [impl_truth.X]) fun b _ => ⟨0, by rw [impl_truth.e]; cases b <;> rfl⟩

namespace impl_functionOfTwo_6
def E : Entry := ⟨33, true, false, fun | [.d (.int .i64 a), .d (.int .i64 b)] => true | _ => false, fun | [.d (.int .i64 a), .d (.int .i64 b)] => ([.one ((.int .i64 (tInt (a == b))), false)], []) | _ => ([], []), fun _ => [], false⟩
end impl_functionOfTwo_6
namespace impl_functionOfTwo_6
noncomputable def X : List Entry := [impl_truth.E]
def A : Ann := ⟨[], [], [], []⟩
theorem e (fuel : Nat) (p0 : Int) (p1 : Int) : runF Try.prog X A fuel Try.f33 [.d (.int .i64 p0), .d (.int .i64 p1)] =
  some ([.one ((.int .i64 (tInt (((p0 : Int) == p1)))), false)], []) := by kernel_rfl
end impl_functionOfTwo_6
theorem impl_functionOfTwo_6.ok_of (hX : ∀ E ∈ impl_functionOfTwo_6.X, CallSpec Try.prog E) (h : ∀ (a : Int) (b : Int), (true) = true → ∃ fuel, runF Try.prog impl_functionOfTwo_6.X impl_functionOfTwo_6.A fuel Try.f33 [.d (.int .i64 a), .d (.int .i64 b)] = some ([.one ((.int .i64 (tInt (a == b))), false)], [])) : CallSpec Try.prog impl_functionOfTwo_6.E :=
  callSpec_of hX (by kernel_rfl) (by kernel_rfl) (by kernel_rfl) (by kernel_rfl) (fun xs hp => by
    dsimp only [impl_functionOfTwo_6.E] at hp ⊢
    split at hp
    · exact h _ _ hp
    · cases hp)
theorem impl_functionOfTwo_6.ok : CallSpec Try.prog impl_functionOfTwo_6.E := impl_functionOfTwo_6.ok_of (by simp [impl_functionOfTwo_6.X, impl_truth.ok]) fun a b _ => ⟨0, by rw [impl_functionOfTwo_6.e]⟩

namespace impl_functionOfTwo_7
def E : Entry := ⟨35, true, false, fun | [.d (.int .i64 a), .d (.int .i64 b)] => true | _ => false, fun | [.d (.int .i64 a), .d (.int .i64 b)] => ([.one ((.int .i64 (tInt (decide (a < b)))), false)], []) | _ => ([], []), fun _ => [], false⟩
end impl_functionOfTwo_7
namespace impl_functionOfTwo_7
noncomputable def X : List Entry := [impl_truth.E]
def A : Ann := ⟨[], [], [], []⟩
theorem e (fuel : Nat) (p0 : Int) (p1 : Int) : runF Try.prog X A fuel Try.f35 [.d (.int .i64 p0), .d (.int .i64 p1)] =
  some ([.one ((.int .i64 (tInt ((decide ((p0 : Int) < p1))))), false)], []) := by kernel_rfl
end impl_functionOfTwo_7
theorem impl_functionOfTwo_7.ok_of (hX : ∀ E ∈ impl_functionOfTwo_7.X, CallSpec Try.prog E) (h : ∀ (a : Int) (b : Int), (true) = true → ∃ fuel, runF Try.prog impl_functionOfTwo_7.X impl_functionOfTwo_7.A fuel Try.f35 [.d (.int .i64 a), .d (.int .i64 b)] = some ([.one ((.int .i64 (tInt (decide (a < b)))), false)], [])) : CallSpec Try.prog impl_functionOfTwo_7.E :=
  callSpec_of hX (by kernel_rfl) (by kernel_rfl) (by kernel_rfl) (by kernel_rfl) (fun xs hp => by
    dsimp only [impl_functionOfTwo_7.E] at hp ⊢
    split at hp
    · exact h _ _ hp
    · cases hp)
theorem impl_functionOfTwo_7.ok : CallSpec Try.prog impl_functionOfTwo_7.E := impl_functionOfTwo_7.ok_of (by simp [impl_functionOfTwo_7.X, impl_truth.ok]) fun a b _ => ⟨0, by rw [impl_functionOfTwo_7.e]⟩

namespace impl_restOf
def E : Entry := ⟨36, true, false, fun | [.d (.int .i64 d), .d (.int .i64 n)] => true | _ => false, fun | [.d (.int .i64 d), .d (.int .i64 n)] => ([.one ((.int .i64 (restV d n)), false)], []) | _ => ([], []), fun _ => [], false⟩
end impl_restOf
namespace impl_restOf
noncomputable def X : List Entry := []
def A : Ann := ⟨[], [], [], []⟩
theorem e (fuel : Nat) (p0 : Int) (p1 : Int) : runF Try.prog X A fuel Try.f36 [.d (.int .i64 p0), .d (.int .i64 p1)] =
  (bif (decide ((p0 : Int) ≤ 0)) then
  some ([.one ((.int .i64 p1), false)], [])
  else
  (bif decide ((p0 : Int) = 0) then
  none
  else
  (bif decide ((p0 : Int) = 0) then
  none
  else
  some ([.one ((.int .i64 (Int.tmod (IntKind.wrap .i64 ((Int.tmod p1 p0) + p0)) p0)), false)], [])))) := by kernel_rfl
end impl_restOf
theorem impl_restOf.ok_of (hX : ∀ E ∈ impl_restOf.X, CallSpec Try.prog E) (h : ∀ (d : Int) (n : Int), (true) = true → ∃ fuel, runF Try.prog impl_restOf.X impl_restOf.A fuel Try.f36 [.d (.int .i64 d), .d (.int .i64 n)] = some ([.one ((.int .i64 (restV d n)), false)], [])) : CallSpec Try.prog impl_restOf.E :=
  callSpec_of hX (by kernel_rfl) (by kernel_rfl) (by kernel_rfl) (by kernel_rfl) (fun xs hp => by
    dsimp only [impl_restOf.E] at hp ⊢
    split at hp
    · exact h _ _ hp
    · cases hp)
theorem impl_restOf.ok : CallSpec Try.prog impl_restOf.E := impl_restOf.ok_of (by simp [impl_restOf.X]) fun d n _ => ⟨0, by
  rw [impl_restOf.e]
  unfold restV
  by_cases h : d ≤ 0
  · rw [decide_eq_true h]; rfl
  · rw [decide_eq_false h, decide_eq_false (p := d = 0) (by omega)]; rfl⟩

namespace impl_functionOfTwo
def E : Entry := ⟨18, true, false, fun | [.d (.int .i64 op)] => true | _ => false, fun | [.d (.int .i64 op)] => ([.one (.nilf, false)], []) | _ => ([], []), fun | [.d (.int .i64 op)] => [(decide (op = 1), ([.one ((.clo 27 []), false)], [])), (decide (op = 2), ([.one ((.clo 29 []), false)], [])), (decide (op = 3), ([.one ((.clo 30 []), false)], [])), (decide (op = 4), ([.one ((.clo 31 []), false)], [])), (decide (op = 5), ([.one ((.clo 32 []), false)], [])), (decide (op = 6), ([.one ((.clo 33 []), false)], [])), (decide (op = 7), ([.one ((.clo 35 []), false)], [])), (decide (op = 8), ([.one ((.clo 36 []), false)], []))] | _ => [], false⟩
end impl_functionOfTwo
namespace impl_functionOfTwo
noncomputable def X : List Entry := []
def A : Ann := ⟨[], [], [], []⟩
theorem e (fuel : Nat) (p0 : Int) : runF Try.prog X A fuel Try.f18 [.d (.int .i64 p0)] =
  (bif (decide ((p0 : Int) < 0)) then
  some ([.one (.nilf, false)], [])
  else
  (bif (decide ((p0 : Int) ≥ 9)) then
  some ([.one (.nilf, false)], [])
  else
  (bif decide (p0 = ((0 : Nat) : Int)) then
  some ([.one (.nilf, false)], [])
  else
  (bif decide (p0 = ((1 : Nat) : Int)) then
  some ([.one ((.clo 27 []), false)], [])
  else
  (bif decide (p0 = ((2 : Nat) : Int)) then
  some ([.one ((.clo 29 []), false)], [])
  else
  (bif decide (p0 = ((3 : Nat) : Int)) then
  some ([.one ((.clo 30 []), false)], [])
  else
  (bif decide (p0 = ((4 : Nat) : Int)) then
  some ([.one ((.clo 31 []), false)], [])
  else
  (bif decide (p0 = ((5 : Nat) : Int)) then
  some ([.one ((.clo 32 []), false)], [])
  else
  (bif decide (p0 = ((6 : Nat) : Int)) then
  some ([.one ((.clo 33 []), false)], [])
  else
  (bif decide (p0 = ((7 : Nat) : Int)) then
  some ([.one ((.clo 35 []), false)], [])
  else
  (bif decide (p0 = ((8 : Nat) : Int)) then
  some ([.one ((.clo 36 []), false)], [])
  else
  none))))))))))) := by kernel_rfl
end impl_functionOfTwo
theorem impl_functionOfTwo.ok_of (hX : ∀ E ∈ impl_functionOfTwo.X, CallSpec Try.prog E) (h : ∀ (op : Int), (true) = true → ∃ fuel, runF Try.prog impl_functionOfTwo.X impl_functionOfTwo.A fuel Try.f18 [.d (.int .i64 op)] = some (bif decide (op = 1) then ([.one ((.clo 27 []), false)], []) else (bif decide (op = 2) then ([.one ((.clo 29 []), false)], []) else (bif decide (op = 3) then ([.one ((.clo 30 []), false)], []) else (bif decide (op = 4) then ([.one ((.clo 31 []), false)], []) else (bif decide (op = 5) then ([.one ((.clo 32 []), false)], []) else (bif decide (op = 6) then ([.one ((.clo 33 []), false)], []) else (bif decide (op = 7) then ([.one ((.clo 35 []), false)], []) else (bif decide (op = 8) then ([.one ((.clo 36 []), false)], []) else ([.one (.nilf, false)], [])))))))))) : CallSpec Try.prog impl_functionOfTwo.E :=
  callSpec_of hX (by kernel_rfl) (by kernel_rfl) (by kernel_rfl) (by kernel_rfl) (fun xs hp => by
    dsimp only [impl_functionOfTwo.E] at hp ⊢
    split at hp
    · exact h _ hp
    · cases hp)
theorem impl_functionOfTwo.ok : CallSpec Try.prog impl_functionOfTwo.E := impl_functionOfTwo.ok_of (by simp [impl_functionOfTwo.X]) fun op _ => ⟨0, by
  rw [impl_functionOfTwo.e]
  cases ho : opOk op with
  | true => rcases opOk_cases ho with rfl | rfl | rfl | rfl | rfl | rfl | rfl | rfl <;> rfl
  | false =>
    have h := opOk_no ho
    rw [decide_eq_false (p := op = 1) (by omega), decide_eq_false (p := op = 2) (by omega), decide_eq_false (p := op = 3) (by omega), decide_eq_false (p := op = 4) (by omega),
      decide_eq_false (p := op = 5) (by omega), decide_eq_false (p := op = 6) (by omega), decide_eq_false (p := op = 7) (by omega), decide_eq_false (p := op = 8) (by omega)]
    by_cases h1 : op < 0
    · rw [decide_eq_true h1]; rfl
    · by_cases h2 : op ≥ 9
      · rw [decide_eq_false h1, decide_eq_true h2]; rfl
      · have : op = 0 := by omega
        subst this
        rfl⟩

namespace impl_isNumber
def E : Entry := ⟨19, true, false, fun | [.d (.int .i64 v)] => true | _ => false, fun | [.d (.int .i64 v)] => ([.one ((.bool (numB v)), false)], []) | _ => ([], []), fun _ => [], false⟩
end impl_isNumber
namespace impl_isNumber
noncomputable def X : List Entry := []
def A : Ann := ⟨[], [], [], []⟩
theorem e (fuel : Nat) (p0 : Int) : runF Try.prog X A fuel Try.f19 [.d (.int .i64 p0)] =
  (bif (decide (((-1000000) : Int) ≤ p0)) then
  some ([.one ((.bool (decide ((p0 : Int) ≤ 1000000))), false)], [])
  else
  some ([.one ((.bool false), false)], [])) := by kernel_rfl
end impl_isNumber
theorem impl_isNumber.ok_of (hX : ∀ E ∈ impl_isNumber.X, CallSpec Try.prog E) (h : ∀ (v : Int), (true) = true → ∃ fuel, runF Try.prog impl_isNumber.X impl_isNumber.A fuel Try.f19 [.d (.int .i64 v)] = some ([.one ((.bool (numB v)), false)], [])) : CallSpec Try.prog impl_isNumber.E :=
  callSpec_of hX (by kernel_rfl) (by kernel_rfl) (by kernel_rfl) (by kernel_rfl) (fun xs hp => by
    dsimp only [impl_isNumber.E] at hp ⊢
    split at hp
    · exact h _ hp
    · cases hp)
theorem impl_isNumber.ok : CallSpec Try.prog impl_isNumber.E := impl_isNumber.ok_of (by simp [impl_isNumber.X]) fun v _ => ⟨0, by
  rw [impl_isNumber.e]
  unfold numB
  cases decide (-1000000 ≤ v) <;> rfl⟩

namespace impl_Operate
def E : Entry := ⟨10, true, false, fun | [.d (.int .i64 op), .d (.int .i64 a), .d (.int .i64 b)] => true | _ => false, fun | [.d (.int .i64 op), .d (.int .i64 a), .d (.int .i64 b)] => ([.one ((.int .i64 (operV op a b)), false)], []) | _ => ([], []), fun _ => [], false⟩
end impl_Operate
namespace impl_Operate
noncomputable def X : List Entry := [impl_functionOfTwo.E, impl_isNumber.E, impl_restOf.E, impl_functionOfTwo_7.E, impl_functionOfTwo_6.E, impl_functionOfTwo_5.E, impl_functionOfTwo_4.E, impl_functionOfTwo_3.E, impl_functionOfTwo_2.E, impl_functionOfTwo_1.E]
def A : Ann := ⟨[], [], [], []⟩
theorem e (fuel : Nat) (p0 : Int) (p1 : Int) (p2 : Int) : runF Try.prog X A fuel Try.f10 [.d (.int .i64 p0), .d (.int .i64 p1), .d (.int .i64 p2)] =
  (bif decide (p0 = 1) then
  (bif (!(numB p1)) then
  some ([.one ((.int .i64 0), false)], [])
  else
  (bif (!(numB p2)) then
  some ([.one ((.int .i64 0), false)], [])
  else
  some ([.one ((.int .i64 (limV (IntKind.wrap .i64 (p1 + p2)))), false)], [])))
  else
  (bif decide (p0 = 2) then
  (bif (!(numB p1)) then
  some ([.one ((.int .i64 0), false)], [])
  else
  (bif (!(numB p2)) then
  some ([.one ((.int .i64 0), false)], [])
  else
  some ([.one ((.int .i64 (limV (IntKind.wrap .i64 (p1 - p2)))), false)], [])))
  else
  (bif decide (p0 = 3) then
  (bif (!(numB p1)) then
  some ([.one ((.int .i64 0), false)], [])
  else
  (bif (!(numB p2)) then
  some ([.one ((.int .i64 0), false)], [])
  else
  some ([.one ((.int .i64 (limV (IntKind.wrap .i64 (p1 * p2)))), false)], [])))
  else
  (bif decide (p0 = 4) then
  (bif (!(numB p1)) then
  some ([.one ((.int .i64 0), false)], [])
  else
  (bif (!(numB p2)) then
  some ([.one ((.int .i64 0), false)], [])
  else
  some ([.one ((.int .i64 (minI p1 p2)), false)], [])))
  else
  (bif decide (p0 = 5) then
  (bif (!(numB p1)) then
  some ([.one ((.int .i64 0), false)], [])
  else
  (bif (!(numB p2)) then
  some ([.one ((.int .i64 0), false)], [])
  else
  some ([.one ((.int .i64 (maxI p1 p2)), false)], [])))
  else
  (bif decide (p0 = 6) then
  (bif (!(numB p1)) then
  some ([.one ((.int .i64 0), false)], [])
  else
  (bif (!(numB p2)) then
  some ([.one ((.int .i64 0), false)], [])
  else
  some ([.one ((.int .i64 (tInt (p1 == p2))), false)], [])))
  else
  (bif decide (p0 = 7) then
  (bif (!(numB p1)) then
  some ([.one ((.int .i64 0), false)], [])
  else
  (bif (!(numB p2)) then
  some ([.one ((.int .i64 0), false)], [])
  else
  some ([.one ((.int .i64 (tInt (decide (p1 < p2)))), false)], [])))
  else
  (bif decide (p0 = 8) then
  (bif (!(numB p1)) then
  some ([.one ((.int .i64 0), false)], [])
  else
  (bif (!(numB p2)) then
  some ([.one ((.int .i64 0), false)], [])
  else
  some ([.one ((.int .i64 (restV p1 p2)), false)], [])))
  else
  some ([.one ((.int .i64 0), false)], []))))))))) := by kernel_rfl
end impl_Operate
theorem impl_Operate.ok_of (hX : ∀ E ∈ impl_Operate.X, CallSpec Try.prog E) (h : ∀ (op : Int) (a : Int) (b : Int), (true) = true → ∃ fuel, runF Try.prog impl_Operate.X impl_Operate.A fuel Try.f10 [.d (.int .i64 op), .d (.int .i64 a), .d (.int .i64 b)] = some ([.one ((.int .i64 (operV op a b)), false)], [])) : CallSpec Try.prog impl_Operate.E :=
  callSpec_of hX (by kernel_rfl) (by kernel_rfl) (by kernel_rfl) (by kernel_rfl) (fun xs hp => by
    dsimp only [impl_Operate.E] at hp ⊢
    split at hp
    · exact h _ _ _ hp
    · cases hp)
theorem impl_Operate.ok : CallSpec Try.prog impl_Operate.E := impl_Operate.ok_of (by simp [impl_Operate.X, impl_functionOfTwo.ok, impl_isNumber.ok, impl_restOf.ok, impl_functionOfTwo_1.ok, impl_functionOfTwo_2.ok, impl_functionOfTwo_3.ok, impl_functionOfTwo_4.ok, impl_functionOfTwo_5.ok, impl_functionOfTwo_6.ok, impl_functionOfTwo_7.ok]) fun op a b _ => ⟨0, by
  rw [impl_Operate.e]
  unfold operV
  cases ho : opOk op with
  | true =>
    rcases opOk_cases ho with rfl | rfl | rfl | rfl | rfl | rfl | rfl | rfl <;> cases numB a <;> cases numB b <;> rfl
  | false =>
    have h := opOk_no ho
    rw [decide_eq_false (p := op = 1) (by omega), decide_eq_false (p := op = 2) (by omega), decide_eq_false (p := op = 3) (by omega), decide_eq_false (p := op = 4) (by omega),
      decide_eq_false (p := op = 5) (by omega), decide_eq_false (p := op = 6) (by omega), decide_eq_false (p := op = 7) (by omega), decide_eq_false (p := op = 8) (by omega)]
    rfl⟩

namespace laws_FnExactOperate
def E : Entry := ⟨3, true, false, fun | [.d (.int .i64 op), .d (.int .i64 a), .d (.int .i64 b)] => true | _ => false, fun | [.d (.int .i64 op), .d (.int .i64 a), .d (.int .i64 b)] => ([.one ((.bool true), false)], []) | _ => ([], []), fun _ => [], false⟩
end laws_FnExactOperate
namespace laws_FnExactOperate
noncomputable def X : List Entry := [spec_Operate.E, impl_Operate.E]
def A : Ann := ⟨[], [], [], []⟩
theorem e (fuel : Nat) (p0 : Int) (p1 : Int) (p2 : Int) : runF Try.prog X A fuel Try.f3 [.d (.int .i64 p0), .d (.int .i64 p1), .d (.int .i64 p2)] =
  (bif (((operV p0 p1 p2) : Int) != (operV p0 p1 p2)) then
  some ([.one ((.bool false), false)], [])
  else
  some ([.one ((.bool true), false)], [])) := by kernel_rfl
end laws_FnExactOperate
theorem laws_FnExactOperate.ok_of (hX : ∀ E ∈ laws_FnExactOperate.X, CallSpec Try.prog E) (h : ∀ (op : Int) (a : Int) (b : Int), (true) = true → ∃ fuel, runF Try.prog laws_FnExactOperate.X laws_FnExactOperate.A fuel Try.f3 [.d (.int .i64 op), .d (.int .i64 a), .d (.int .i64 b)] = some ([.one ((.bool true), false)], [])) : CallSpec Try.prog laws_FnExactOperate.E :=
  callSpec_of hX (by kernel_rfl) (by kernel_rfl) (by kernel_rfl) (by kernel_rfl) (fun xs hp => by
    dsimp only [laws_FnExactOperate.E] at hp ⊢
    split at hp
    · exact h _ _ _ hp
    · cases hp)
theorem laws_FnExactOperate.ok : CallSpec Try.prog laws_FnExactOperate.E := laws_FnExactOperate.ok_of (by simp [laws_FnExactOperate.X, spec_Operate.ok, impl_Operate.ok]) fun op a b _ => ⟨0, by rw [laws_FnExactOperate.e]; simp only [bne_self_eq_false, cond_false]⟩

namespace spec_neutral
def E : Entry := ⟨20, true, false, fun | [.d (.int .i64 op)] => opOk op | _ => false, fun | [.d (.int .i64 op)] => ([.one ((.int .i64 (neuF op)), false)], []) | _ => ([], []), fun _ => [], false⟩
end spec_neutral
namespace spec_neutral
noncomputable def X : List Entry := []
def A : Ann := ⟨[], [], [], []⟩
theorem e (fuel : Nat) (p0 : Int) : runF Try.prog X A fuel Try.f20 [.d (.int .i64 p0)] =
  (idx (IntKind.wrap .i64 (p0 - 1)) [0, 0, 1, 1000000, (-1000000), 1, 0, 0].length).bind fun k1 =>
  ([0, 0, 1, 1000000, (-1000000), 1, 0, 0][k1]?).bind fun v2 =>
  some ([.one ((.int .i64 v2), false)], []) := by kernel_rfl
end spec_neutral
theorem spec_neutral.ok_of (hX : ∀ E ∈ spec_neutral.X, CallSpec Try.prog E) (h : ∀ (op : Int), (opOk op) = true → ∃ fuel, runF Try.prog spec_neutral.X spec_neutral.A fuel Try.f20 [.d (.int .i64 op)] = some ([.one ((.int .i64 (neuF op)), false)], [])) : CallSpec Try.prog spec_neutral.E :=
  callSpec_of hX (by kernel_rfl) (by kernel_rfl) (by kernel_rfl) (by kernel_rfl) (fun xs hp => by
    dsimp only [spec_neutral.E] at hp ⊢
    split at hp
    · exact h _ hp
    · cases hp)
theorem spec_neutral.ok : CallSpec Try.prog spec_neutral.E := spec_neutral.ok_of (by simp [spec_neutral.X]) fun op h => ⟨0, by
  rw [spec_neutral.e]
  rcases opOk_cases h with rfl | rfl | rfl | rfl | rfl | rfl | rfl | rfl <;> rfl⟩

namespace spec_NeutralOf
def E : Entry := ⟨11, true, false, fun | [.d (.int .i64 op)] => true | _ => false, fun | [.d (.int .i64 op)] => ([.one ((.int .i64 (neuV op)), false)], []) | _ => ([], []), fun _ => [], false⟩
end spec_NeutralOf
namespace spec_NeutralOf
noncomputable def X : List Entry := [spec_validOp.E, spec_neutral.E]
def A : Ann := ⟨[], [], [], []⟩
theorem e (fuel : Nat) (p0 : Int) : runF Try.prog X A fuel Try.f11 [.d (.int .i64 p0)] =
  (bif (!(opOk p0)) then
  some ([.one ((.int .i64 0), false)], [])
  else
  (bif opOk p0 then
  some ([.one ((.int .i64 (neuF p0)), false)], [])
  else
  none)) := by kernel_rfl
end spec_NeutralOf
theorem spec_NeutralOf.ok_of (hX : ∀ E ∈ spec_NeutralOf.X, CallSpec Try.prog E) (h : ∀ (op : Int), (true) = true → ∃ fuel, runF Try.prog spec_NeutralOf.X spec_NeutralOf.A fuel Try.f11 [.d (.int .i64 op)] = some ([.one ((.int .i64 (neuV op)), false)], [])) : CallSpec Try.prog spec_NeutralOf.E :=
  callSpec_of hX (by kernel_rfl) (by kernel_rfl) (by kernel_rfl) (by kernel_rfl) (fun xs hp => by
    dsimp only [spec_NeutralOf.E] at hp ⊢
    split at hp
    · exact h _ hp
    · cases hp)
theorem spec_NeutralOf.ok : CallSpec Try.prog spec_NeutralOf.E := spec_NeutralOf.ok_of (by simp [spec_NeutralOf.X, spec_validOp.ok, spec_neutral.ok]) fun op _ => ⟨0, by
  rw [spec_NeutralOf.e]
  unfold neuV
  cases opOk op <;> rfl⟩

namespace impl_NeutralOf
def E : Entry := ⟨12, true, false, fun | [.d (.int .i64 op)] => true | _ => false, fun | [.d (.int .i64 op)] => ([.one ((.int .i64 (neuV op)), false)], []) | _ => ([], []), fun _ => [], false⟩
end impl_NeutralOf
namespace impl_NeutralOf
noncomputable def X : List Entry := []
def A : Ann := ⟨[], [], [], []⟩
theorem e (fuel : Nat) (p0 : Int) : runF Try.prog X A fuel Try.f12 [.d (.int .i64 p0)] =
  (bif ((p0 : Int) == 3) then
  some ([.one ((.int .i64 1), false)], [])
  else
  (bif ((p0 : Int) == 6) then
  some ([.one ((.int .i64 1), false)], [])
  else
  (bif ((p0 : Int) == 4) then
  some ([.one ((.int .i64 1000000), false)], [])
  else
  (bif ((p0 : Int) == 5) then
  some ([.one ((.int .i64 (-1000000)), false)], [])
  else
  some ([.one ((.int .i64 0), false)], []))))) := by kernel_rfl
end impl_NeutralOf
theorem impl_NeutralOf.ok_of (hX : ∀ E ∈ impl_NeutralOf.X, CallSpec Try.prog E) (h : ∀ (op : Int), (true) = true → ∃ fuel, runF Try.prog impl_NeutralOf.X impl_NeutralOf.A fuel Try.f12 [.d (.int .i64 op)] = some ([.one ((.int .i64 (neuV op)), false)], [])) : CallSpec Try.prog impl_NeutralOf.E :=
  callSpec_of hX (by kernel_rfl) (by kernel_rfl) (by kernel_rfl) (by kernel_rfl) (fun xs hp => by
    dsimp only [impl_NeutralOf.E] at hp ⊢
    split at hp
    · exact h _ hp
    · cases hp)
theorem impl_NeutralOf.ok : CallSpec Try.prog impl_NeutralOf.E := impl_NeutralOf.ok_of (by simp [impl_NeutralOf.X]) fun op _ => ⟨0, by
  rw [impl_NeutralOf.e]
  unfold neuV
  cases ho : opOk op with
  | true => rcases opOk_cases ho with rfl | rfl | rfl | rfl | rfl | rfl | rfl | rfl <;> rfl
  | false =>
    have h := opOk_no ho
    rw [show (op == 3) = false by simp; omega, show (op == 6) = false by simp; omega, show (op == 4) = false by simp; omega, show (op == 5) = false by simp; omega]
    rfl⟩

namespace laws_FnExactNeutralOf
def E : Entry := ⟨4, true, false, fun | [.d (.int .i64 op)] => true | _ => false, fun | [.d (.int .i64 op)] => ([.one ((.bool true), false)], []) | _ => ([], []), fun _ => [], false⟩
end laws_FnExactNeutralOf
namespace laws_FnExactNeutralOf
noncomputable def X : List Entry := [spec_NeutralOf.E, impl_NeutralOf.E]
def A : Ann := ⟨[], [], [], []⟩
theorem e (fuel : Nat) (p0 : Int) : runF Try.prog X A fuel Try.f4 [.d (.int .i64 p0)] =
  (bif (((neuV p0) : Int) != (neuV p0)) then
  some ([.one ((.bool false), false)], [])
  else
  some ([.one ((.bool true), false)], [])) := by kernel_rfl
end laws_FnExactNeutralOf
theorem laws_FnExactNeutralOf.ok_of (hX : ∀ E ∈ laws_FnExactNeutralOf.X, CallSpec Try.prog E) (h : ∀ (op : Int), (true) = true → ∃ fuel, runF Try.prog laws_FnExactNeutralOf.X laws_FnExactNeutralOf.A fuel Try.f4 [.d (.int .i64 op)] = some ([.one ((.bool true), false)], [])) : CallSpec Try.prog laws_FnExactNeutralOf.E :=
  callSpec_of hX (by kernel_rfl) (by kernel_rfl) (by kernel_rfl) (by kernel_rfl) (fun xs hp => by
    dsimp only [laws_FnExactNeutralOf.E] at hp ⊢
    split at hp
    · exact h _ hp
    · cases hp)
theorem laws_FnExactNeutralOf.ok : CallSpec Try.prog laws_FnExactNeutralOf.E := laws_FnExactNeutralOf.ok_of (by simp [laws_FnExactNeutralOf.X, spec_NeutralOf.ok, impl_NeutralOf.ok]) fun op _ => ⟨0, by rw [laws_FnExactNeutralOf.e]; simp only [bne_self_eq_false, cond_false]⟩

end Go.Ab
