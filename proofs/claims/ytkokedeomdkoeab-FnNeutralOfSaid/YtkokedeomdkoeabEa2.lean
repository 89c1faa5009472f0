import Derived.Test.YtkokedeomdkoeabAbLaw
import Derived.Test.YtkokedeomdkoeabProg
import Derived.Test.YtkokedeomdkoeabChecked
open Go Go.Ab Go.Proofs
set_option maxRecDepth 100000
set_option linter.unusedVariables false
set_option linter.unusedSimpArgs false
namespace Go.Ab
/-- What is left of a mark: k, k + 1, and so on. -/
def markL : List Int → Int → List Int
  | [], _ => []
  | _ :: xs, k => k :: markL xs (IntKind.wrap .i64 (k + 1))
def markK : List Int → Int → Int
  | [], k => k
  | _ :: xs, k => markK xs (IntKind.wrap .i64 (k + 1))
def heldL : List Int → Int → Int
  | [], k => k
  | x :: xs, k => bif x != k then -1 else heldL xs (IntKind.wrap .i64 (k + 1))
def heldA (sh da : List Int) (k : Int) : Int := bif decide (heldL sh k < 0) then -1 else bif decide (heldL da (heldL sh k) < 0) then -1 else heldL da (heldL sh k)
def numB (v : Int) : Bool := decide (-1000000 ≤ v) && decide (v ≤ 1000000)
def scalL (v : Int) : List Int := bif numB v then [v] else []
abbrev nilI : List Int := []

theorem idx_nat {j n : Nat} (h : j < n) : idx (j : Int) n = some j := by simp [idx, h]
theorem w1 {j : Nat} (h : j < 9223372036854775807) : IntKind.wrap .i64 ((j : Int) + 1) = ((j + 1 : Nat) : Int) := by rw [IntKind.wrap_i64]; omega
theorem dlt {j n : Nat} (h : j < n) : decide ((j : Int) < ((n : Nat) : Int)) = true := by simp [h]
theorem dge {j n : Nat} (h : ¬ j < n) : decide ((j : Int) < ((n : Nat) : Int)) = false := by simp; omega
theorem getS {xs : List Int} {j : Nat} (h : j < xs.length) : xs[j]? = some xs[j] := List.getElem?_eq_getElem h
theorem dropS {xs : List Int} {j : Nat} (h : j < xs.length) : xs.drop j = xs[j] :: xs.drop (j + 1) := List.drop_eq_getElem_cons h
theorem dropE {xs : List Int} {j : Nat} (h : ¬ j < xs.length) : xs.drop j = [] := List.drop_eq_nil_of_le (by omega)
theorem markL_length (xs : List Int) (k : Int) : (markL xs k).length = xs.length := by
  induction xs generalizing k with
  | nil => rfl
  | cons x xs ih => simp [markL, ih]
end Go.Ab
namespace Go.Ab
def szB (xs : List Int) : Bool := decide (xs.length ≤ 1099511627776)
def szI (xs : List Int) (left : Int) : Int := bif decide (IntKind.wrap .i64 (left - ((xs.length : Nat) : Int)) < 0) then -1 else IntKind.wrap .i64 (left - ((xs.length : Nat) : Int))
def szA (sh da : List Int) (left : Int) : Int := bif decide (szI sh left < 0) then -1 else bif decide (szI da (szI sh left) < 0) then -1 else szI da (szI sh left)
def allB (xs : List Int) (lo hi : Int) : Bool := xs.all fun v => decide (lo ≤ v) && decide (v ≤ hi)
def volFrom : List Int → Int → Int
  | [], n => n
  | x :: xs, n => volFrom xs (IntKind.wrap .i64 (n * x))
def volW (xs : List Int) : Int := volFrom xs 1
def validS (sh : List Int) : Bool := decide (((sh.length : Nat) : Int) ≤ 3) && allB sh 0 60 && decide (volW sh ≤ 60)
def validA (sh da : List Int) : Bool := validS sh && (((da.length : Nat) : Int) == volW sh) && allB da (-1000000) 1000000
def rankV (sh da : List Int) : Int := bif validA sh da then ((sh.length : Nat) : Int) else -1
def sizeV (sh da : List Int) : Int := bif validA sh da then ((da.length : Nat) : Int) else -1
def strd (sh : List Int) (k : Nat) : Int := bif decide (k < sh.length) then volW (sh.drop (k + 1)) else 0
def cntOk (n : Int) : Bool := decide (0 ≤ n) && decide (n ≤ 60)
def cntS (n : Int) : List Int := bif cntOk n then [n] else []
def cntD (n : Int) : List Int := bif cntOk n then (List.range n.toNat).map Int.ofNat else []
def vecOk (xs : List Int) : Bool := decide (xs.length ≤ 60) && allB xs (-1000000) 1000000
def vecS (xs : List Int) : List Int := bif vecOk xs then [((xs.length : Nat) : Int)] else []
def vecD (xs : List Int) : List Int := bif vecOk xs then xs else []

theorem szB_lt {xs : List Int} (h : szB xs = true) : xs.length < 9223372036854775808 := by
  have := of_decide_eq_true h; omega
theorem szB_le {xs : List Int} (h : szB xs = true) : xs.length ≤ 1099511627776 := of_decide_eq_true h
theorem szB_of {xs : List Int} (h : xs.length ≤ 1099511627776) : szB xs = true := decide_eq_true h
theorem lt_of {xs : List Int} (h : xs.length < 9223372036854775808) : decide (xs.length < 9223372036854775808) = true := decide_eq_true h
theorem wS {x : Int} (h1 : -9223372036854775808 ≤ x) (h2 : x ≤ 9223372036854775807) : IntKind.wrap .i64 x = x := by rw [IntKind.wrap_i64]; omega
theorem mkOk {n : Int} (h0 : 0 ≤ n) (h : n ≤ 1099511627776) : (decide (0 ≤ n) && decide (n ≤ n) && decide (n ≤ 1152921504606846976) && decide (((8 : Nat) : Int) * n ≤ 281474976710656)) = true := by
  simp; omega
theorem fitsOk {n : Nat} (h : n ≤ 4398046511104) : fits n 8 = true := by simp [fits]; omega
theorem copyL_all (xs : List Int) : copyL (List.replicate xs.length 0) 0 (List.replicate xs.length (0 : Int)).length xs = xs := by
  simp [copyL, spl]
theorem take_set_succ {xs out : List Int} {j : Nat} (hj : j < xs.length) (h2 : j < out.length) (h : out.take j = xs.take j) : (out.set j xs[j]).take (j + 1) = xs.take (j + 1) := by
  rw [List.take_add_one, List.take_add_one, List.take_set, List.set_eq_of_length_le (by simp; omega), h]
  simp [h2, hj]
theorem mul60 {a b : Int} (ha : 0 ≤ a) (ha' : a ≤ 60) (hb : 0 ≤ b) (hb' : b ≤ 60) : 0 ≤ a * b ∧ a * b ≤ 3600 :=
  ⟨Int.mul_nonneg ha hb, Int.le_trans (Int.mul_le_mul ha' hb' hb (by omega)) (by omega)⟩
theorem mul3600 {a b : Int} (ha : 0 ≤ a) (ha' : a ≤ 3600) (hb : 0 ≤ b) (hb' : b ≤ 60) : 0 ≤ a * b ∧ a * b ≤ 216000 :=
  ⟨Int.mul_nonneg ha hb, Int.le_trans (Int.mul_le_mul ha' hb' hb (by omega)) (by omega)⟩
theorem allB_nil (lo hi : Int) : allB [] lo hi = true := rfl
theorem allB_cons (x : Int) (xs : List Int) (lo hi : Int) : allB (x :: xs) lo hi = ((decide (lo ≤ x) && decide (x ≤ hi)) && allB xs lo hi) := rfl
theorem numB_eq (v : Int) : numB v = (decide (-1000000 ≤ v) && decide (v ≤ 1000000)) := rfl
theorem szI_small {xs : List Int} {left : Int} (h0 : 0 ≤ left) (h1 : left ≤ 1048576) (hx : xs.length < 9223372036854775808) : szI xs left = bif decide (left < ((xs.length : Nat) : Int)) then -1 else left - ((xs.length : Nat) : Int) := by
  unfold szI
  rw [wS (by omega) (by omega)]
  by_cases h : left < ((xs.length : Nat) : Int)
  · have h' : left - ((xs.length : Nat) : Int) < 0 := by omega
    simp [h, h']
  · have h' : ¬ left - ((xs.length : Nat) : Int) < 0 := by omega
    simp [h, h']
/-- What a law's guard says. -/
theorem szA_small {sh da : List Int} (h1 : sh.length < 9223372036854775808) (h2 : da.length < 9223372036854775808) (h : ¬ szA sh da 1048576 < 0) : sh.length + da.length ≤ 1048576 := by
  unfold szA at h
  rw [szI_small (by omega) (by omega) h1] at h
  by_cases ha : (1048576 : Int) < ((sh.length : Nat) : Int)
  · simp [ha] at h
  · simp only [ha, decide_false, cond_false] at h
    rw [szI_small (by omega) (by omega) h2] at h
    by_cases hb : (1048576 - ((sh.length : Nat) : Int)) < ((da.length : Nat) : Int)
    · simp only [hb, decide_true, cond_true] at h
      have hneg : ¬ (1048576 - ((sh.length : Nat) : Int) < 0) := by omega
      simp [hneg] at h
    · omega
end Go.Ab
namespace Go.Ab
theorem markK_eq : ∀ (xs : List Int) (k : Int), 0 ≤ k → k + xs.length < 4611686018427387904 → markK xs k = k + ((xs.length : Nat) : Int)
  | [], k, _, _ => by simp [markK]
  | x :: xs, k, h0, h1 => by
    simp only [List.length_cons] at h1
    simp only [markK]
    rw [wS (by omega) (by omega), markK_eq xs (k + 1) (by omega) (by omega)]
    simp only [List.length_cons]
    omega
theorem heldL_mark : ∀ (xs : List Int) (k : Int), 0 ≤ k → k + xs.length < 4611686018427387904 → heldL (markL xs k) k = k + ((xs.length : Nat) : Int)
  | [], k, _, _ => by simp [markL, heldL]
  | x :: xs, k, h0, h1 => by
    simp only [List.length_cons] at h1
    simp only [markL, heldL, bne_self_eq_false, cond_false]
    rw [wS (by omega) (by omega), heldL_mark xs (k + 1) (by omega) (by omega)]
    simp only [List.length_cons]
    omega
theorem mark1_ok {xs : List Int} (h : xs.length ≤ 4398046511104) : decide (markK xs 1 < 0) = false := by
  rw [markK_eq xs 1 (by omega) (by omega)]; simp; omega
/-- What the marks of an array's memory say: nothing is shared. -/
theorem marks_ok {sh da : List Int} (h1 : sh.length ≤ 1099511627776) (h2 : da.length ≤ 1099511627776) :
    decide (sh.length < 9223372036854775808) = true ∧ decide (da.length < 9223372036854775808) = true ∧ decide ((markL sh 1).length < 9223372036854775808) = true ∧
    decide ((markL da (markK sh 1)).length < 9223372036854775808) = true ∧ heldA (markL sh 1) (markL da (markK sh 1)) 1 = markK da (markK sh 1) ∧ decide (markK da (markK sh 1) < 0) = false := by
  have e1 := markK_eq sh 1 (by omega) (by omega)
  have e2 := markK_eq da (1 + ((sh.length : Nat) : Int)) (by omega) (by omega)
  have e3 := heldL_mark sh 1 (by omega) (by omega)
  have e4 := heldL_mark da (1 + ((sh.length : Nat) : Int)) (by omega) (by omega)
  refine ⟨decide_eq_true (by omega), decide_eq_true (by omega), by rw [markL_length]; exact decide_eq_true (by omega), by rw [markL_length]; exact decide_eq_true (by omega), ?_, by rw [e1, e2]; exact decide_eq_false (by omega)⟩
  unfold heldA
  rw [e1, e3, e4, e2, decide_eq_false (by omega), decide_eq_false (by omega)]
  rfl
theorem cnt_len (n : Int) : (cntS n).length ≤ 1 ∧ (cntD n).length ≤ 60 := by
  unfold cntS cntD
  cases h : cntOk n with
  | false => simp
  | true =>
    have : 0 ≤ n ∧ n ≤ 60 := by simpa [cntOk] using h
    simp; omega
theorem vec_len (xs : List Int) : (vecS xs).length ≤ 1 ∧ (vecD xs).length ≤ 60 := by
  unfold vecS vecD
  cases h : vecOk xs with
  | false => simp
  | true =>
    have : xs.length ≤ 60 := by simp [vecOk] at h; exact h.1
    simp; omega
end Go.Ab
namespace Go.Ab
/-- A list by a rule. -/
def tab (n : Nat) (f : Nat → Int) : List Int := (List.range n).map f
theorem tab_length (n : Nat) (f : Nat → Int) : (tab n f).length = n := by simp [tab]
theorem tab_succ (n : Nat) (f : Nat → Int) : tab (n + 1) f = tab n f ++ [f n] := by simp [tab, List.range_succ]
theorem tab_get {n : Nat} {f : Nat → Int} {i : Nat} (h : i < n) : (tab n f)[i]? = some (f i) := by simp [tab, h]
theorem tab_getD {n : Nat} {f : Nat → Int} {i : Nat} (h : i < n) : (tab n f).getD i 0 = f i := by simp [tab, h]
theorem tab_congr {n : Nat} {f g : Nat → Int} (h : ∀ i, i < n → f i = g i) : tab n f = tab n g := by
  unfold tab
  exact List.map_congr_left fun i hi => h i (by simpa using hi)
theorem tab_self (xs : List Int) : tab xs.length (fun i => xs.getD i 0) = xs := by
  apply List.ext_getElem?
  intro i
  by_cases h : i < xs.length
  · rw [tab_get h]; simp [h]
  · rw [List.getElem?_eq_none (by rw [tab_length]; omega), List.getElem?_eq_none (by omega)]
/-- A row that is filled from the front. -/
theorem fill_step {n j : Nat} {f : Nat → Int} {out : List Int} (hj : j < n) (hl : out.length = n) (h : out.take j = tab j f) : (out.set j (f j)).take (j + 1) = tab (j + 1) f := by
  rw [tab_succ, ← h, List.take_add_one, List.take_set, List.set_eq_of_length_le (by simp; omega)]
  have : j < out.length := by omega
  simp [this]
/-- A number that is left as it is. -/
theorem fill_keep {n j : Nat} {f : Nat → Int} {out : List Int} (hj : j < n) (hl : out.length = n) (h : out.take j = tab j f) (h2 : out[j]? = some (f j)) : out.take (j + 1) = tab (j + 1) f := by
  rw [tab_succ, ← h, List.take_add_one, h2]
  rfl
theorem fill_end {n : Nat} {f : Nat → Int} {out : List Int} (hl : out.length = n) (h : out.take n = tab n f) : out = tab n f := by
  rw [← h, List.take_of_length_le (by omega)]
theorem divmod {a b c : Nat} (h : c < b) : (a * b + c) / b = a ∧ (a * b + c) % b = c := by
  constructor
  · rw [Nat.add_comm, Nat.add_mul_div_right _ _ (by omega), Nat.div_eq_of_lt h, Nat.zero_add]
  · rw [Nat.add_comm, Nat.add_mul_mod_self_right, Nat.mod_eq_of_lt h]
end Go.Ab
namespace Go.Ab
def offW : List Int → List Int → Int → Int
  | [], _, n => n
  | _ :: _, [], n => n
  | s :: sh, p :: pl, n => offW sh pl (IntKind.wrap .i64 (IntKind.wrap .i64 (n * s) + p))
def isPl : List Int → List Int → Bool
  | [], [] => true
  | s :: sh, p :: pl => (decide (0 ≤ p) && decide (p ≤ IntKind.wrap .i64 (s - 1))) && isPl sh pl
  | _, _ => false
def offS (sh pl : List Int) : Int := bif validS sh && isPl sh pl then offW sh pl 0 else -1
def offA (sh da pl : List Int) : Int := bif validA sh da then offS sh pl else -1
def itemB (sh da pl : List Int) : Bool := validA sh da && isPl sh pl
def itemV (sh da pl : List Int) : Int := bif itemB sh da pl then da.getD (offW sh pl 0).toNat 0 else 0
def withB (sh da pl : List Int) (n : Int) : Bool := itemB sh da pl && numB n
def withS (sh da pl : List Int) (n : Int) : List Int := bif withB sh da pl n then sh else []
def withD (sh da pl : List Int) (n : Int) : List Int := bif withB sh da pl n then da.set (offW sh pl 0).toNat n else []

theorem isPl_len : ∀ {sh pl : List Int}, isPl sh pl = true → pl.length = sh.length
  | [], [], _ => rfl
  | [], _ :: _, h => by simp [isPl] at h
  | _ :: _, [], h => by simp [isPl] at h
  | s :: sh, p :: pl, h => by
    simp only [isPl, Bool.and_eq_true] at h
    simp [isPl_len h.2]
theorem isPl_ne {sh pl : List Int} (h : pl.length ≠ sh.length) : isPl sh pl = false := by
  cases hb : isPl sh pl with
  | false => rfl
  | true => exact absurd (isPl_len hb) h
theorem validS_inv {sh : List Int} (h : validS sh = true) : sh.length ≤ 3 ∧ allB sh 0 60 = true ∧ volW sh ≤ 60 := by
  simp only [validS, Bool.and_eq_true, decide_eq_true_eq] at h
  exact ⟨by omega, h.1.2, h.2⟩
theorem horner {a b p q : Int} (hp : 0 ≤ p) (hp2 : p < a) (hq : 0 ≤ q) (hq2 : q < b) : 0 ≤ p * b + q ∧ p * b + q < a * b := by
  have h1 : 0 ≤ p * b := Int.mul_nonneg hp (by omega)
  have h2 : (p + 1) * b ≤ a * b := Int.mul_le_mul_of_nonneg_right (by omega) (by omega)
  rw [Int.add_mul, Int.one_mul] at h2
  omega
/-- A valid shape, by its number of axes. -/
theorem validS_cases {sh : List Int} (h : validS sh = true) : sh = [] ∨ (∃ a, sh = [a] ∧ 0 ≤ a ∧ a ≤ 60) ∨ (∃ a b, sh = [a, b] ∧ 0 ≤ a ∧ a ≤ 60 ∧ 0 ≤ b ∧ b ≤ 60 ∧ a * b ≤ 60) ∨
    ∃ a b c, sh = [a, b, c] ∧ 0 ≤ a ∧ a ≤ 60 ∧ 0 ≤ b ∧ b ≤ 60 ∧ 0 ≤ c ∧ c ≤ 60 ∧ a * b * c ≤ 60 := by
  obtain ⟨h1, h2, h3⟩ := validS_inv h
  match sh, h1, h2, h3 with
  | [], _, _, _ => exact .inl rfl
  | [a], _, h2, h3 =>
    simp only [allB_cons, allB_nil, Bool.and_true, Bool.and_eq_true, decide_eq_true_eq] at h2
    exact .inr (.inl ⟨a, rfl, h2.1, h2.2⟩)
  | [a, b], _, h2, h3 =>
    simp only [allB_cons, allB_nil, Bool.and_true, Bool.and_eq_true, decide_eq_true_eq] at h2
    have hm := mul60 h2.1.1 h2.1.2 h2.2.1 h2.2.2
    simp only [volW, volFrom, Int.one_mul, wS (x := a) (by omega) (by omega), wS (x := a * b) (by omega) (by omega)] at h3
    exact .inr (.inr (.inl ⟨a, b, rfl, h2.1.1, h2.1.2, h2.2.1, h2.2.2, h3⟩))
  | [a, b, c], _, h2, h3 =>
    simp only [allB_cons, allB_nil, Bool.and_true, Bool.and_eq_true, decide_eq_true_eq] at h2
    have hm := mul60 h2.1.1 h2.1.2 h2.2.1.1 h2.2.1.2
    have hm3 := mul3600 hm.1 hm.2 h2.2.2.1 h2.2.2.2
    simp only [volW, volFrom, Int.one_mul, wS (x := a) (by omega) (by omega), wS (x := a * b) (by omega) (by omega), wS (x := a * b * c) (by omega) (by omega)] at h3
    exact .inr (.inr (.inr ⟨a, b, c, rfl, h2.1.1, h2.1.2, h2.2.1.1, h2.2.1.2, h2.2.2.1, h2.2.2.2, h3⟩))
  | _ :: _ :: _ :: _ :: _, h1, _, _ => simp at h1
/-- The number of a place, without wraps, and where it lies. -/
theorem off_bd {sh pl : List Int} (h : validS sh = true) (hp : isPl sh pl = true) : 0 ≤ offW sh pl 0 ∧ offW sh pl 0 < volW sh := by
  have hl := isPl_len hp
  rcases validS_cases h with rfl | ⟨a, rfl, a0, a1⟩ | ⟨a, b, rfl, a0, a1, b0, b1, v⟩ | ⟨a, b, c, rfl, a0, a1, b0, b1, c0, c1, v⟩
  · match pl, hl with
    | [], _ => decide
  · match pl, hl with
    | [p], _ =>
      simp only [isPl, Bool.and_true, Bool.and_eq_true, decide_eq_true_eq, wS (x := a - 1) (by omega) (by omega)] at hp
      simp only [offW, volW, volFrom, Int.zero_mul, Int.one_mul, wS (x := a) (by omega) (by omega)]
      rw [wS (x := 0) (by omega) (by omega), Int.zero_add, wS (x := p) (by omega) (by omega)]
      omega
  · match pl, hl with
    | [p, q], _ =>
      simp only [isPl, Bool.and_true, Bool.and_eq_true, decide_eq_true_eq, wS (x := a - 1) (by omega) (by omega), wS (x := b - 1) (by omega) (by omega)] at hp
      have hh := horner (a := a) (b := b) hp.1.1 (by omega) hp.2.1 (by omega)
      have hpb := mul60 (a := p) (b := b) hp.1.1 (by omega) b0 b1
      simp only [offW, volW, volFrom, Int.zero_mul, Int.one_mul, wS (x := a) (by omega) (by omega)]
      rw [wS (x := 0) (by omega) (by omega), Int.zero_add, wS (x := p) (by omega) (by omega), wS (x := p * b) (by omega) (by omega), wS (x := p * b + q) (by omega) (by omega), wS (x := a * b) (by omega) (by omega)]
      exact hh
  · match pl, hl with
    | [p, q, r], _ =>
      simp only [isPl, Bool.and_true, Bool.and_eq_true, decide_eq_true_eq, wS (x := a - 1) (by omega) (by omega), wS (x := b - 1) (by omega) (by omega), wS (x := c - 1) (by omega) (by omega)] at hp
      have hh := horner (a := a) (b := b) hp.1.1 (by omega) hp.2.1.1 (by omega)
      have hpb := mul60 (a := p) (b := b) hp.1.1 (by omega) b0 b1
      have hab := mul60 a0 a1 b0 b1
      have hh2 := horner (a := a * b) (b := c) hh.1 hh.2 hp.2.2.1 (by omega)
      have habc := mul3600 hab.1 hab.2 c0 c1
      have hpc := mul3600 (a := p * b + q) (b := c) hh.1 (by omega) c0 c1
      simp only [offW, volW, volFrom, Int.zero_mul, Int.one_mul, wS (x := a) (by omega) (by omega)]
      rw [wS (x := 0) (by omega) (by omega), Int.zero_add, wS (x := p) (by omega) (by omega), wS (x := p * b) (by omega) (by omega), wS (x := p * b + q) (by omega) (by omega), wS (x := (p * b + q) * c) (by omega) (by omega), wS (x := (p * b + q) * c + r) (by omega) (by omega),
        wS (x := a * b) (by omega) (by omega), wS (x := a * b * c) (by omega) (by omega)]
      exact hh2
end Go.Ab
namespace Go.Ab
theorem validA_inv {sh da : List Int} (h : validA sh da = true) : validS sh = true ∧ ((da.length : Nat) : Int) = volW sh ∧ allB da (-1000000) 1000000 = true := by
  simp only [validA, Bool.and_eq_true, beq_iff_eq] at h
  exact ⟨h.1.1, h.1.2, h.2⟩
theorem validA_len {sh da : List Int} (h : validA sh da = true) : sh.length ≤ 3 ∧ da.length ≤ 60 := by
  obtain ⟨h1, h2, _⟩ := validA_inv h
  obtain ⟨h3, _, h4⟩ := validS_inv h1
  exact ⟨h3, by omega⟩
/-- A place of a valid array lies in its numbers. -/
theorem item_idx {sh da pl : List Int} (h : itemB sh da pl = true) : (offW sh pl 0).toNat < da.length ∧ idx (offW sh pl 0) da.length = some (offW sh pl 0).toNat ∧ offA sh da pl = offW sh pl 0 ∧ ¬ offA sh da pl < 0 := by
  simp only [itemB, Bool.and_eq_true] at h
  obtain ⟨h1, h2, _⟩ := validA_inv h.1
  obtain ⟨g1, g2⟩ := off_bd h1 h.2
  have e : offA sh da pl = offW sh pl 0 := by unfold offA offS; rw [h.1, h1, h.2]; rfl
  refine ⟨by omega, ?_, e, by omega⟩
  unfold idx
  rw [if_pos ⟨g1, by omega⟩]
theorem item_no {sh da pl : List Int} (h : itemB sh da pl = false) : offA sh da pl = -1 := by
  unfold offA offS
  unfold itemB at h
  cases hv : validA sh da with
  | false => rfl
  | true =>
    rw [hv] at h
    simp only [Bool.true_and] at h
    rw [h, Bool.and_false]
    rfl
end Go.Ab
namespace Go.Ab
theorem mark2_ok {xs ys : List Int} (h1 : xs.length ≤ 4398046511104) (h2 : ys.length ≤ 4398046511104) : decide (markK ys (markK xs 1) < 0) = false := by
  rw [markK_eq xs 1 (by omega) (by omega), markK_eq ys _ (by omega) (by omega)]
  exact decide_eq_false (by omega)
theorem mark3_ok {xs ys zs : List Int} (h1 : xs.length ≤ 4398046511104) (h2 : ys.length ≤ 4398046511104) (h3 : zs.length ≤ 4398046511104) : decide (markK zs (markK ys (markK xs 1)) < 0) = false := by
  rw [markK_eq xs 1 (by omega) (by omega), markK_eq ys _ (by omega) (by omega), markK_eq zs _ (by omega) (by omega)]
  exact decide_eq_false (by omega)
theorem with_len (sh da pl : List Int) (n : Int) : (withS sh da pl n).length ≤ 3 ∧ (withD sh da pl n).length ≤ 60 := by
  unfold withS withD
  cases h : withB sh da pl n with
  | false => simp
  | true =>
    simp only [withB, itemB, Bool.and_eq_true] at h
    obtain ⟨l1, l2⟩ := validA_len h.1.1
    simp
    omega
end Go.Ab
namespace Go.Ab
def limV (n : Int) : Int := minI (maxI n (-1000000)) 1000000
def tInt (b : Bool) : Int := bif b then 1 else 0
def absV (n : Int) : Int := maxI n (IntKind.wrap .i64 (0 - n))
def modV (a b : Int) : Int := Int.tmod (IntKind.wrap .i64 (Int.tmod a b + b)) b
def restV (d n : Int) : Int := bif decide (d ≤ 0) then n else modV n d
def opOk (op : Int) : Bool := decide (1 ≤ op) && decide (op ≤ 8)
def operF (op a b : Int) : Int :=
  bif op == 1 then limV (IntKind.wrap .i64 (a + b)) else bif op == 2 then limV (IntKind.wrap .i64 (a - b)) else bif op == 3 then limV (IntKind.wrap .i64 (a * b)) else bif op == 4 then minI a b else
  bif op == 5 then maxI a b else bif op == 6 then tInt (a == b) else bif op == 7 then tInt (decide (a < b)) else restV a b
def operV (op a b : Int) : Int := bif opOk op && (numB a && numB b) then operF op a b else 0
def neuF (op : Int) : Int := [0, 0, 1, 1000000, -1000000, 1, 0, 0].getD (op - 1).toNat 0
def neuV (op : Int) : Int := bif opOk op then neuF op else 0
theorem opOk_cases {op : Int} (h : opOk op = true) : op = 1 ∨ op = 2 ∨ op = 3 ∨ op = 4 ∨ op = 5 ∨ op = 6 ∨ op = 7 ∨ op = 8 := by
  simp only [opOk, Bool.and_eq_true, decide_eq_true_eq] at h
  omega
theorem opOk_no {op : Int} (h : opOk op = false) : op < 1 ∨ 8 < op := by
  simp only [opOk, Bool.and_eq_false_iff, decide_eq_false_iff_not] at h
  omega
theorem lim_spec (n : Int) : maxI (-1000000) (minI 1000000 n) = limV n := by
  unfold limV maxI minI
  repeat' split
  all_goals omega
theorem lim_bd (n : Int) : -1000000 ≤ limV n ∧ limV n ≤ 1000000 := by
  unfold limV maxI minI
  repeat' split
  all_goals omega
end Go.Ab
namespace Go.Ab
def bytesB (bs : List Int) : Bool := bs.all fun b => decide (0 ≤ b) && decide (b ≤ 255)
def rdOk (bs : List Int) (p : Int) : Bool := decide (0 ≤ p) && decide (p ≤ 1073741824) && decide (bs.length ≤ 2000) && bytesB bs
def cutC (bs : List Int) : List Int := bif decide (((bs.length : Nat) : Int) > 2000) then (bs.drop 0).take (2000 - 0) else bs
def mixX (v w k l : Int) : Int := IntKind.wrap .i64 (IntKind.wrap .i64 (IntKind.wrap .i64 (IntKind.wrap .i64 (IntKind.wrap .i64 v * 131) + IntKind.wrap .i64 (IntKind.wrap .i64 w * 1117)) + IntKind.wrap .i64 (k * 29)) + IntKind.wrap .i64 (IntKind.wrap .i64 (Int.tdiv k l) * 53))
def xorV (x : Int) : Int := IntKind.wrap .i64 ((BitVec.ofInt (IntKind.bits .i64) x ^^^ BitVec.ofInt (IntKind.bits .i64) (IntKind.wrap .i64 (Int.tdiv x 64))).toNat : Int)
def pickV (bs : List Int) (p n : Int) : Int :=
  bif decide (n < 1) then 0 else bif ((bs.length : Nat) : Int) == 0 then 0 else bif decide (p < ((bs.length : Nat) : Int)) then Int.tmod (IntKind.wrap .i64 (bs.getD p.toNat 0)) n else
  Int.tmod (xorV (mixX (bs.getD (Int.tmod p ((bs.length : Nat) : Int)).toNat 0) (bs.getD (Int.tmod (IntKind.wrap .i64 (IntKind.wrap .i64 (p * 7) + 3)) ((bs.length : Nat) : Int)).toNat 0) p ((bs.length : Nat) : Int))) n
def oneV (bs : List Int) (p : Int) (xs : List Int) : Int := xs.getD (pickV bs p ((xs.length : Nat) : Int)).toNat 0
def someL : List Int := [0, 1, 2, 3, -1, 5, 7, -4, 1000000, -1000000, 10, 1]
def anyNumV (bs : List Int) (p : Int) : Int := bif pickV bs p 12 == 0 then oneV bs (p + 1) [1000001, -1000001] else oneV bs (p + 1) someL
def anyOpV (bs : List Int) (p : Int) : Int := bif pickV bs p 16 == 0 then oneV bs (p + 1) [0, 9, -1] else IntKind.wrap .i64 (1 + pickV bs (p + 1) 8)
def dOp (bs : List Int) : Int := anyOpV (cutC bs) 0
def dA (bs : List Int) : Int := anyNumV (cutC bs) (0 + 2)
def dB (bs : List Int) : Int := anyNumV (cutC bs) (0 + 2 + 2)
def dNeu (bs : List Int) : Int := anyOpV (cutC bs) 0

theorem beq0 {n : Nat} (h : n ≠ 0) : (((n : Nat) : Int) == 0) = false := by simp [h]
theorem rdOk_inv {bs : List Int} {p : Int} (h : rdOk bs p = true) : 0 ≤ p ∧ p ≤ 1073741824 ∧ bs.length ≤ 2000 ∧ bytesB bs = true := by
  simp only [rdOk, Bool.and_eq_true, decide_eq_true_eq] at h
  exact ⟨h.1.1.1, h.1.1.2, h.1.2, h.2⟩
theorem bytes_get {bs : List Int} (h : bytesB bs = true) (i : Nat) : 0 ≤ bs.getD i 0 ∧ bs.getD i 0 ≤ 255 := by
  by_cases hi : i < bs.length
  · have := List.all_eq_true.1 h bs[i] (List.getElem_mem hi)
    simp only [Bool.and_eq_true, decide_eq_true_eq] at this
    simpa [hi] using this
  · simp [Nat.le_of_not_lt hi]
theorem bytes_take {bs : List Int} (h : bytesB bs = true) (n m : Nat) : bytesB ((bs.drop n).take m) = true := by
  unfold bytesB at *
  rw [List.all_eq_true] at *
  exact fun x hx => h x (List.mem_of_mem_drop (List.mem_of_mem_take hx))
theorem cut_ok {bs : List Int} (h : bytesB bs = true) {p : Int} (h0 : 0 ≤ p) (h1 : p ≤ 1073741824) : rdOk (cutC bs) p = true := by
  unfold rdOk cutC
  by_cases hl : ((bs.length : Nat) : Int) > 2000
  · rw [decide_eq_true hl, cond_true, bytes_take h, decide_eq_true h0, decide_eq_true h1, decide_eq_true (p := ((bs.drop 0).take (2000 - 0)).length ≤ 2000) (by simp; omega)]
    rfl
  · rw [decide_eq_false hl, cond_false, h, decide_eq_true h0, decide_eq_true h1, decide_eq_true (p := bs.length ≤ 2000) (by omega)]
    rfl
theorem tmod_bd {x n : Int} (hx : 0 ≤ x) (hn : 0 < n) : 0 ≤ Int.tmod x n ∧ Int.tmod x n < n := ⟨Int.tmod_nonneg n hx, Int.tmod_lt_of_pos x hn⟩
theorem xorV_nonneg {x : Int} (h0 : 0 ≤ x) (h1 : x < 1099511627776) : 0 ≤ xorV x := by
  unfold xorV
  have hy : 0 ≤ Int.tdiv x 64 ∧ Int.tdiv x 64 ≤ x := by
    rw [Int.tdiv_eq_ediv_of_nonneg h0]
    omega
  rw [wS (x := Int.tdiv x 64) (by omega) (by omega)]
  have hb : ∀ y : Int, 0 ≤ y → y < 1099511627776 → (BitVec.ofInt (IntKind.bits .i64) y).toNat < 2 ^ 40 := fun y g0 g1 => by
    rw [BitVec.toNat_ofInt]
    have : ((2 ^ IntKind.bits .i64 : Nat) : Int) = 18446744073709551616 := by rfl
    rw [this]
    omega
  have hx := Nat.xor_lt_two_pow (hb x h0 h1) (hb (Int.tdiv x 64) (by omega) (by omega))
  rw [BitVec.toNat_xor]
  generalize (BitVec.ofInt (IntKind.bits .i64) x).toNat ^^^ (BitVec.ofInt (IntKind.bits .i64) (Int.tdiv x 64)).toNat = z at hx
  rw [wS (x := (z : Int)) (by omega) (by omega)]
  omega
theorem mixX_bd {v w k l : Int} (hv : 0 ≤ v ∧ v ≤ 255) (hw : 0 ≤ w ∧ w ≤ 255) (hk : 0 ≤ k ∧ k ≤ 1073741824) (hl : 0 < l) : 0 ≤ mixX v w k l ∧ mixX v w k l < 1099511627776 := by
  unfold mixX
  have hq : 0 ≤ Int.tdiv k l ∧ Int.tdiv k l ≤ k := by
    rw [Int.tdiv_eq_ediv_of_nonneg hk.1]
    exact ⟨Int.ediv_nonneg hk.1 (by omega), Int.ediv_le_self _ hk.1⟩
  rw [wS (x := v) (by omega) (by omega), wS (x := w) (by omega) (by omega), wS (x := v * 131) (by omega) (by omega), wS (x := w * 1117) (by omega) (by omega), wS (x := v * 131 + w * 1117) (by omega) (by omega), wS (x := k * 29) (by omega) (by omega),
    wS (x := v * 131 + w * 1117 + k * 29) (by omega) (by omega), wS (x := Int.tdiv k l) (by omega) (by omega), wS (x := Int.tdiv k l * 53) (by omega) (by omega), wS (x := v * 131 + w * 1117 + k * 29 + Int.tdiv k l * 53) (by omega) (by omega)]
  omega
theorem pick_bd {bs : List Int} {p n : Int} (h : rdOk bs p = true) (hn : 1 ≤ n) : 0 ≤ pickV bs p n ∧ pickV bs p n < n := by
  obtain ⟨h0, h1, h2, h3⟩ := rdOk_inv h
  unfold pickV
  rw [decide_eq_false (p := n < 1) (by omega), cond_false]
  by_cases hL : bs.length = 0
  · rw [hL]; simp; omega
  · rw [beq0 hL, cond_false]
    by_cases hp : p < ((bs.length : Nat) : Int)
    · rw [decide_eq_true hp, cond_true]
      have := bytes_get h3 p.toNat
      rw [wS (x := bs.getD p.toNat 0) (by omega) (by omega)]
      exact tmod_bd this.1 (by omega)
    · rw [decide_eq_false hp, cond_false]
      have hm := mixX_bd (bytes_get h3 (Int.tmod p ((bs.length : Nat) : Int)).toNat) (bytes_get h3 (Int.tmod (IntKind.wrap .i64 (IntKind.wrap .i64 (p * 7) + 3)) ((bs.length : Nat) : Int)).toNat) ⟨h0, h1⟩ (show (0 : Int) < ((bs.length : Nat) : Int) by omega)
      exact tmod_bd (xorV_nonneg hm.1 hm.2) (by omega)
theorem getD_all {P : Int → Prop} {xs : List Int} (h0 : P 0) (h : ∀ x ∈ xs, P x) (i : Nat) : P (xs.getD i 0) := by
  by_cases hi : i < xs.length
  · simpa [hi] using h xs[i] (List.getElem_mem hi)
  · simpa [Nat.le_of_not_lt hi] using h0
theorem anyNum_bd (bs : List Int) (p : Int) : -1000001 ≤ anyNumV bs p ∧ anyNumV bs p ≤ 1000001 := by
  unfold anyNumV oneV
  cases pickV bs p 12 == 0
  · exact getD_all (P := fun x => -1000001 ≤ x ∧ x ≤ 1000001) (by omega) (by simp [someL]) _
  · exact getD_all (P := fun x => -1000001 ≤ x ∧ x ≤ 1000001) (by omega) (by simp) _
end Go.Ab
namespace Go.Ab
/-- The rest that is not negative. -/
theorem modV_eq {b a : Int} (ha : 0 < a) (ha2 : a ≤ 1000000) (hb : -1000001 ≤ b) (hb2 : b ≤ 1000001) : modV b a = b % a := by
  unfold modV
  have h1 : (Int.tmod b a).natAbs = b.natAbs % a.natAbs := Int.natAbs_tmod b a
  have h2 : b.natAbs % a.natAbs < a.natAbs := Nat.mod_lt _ (by omega)
  rw [wS (x := Int.tmod b a + a) (by omega) (by omega)]
  rw [Int.tmod_eq_emod_of_nonneg (by omega), Int.add_emod_right]
  have h3 : (Int.tmod b a) % a = b % a := by
    rw [Int.tmod_def, Int.sub_emod, Int.mul_emod_right, Int.sub_zero, Int.emod_emod_of_dvd _ (Int.dvd_refl a)]
  exact h3
theorem mul_bd {a b : Int} (ha : -1000000 ≤ a) (ha' : a ≤ 1000000) (hb : -1000000 ≤ b) (hb' : b ≤ 1000000) : -1000000000000 ≤ a * b ∧ a * b ≤ 1000000000000 := by
  have h : (a * b).natAbs = a.natAbs * b.natAbs := Int.natAbs_mul a b
  have h2 : a.natAbs * b.natAbs ≤ 1000000 * 1000000 := Nat.mul_le_mul (by omega) (by omega)
  omega
theorem numB_inv {v : Int} (h : numB v = true) : -1000000 ≤ v ∧ v ≤ 1000000 := by simpa [numB] using h
theorem numB_of {v : Int} (h : -1000000 ≤ v ∧ v ≤ 1000000) : numB v = true := by simp [numB, h]
/-- Results of functions are numbers. -/
theorem operF_bd {op a b : Int} (ho : opOk op = true) (ha : numB a = true) (hb : numB b = true) : -1000000 ≤ operF op a b ∧ operF op a b ≤ 1000000 := by
  have ha := numB_inv ha
  have hb := numB_inv hb
  rcases opOk_cases ho with rfl | rfl | rfl | rfl | rfl | rfl | rfl | rfl
  · exact lim_bd _
  · exact lim_bd _
  · exact lim_bd _
  · show -1000000 ≤ minI a b ∧ minI a b ≤ 1000000
    unfold minI; split <;> omega
  · show -1000000 ≤ maxI a b ∧ maxI a b ≤ 1000000
    unfold maxI; split <;> omega
  · show -1000000 ≤ tInt (a == b) ∧ tInt (a == b) ≤ 1000000
    unfold tInt; cases a == b <;> simp
  · show -1000000 ≤ tInt (decide (a < b)) ∧ tInt (decide (a < b)) ≤ 1000000
    unfold tInt; cases decide (a < b) <;> simp
  · show -1000000 ≤ restV a b ∧ restV a b ≤ 1000000
    unfold restV
    by_cases h : a ≤ 0
    · rw [decide_eq_true h]; exact hb
    · rw [decide_eq_false h, cond_false, modV_eq (by omega) ha.2 (by omega) (by omega)]
      have := Int.emod_nonneg b (show a ≠ 0 by omega)
      have := Int.emod_lt_of_pos b (show 0 < a by omega)
      omega
theorem operV_bd (op a b : Int) : -1000000 ≤ operV op a b ∧ operV op a b ≤ 1000000 := by
  unfold operV
  cases h : opOk op && (numB a && numB b) with
  | false => simp
  | true =>
    simp only [Bool.and_eq_true] at h
    exact operF_bd h.1 h.2.1 h.2.2
def evenOp (op : Int) : Bool := (op == 1) || (op == 3) || (op == 4) || (op == 5) || (op == 6)
theorem operV_comm {op : Int} (h : op = 1 ∨ op = 3 ∨ op = 4 ∨ op = 5 ∨ op = 6) (a b : Int) : operV op b a = operV op a b := by
  unfold operV
  rw [Bool.and_comm (numB b)]
  congr 1
  rcases h with rfl | rfl | rfl | rfl | rfl
  · show limV (IntKind.wrap .i64 (b + a)) = limV (IntKind.wrap .i64 (a + b)); rw [Int.add_comm]
  · show limV (IntKind.wrap .i64 (b * a)) = limV (IntKind.wrap .i64 (a * b)); rw [Int.mul_comm]
  · show minI b a = minI a b; unfold minI; split <;> split <;> omega
  · show maxI b a = maxI a b; unfold maxI; split <;> split <;> omega
  · show tInt (b == a) = tInt (a == b); rw [BEq.comm]
end Go.Ab
namespace Go.Ab
theorem bytes_of {bs : List Int} (h : ∀ n ∈ bs, 0 ≤ n ∧ n ≤ 255) : bytesB bs = true := by
  unfold bytesB
  rw [List.all_eq_true]
  intro x hx
  simp [h x hx]
end Go.Ab
namespace Go.Ab
namespace spec_inRange
def E : Entry := ⟨16, true, false, fun | [.d (.int .i64 v), .d (.int .i64 lo), .d (.int .i64 hi)] => true | _ => false, fun | [.d (.int .i64 v), .d (.int .i64 lo), .d (.int .i64 hi)] => ([.one ((.bool (decide (lo ≤ v) && decide (v ≤ hi))), false)], []) | _ => ([], []), fun _ => [], false⟩
end spec_inRange
namespace spec_inRange
noncomputable def X : List Entry := []
def A : Ann := ⟨[], [], [], [], []⟩
theorem e (fuel : Nat) (p0 : Int) (p1 : Int) (p2 : Int) : runF Try.prog X A fuel Try.f16 [.d (.int .i64 p0), .d (.int .i64 p1), .d (.int .i64 p2)] =
  (bif (decide ((p1 : Int) ≤ p0)) then
  some ([.one ((.bool (decide ((p0 : Int) ≤ p2))), false)], [])
  else
  some ([.one ((.bool false), false)], [])) := by kernel_rfl
end spec_inRange
theorem spec_inRange.ok_of (hX : ∀ E ∈ spec_inRange.X, CallSpec Try.prog E) (h : ∀ (v : Int) (lo : Int) (hi : Int), (true) = true → ∃ fuel, runF Try.prog spec_inRange.X spec_inRange.A fuel Try.f16 [.d (.int .i64 v), .d (.int .i64 lo), .d (.int .i64 hi)] = some ([.one ((.bool (decide (lo ≤ v) && decide (v ≤ hi))), false)], [])) : CallSpec Try.prog spec_inRange.E :=
  callSpec_of hX (by kernel_rfl) (by kernel_rfl) (by kernel_rfl) (by kernel_rfl) (fun xs hp => by
    dsimp only [spec_inRange.E] at hp ⊢
    split at hp
    · exact h _ _ _ hp
    · cases hp)
theorem spec_inRange.ok : CallSpec Try.prog spec_inRange.E := spec_inRange.ok_of (by simp [spec_inRange.X]) fun v lo hi _ => ⟨0, by
  rw [spec_inRange.e]
  cases decide (lo ≤ v) <;> rfl⟩

namespace spec_validOp
def E : Entry := ⟨15, true, false, fun | [.d (.int .i64 op)] => true | _ => false, fun | [.d (.int .i64 op)] => ([.one ((.bool (opOk op)), false)], []) | _ => ([], []), fun _ => [], false⟩
end spec_validOp
namespace spec_validOp
noncomputable def X : List Entry := [spec_inRange.E]
def A : Ann := ⟨[], [], [], [], []⟩
theorem e (fuel : Nat) (p0 : Int) : runF Try.prog X A fuel Try.f15 [.d (.int .i64 p0)] =
  some ([.one ((.bool (decide (1 ≤ p0) && decide (p0 ≤ 8))), false)], []) := by kernel_rfl
end spec_validOp
theorem spec_validOp.ok_of (hX : ∀ E ∈ spec_validOp.X, CallSpec Try.prog E) (h : ∀ (op : Int), (true) = true → ∃ fuel, runF Try.prog spec_validOp.X spec_validOp.A fuel Try.f15 [.d (.int .i64 op)] = some ([.one ((.bool (opOk op)), false)], [])) : CallSpec Try.prog spec_validOp.E :=
  callSpec_of hX (by kernel_rfl) (by kernel_rfl) (by kernel_rfl) (by kernel_rfl) (fun xs hp => by
    dsimp only [spec_validOp.E] at hp ⊢
    split at hp
    · exact h _ hp
    · cases hp)
theorem spec_validOp.ok : CallSpec Try.prog spec_validOp.E := spec_validOp.ok_of (by simp [spec_validOp.X, spec_inRange.ok]) fun op _ => ⟨0, by rw [spec_validOp.e]; rfl⟩

namespace spec_limit
def E : Entry := ⟨24, true, false, fun | [.d (.int .i64 n)] => true | _ => false, fun | [.d (.int .i64 n)] => ([.one ((.int .i64 (limV n)), false)], []) | _ => ([], []), fun _ => [], false⟩
end spec_limit
namespace spec_limit
noncomputable def X : List Entry := []
def A : Ann := ⟨[], [], [], [], []⟩
theorem e (fuel : Nat) (p0 : Int) : runF Try.prog X A fuel Try.f24 [.d (.int .i64 p0)] =
  some ([.one ((.int .i64 (maxI (-1000000) (minI 1000000 p0))), false)], []) := by kernel_rfl
end spec_limit
theorem spec_limit.ok_of (hX : ∀ E ∈ spec_limit.X, CallSpec Try.prog E) (h : ∀ (n : Int), (true) = true → ∃ fuel, runF Try.prog spec_limit.X spec_limit.A fuel Try.f24 [.d (.int .i64 n)] = some ([.one ((.int .i64 (limV n)), false)], [])) : CallSpec Try.prog spec_limit.E :=
  callSpec_of hX (by kernel_rfl) (by kernel_rfl) (by kernel_rfl) (by kernel_rfl) (fun xs hp => by
    dsimp only [spec_limit.E] at hp ⊢
    split at hp
    · exact h _ hp
    · cases hp)
theorem spec_limit.ok : CallSpec Try.prog spec_limit.E := spec_limit.ok_of (by simp [spec_limit.X]) fun n _ => ⟨0, by rw [spec_limit.e, lim_spec]⟩

namespace spec_toInt
def E : Entry := ⟨25, true, false, fun | [.d (.bool b)] => true | _ => false, fun | [.d (.bool b)] => ([.one ((.int .i64 (tInt b)), false)], []) | _ => ([], []), fun _ => [], false⟩
end spec_toInt
namespace spec_toInt
noncomputable def X : List Entry := []
def A : Ann := ⟨[], [], [], [], []⟩
theorem e (fuel : Nat) (p0 : Bool) : runF Try.prog X A fuel Try.f25 [.d (.bool p0)] =
  (bif p0 then
  some ([.one ((.int .i64 1), false)], [])
  else
  some ([.one ((.int .i64 0), false)], [])) := by kernel_rfl
end spec_toInt
theorem spec_toInt.ok_of (hX : ∀ E ∈ spec_toInt.X, CallSpec Try.prog E) (h : ∀ (b : Bool), (true) = true → ∃ fuel, runF Try.prog spec_toInt.X spec_toInt.A fuel Try.f25 [.d (.bool b)] = some ([.one ((.int .i64 (tInt b)), false)], [])) : CallSpec Try.prog spec_toInt.E :=
  callSpec_of hX (by kernel_rfl) (by kernel_rfl) (by kernel_rfl) (by kernel_rfl) (fun xs hp => by
    dsimp only [spec_toInt.E] at hp ⊢
    split at hp
    · exact h _ hp
    · cases hp)
theorem spec_toInt.ok : CallSpec Try.prog spec_toInt.E := spec_toInt.ok_of (by simp [spec_toInt.X]) fun b _ => ⟨0, by rw [spec_toInt.e]; cases b <;> rfl⟩

namespace spec_modulo
def E : Entry := ⟨26, true, false, fun | [.d (.int .i64 a), .d (.int .i64 b)] => decide (0 < b) | _ => false, fun | [.d (.int .i64 a), .d (.int .i64 b)] => ([.one ((.int .i64 (modV a b)), false)], []) | _ => ([], []), fun _ => [], false⟩
end spec_modulo
namespace spec_modulo
noncomputable def X : List Entry := []
def A : Ann := ⟨[], [], [], [], []⟩
theorem e (fuel : Nat) (p0 : Int) (p1 : Int) : runF Try.prog X A fuel Try.f26 [.d (.int .i64 p0), .d (.int .i64 p1)] =
  (bif decide ((p1 : Int) = 0) then
  none
  else
  (bif decide ((p1 : Int) = 0) then
  none
  else
  some ([.one ((.int .i64 (Int.tmod (IntKind.wrap .i64 ((Int.tmod p0 p1) + p1)) p1)), false)], []))) := by kernel_rfl
end spec_modulo
theorem spec_modulo.ok_of (hX : ∀ E ∈ spec_modulo.X, CallSpec Try.prog E) (h : ∀ (a : Int) (b : Int), (decide (0 < b)) = true → ∃ fuel, runF Try.prog spec_modulo.X spec_modulo.A fuel Try.f26 [.d (.int .i64 a), .d (.int .i64 b)] = some ([.one ((.int .i64 (modV a b)), false)], [])) : CallSpec Try.prog spec_modulo.E :=
  callSpec_of hX (by kernel_rfl) (by kernel_rfl) (by kernel_rfl) (by kernel_rfl) (fun xs hp => by
    dsimp only [spec_modulo.E] at hp ⊢
    split at hp
    · exact h _ _ hp
    · cases hp)
theorem spec_modulo.ok : CallSpec Try.prog spec_modulo.E := spec_modulo.ok_of (by simp [spec_modulo.X]) fun a b h => ⟨0, by
  have := of_decide_eq_true h
  rw [spec_modulo.e, decide_eq_false (p := b = 0) (by omega)]
  rfl⟩

namespace spec_operate
def E : Entry := ⟨17, true, false, fun | [.d (.int .i64 op), .d (.int .i64 a), .d (.int .i64 b)] => true | _ => false, fun | [.d (.int .i64 op), .d (.int .i64 a), .d (.int .i64 b)] => ([.one ((.int .i64 (operF op a b)), false)], []) | _ => ([], []), fun _ => [], false⟩
end spec_operate
namespace spec_operate
noncomputable def X : List Entry := [spec_limit.E, spec_toInt.E, spec_modulo.E]
def A : Ann := ⟨[], [], [], [], []⟩
theorem e (fuel : Nat) (p0 : Int) (p1 : Int) (p2 : Int) : runF Try.prog X A fuel Try.f17 [.d (.int .i64 p0), .d (.int .i64 p1), .d (.int .i64 p2)] =
  (bif ((p0 : Int) == 1) then
  some ([.one ((.int .i64 (limV ((IntKind.wrap .i64 (p1 + p2))))), false)], [])
  else
  (bif ((p0 : Int) == 2) then
  some ([.one ((.int .i64 (limV ((IntKind.wrap .i64 (p1 - p2))))), false)], [])
  else
  (bif ((p0 : Int) == 3) then
  some ([.one ((.int .i64 (limV ((IntKind.wrap .i64 (p1 * p2))))), false)], [])
  else
  (bif ((p0 : Int) == 4) then
  some ([.one ((.int .i64 (minI p1 p2)), false)], [])
  else
  (bif ((p0 : Int) == 5) then
  some ([.one ((.int .i64 (maxI p1 p2)), false)], [])
  else
  (bif ((p0 : Int) == 6) then
  some ([.one ((.int .i64 (tInt (((p1 : Int) == p2)))), false)], [])
  else
  (bif ((p0 : Int) == 7) then
  some ([.one ((.int .i64 (tInt ((decide ((p1 : Int) < p2))))), false)], [])
  else
  (bif (decide ((p1 : Int) ≤ 0)) then
  some ([.one ((.int .i64 p2), false)], [])
  else
  (bif decide (0 < p1) then
  some ([.one ((.int .i64 (modV p2 p1)), false)], [])
  else
  none))))))))) := by kernel_rfl
end spec_operate
theorem spec_operate.ok_of (hX : ∀ E ∈ spec_operate.X, CallSpec Try.prog E) (h : ∀ (op : Int) (a : Int) (b : Int), (true) = true → ∃ fuel, runF Try.prog spec_operate.X spec_operate.A fuel Try.f17 [.d (.int .i64 op), .d (.int .i64 a), .d (.int .i64 b)] = some ([.one ((.int .i64 (operF op a b)), false)], [])) : CallSpec Try.prog spec_operate.E :=
  callSpec_of hX (by kernel_rfl) (by kernel_rfl) (by kernel_rfl) (by kernel_rfl) (fun xs hp => by
    dsimp only [spec_operate.E] at hp ⊢
    split at hp
    · exact h _ _ _ hp
    · cases hp)
theorem spec_operate.ok : CallSpec Try.prog spec_operate.E := spec_operate.ok_of (by simp [spec_operate.X, spec_limit.ok, spec_toInt.ok, spec_modulo.ok]) fun op a b _ => ⟨0, by
  rw [spec_operate.e]
  unfold operF restV
  by_cases h : a ≤ 0
  · rw [decide_eq_true h]
    cases op == 1 <;> cases op == 2 <;> cases op == 3 <;> cases op == 4 <;> cases op == 5 <;> cases op == 6 <;> cases op == 7 <;> rfl
  · rw [decide_eq_false h, decide_eq_true (p := 0 < a) (by omega)]
    cases op == 1 <;> cases op == 2 <;> cases op == 3 <;> cases op == 4 <;> cases op == 5 <;> cases op == 6 <;> cases op == 7 <;> rfl⟩

namespace spec_Operate
def E : Entry := ⟨9, true, false, fun | [.d (.int .i64 op), .d (.int .i64 a), .d (.int .i64 b)] => true | _ => false, fun | [.d (.int .i64 op), .d (.int .i64 a), .d (.int .i64 b)] => ([.one ((.int .i64 (operV op a b)), false)], []) | _ => ([], []), fun _ => [], false⟩
end spec_Operate
namespace spec_Operate
noncomputable def X : List Entry := [spec_validOp.E, spec_inRange.E, spec_operate.E]
def A : Ann := ⟨[], [], [], [], []⟩
theorem e (fuel : Nat) (p0 : Int) (p1 : Int) (p2 : Int) : runF Try.prog X A fuel Try.f9 [.d (.int .i64 p0), .d (.int .i64 p1), .d (.int .i64 p2)] =
  (bif (!(opOk p0)) then
  some ([.one ((.int .i64 0), false)], [])
  else
  (bif (!(decide (((-1000000)) ≤ p1) && decide (p1 ≤ 1000000))) then
  some ([.one ((.int .i64 0), false)], [])
  else
  (bif (!(decide (((-1000000)) ≤ p2) && decide (p2 ≤ 1000000))) then
  some ([.one ((.int .i64 0), false)], [])
  else
  some ([.one ((.int .i64 (operF p0 p1 p2)), false)], [])))) := by kernel_rfl
end spec_Operate
theorem spec_Operate.ok_of (hX : ∀ E ∈ spec_Operate.X, CallSpec Try.prog E) (h : ∀ (op : Int) (a : Int) (b : Int), (true) = true → ∃ fuel, runF Try.prog spec_Operate.X spec_Operate.A fuel Try.f9 [.d (.int .i64 op), .d (.int .i64 a), .d (.int .i64 b)] = some ([.one ((.int .i64 (operV op a b)), false)], [])) : CallSpec Try.prog spec_Operate.E :=
  callSpec_of hX (by kernel_rfl) (by kernel_rfl) (by kernel_rfl) (by kernel_rfl) (fun xs hp => by
    dsimp only [spec_Operate.E] at hp ⊢
    split at hp
    · exact h _ _ _ hp
    · cases hp)
theorem spec_Operate.ok : CallSpec Try.prog spec_Operate.E := spec_Operate.ok_of (by simp [spec_Operate.X, spec_validOp.ok, spec_inRange.ok, spec_operate.ok]) fun op a b _ => ⟨0, by
  rw [spec_Operate.e]
  unfold operV
  rw [← numB_eq, ← numB_eq]
  cases opOk op <;> cases numB a <;> cases numB b <;> rfl⟩

namespace impl_limited
def E : Entry := ⟨28, true, false, fun | [.d (.int .i64 n)] => true | _ => false, fun | [.d (.int .i64 n)] => ([.one ((.int .i64 (limV n)), false)], []) | _ => ([], []), fun _ => [], false⟩
end impl_limited
namespace impl_limited
noncomputable def X : List Entry := []
def A : Ann := ⟨[], [], [], [], []⟩
theorem e (fuel : Nat) (p0 : Int) : runF Try.prog X A fuel Try.f28 [.d (.int .i64 p0)] =
  some ([.one ((.int .i64 (minI (maxI p0 (-1000000)) 1000000)), false)], []) := by kernel_rfl
end impl_limited
theorem impl_limited.ok_of (hX : ∀ E ∈ impl_limited.X, CallSpec Try.prog E) (h : ∀ (n : Int), (true) = true → ∃ fuel, runF Try.prog impl_limited.X impl_limited.A fuel Try.f28 [.d (.int .i64 n)] = some ([.one ((.int .i64 (limV n)), false)], [])) : CallSpec Try.prog impl_limited.E :=
  callSpec_of hX (by kernel_rfl) (by kernel_rfl) (by kernel_rfl) (by kernel_rfl) (fun xs hp => by
    dsimp only [impl_limited.E] at hp ⊢
    split at hp
    · exact h _ hp
    · cases hp)
theorem impl_limited.ok : CallSpec Try.prog impl_limited.E := impl_limited.ok_of (by simp [impl_limited.X]) fun n _ => ⟨0, by rw [impl_limited.e]; rfl⟩

namespace impl_functionOfTwo_1
def E : Entry := ⟨27, true, false, fun | [.d (.int .i64 a), .d (.int .i64 b)] => true | _ => false, fun | [.d (.int .i64 a), .d (.int .i64 b)] => ([.one ((.int .i64 (limV (IntKind.wrap .i64 (a + b)))), false)], []) | _ => ([], []), fun _ => [], false⟩
end impl_functionOfTwo_1
namespace impl_functionOfTwo_1
noncomputable def X : List Entry := [impl_limited.E]
def A : Ann := ⟨[], [], [], [], []⟩
theorem e (fuel : Nat) (p0 : Int) (p1 : Int) : runF Try.prog X A fuel Try.f27 [.d (.int .i64 p0), .d (.int .i64 p1)] =
  some ([.one ((.int .i64 (limV ((IntKind.wrap .i64 (p0 + p1))))), false)], []) := by kernel_rfl
end impl_functionOfTwo_1
theorem impl_functionOfTwo_1.ok_of (hX : ∀ E ∈ impl_functionOfTwo_1.X, CallSpec Try.prog E) (h : ∀ (a : Int) (b : Int), (true) = true → ∃ fuel, runF Try.prog impl_functionOfTwo_1.X impl_functionOfTwo_1.A fuel Try.f27 [.d (.int .i64 a), .d (.int .i64 b)] = some ([.one ((.int .i64 (limV (IntKind.wrap .i64 (a + b)))), false)], [])) : CallSpec Try.prog impl_functionOfTwo_1.E :=
  callSpec_of hX (by kernel_rfl) (by kernel_rfl) (by kernel_rfl) (by kernel_rfl) (fun xs hp => by
    dsimp only [impl_functionOfTwo_1.E] at hp ⊢
    split at hp
    · exact h _ _ hp
    · cases hp)
theorem impl_functionOfTwo_1.ok : CallSpec Try.prog impl_functionOfTwo_1.E := impl_functionOfTwo_1.ok_of (by simp [impl_functionOfTwo_1.X, impl_limited.ok]) fun a b _ => ⟨0, by rw [impl_functionOfTwo_1.e]⟩

namespace impl_functionOfTwo_2
def E : Entry := ⟨29, true, false, fun | [.d (.int .i64 a), .d (.int .i64 b)] => true | _ => false, fun | [.d (.int .i64 a), .d (.int .i64 b)] => ([.one ((.int .i64 (limV (IntKind.wrap .i64 (a - b)))), false)], []) | _ => ([], []), fun _ => [], false⟩
end impl_functionOfTwo_2
namespace impl_functionOfTwo_2
noncomputable def X : List Entry := [impl_limited.E]
def A : Ann := ⟨[], [], [], [], []⟩
theorem e (fuel : Nat) (p0 : Int) (p1 : Int) : runF Try.prog X A fuel Try.f29 [.d (.int .i64 p0), .d (.int .i64 p1)] =
  some ([.one ((.int .i64 (limV ((IntKind.wrap .i64 (p0 - p1))))), false)], []) := by kernel_rfl
end impl_functionOfTwo_2
theorem impl_functionOfTwo_2.ok_of (hX : ∀ E ∈ impl_functionOfTwo_2.X, CallSpec Try.prog E) (h : ∀ (a : Int) (b : Int), (true) = true → ∃ fuel, runF Try.prog impl_functionOfTwo_2.X impl_functionOfTwo_2.A fuel Try.f29 [.d (.int .i64 a), .d (.int .i64 b)] = some ([.one ((.int .i64 (limV (IntKind.wrap .i64 (a - b)))), false)], [])) : CallSpec Try.prog impl_functionOfTwo_2.E :=
  callSpec_of hX (by kernel_rfl) (by kernel_rfl) (by kernel_rfl) (by kernel_rfl) (fun xs hp => by
    dsimp only [impl_functionOfTwo_2.E] at hp ⊢
    split at hp
    · exact h _ _ hp
    · cases hp)
theorem impl_functionOfTwo_2.ok : CallSpec Try.prog impl_functionOfTwo_2.E := impl_functionOfTwo_2.ok_of (by simp [impl_functionOfTwo_2.X, impl_limited.ok]) fun a b _ => ⟨0, by rw [impl_functionOfTwo_2.e]⟩

namespace impl_functionOfTwo_3
def E : Entry := ⟨30, true, false, fun | [.d (.int .i64 a), .d (.int .i64 b)] => true | _ => false, fun | [.d (.int .i64 a), .d (.int .i64 b)] => ([.one ((.int .i64 (limV (IntKind.wrap .i64 (a * b)))), false)], []) | _ => ([], []), fun _ => [], false⟩
end impl_functionOfTwo_3
namespace impl_functionOfTwo_3
noncomputable def X : List Entry := [impl_limited.E]
def A : Ann := ⟨[], [], [], [], []⟩
theorem e (fuel : Nat) (p0 : Int) (p1 : Int) : runF Try.prog X A fuel Try.f30 [.d (.int .i64 p0), .d (.int .i64 p1)] =
  some ([.one ((.int .i64 (limV ((IntKind.wrap .i64 (p0 * p1))))), false)], []) := by kernel_rfl
end impl_functionOfTwo_3
theorem impl_functionOfTwo_3.ok_of (hX : ∀ E ∈ impl_functionOfTwo_3.X, CallSpec Try.prog E) (h : ∀ (a : Int) (b : Int), (true) = true → ∃ fuel, runF Try.prog impl_functionOfTwo_3.X impl_functionOfTwo_3.A fuel Try.f30 [.d (.int .i64 a), .d (.int .i64 b)] = some ([.one ((.int .i64 (limV (IntKind.wrap .i64 (a * b)))), false)], [])) : CallSpec Try.prog impl_functionOfTwo_3.E :=
  callSpec_of hX (by kernel_rfl) (by kernel_rfl) (by kernel_rfl) (by kernel_rfl) (fun xs hp => by
    dsimp only [impl_functionOfTwo_3.E] at hp ⊢
    split at hp
    · exact h _ _ hp
    · cases hp)
theorem impl_functionOfTwo_3.ok : CallSpec Try.prog impl_functionOfTwo_3.E := impl_functionOfTwo_3.ok_of (by simp [impl_functionOfTwo_3.X, impl_limited.ok]) fun a b _ => ⟨0, by rw [impl_functionOfTwo_3.e]⟩

namespace impl_functionOfTwo_4
def E : Entry := ⟨31, true, false, fun | [.d (.int .i64 a), .d (.int .i64 b)] => true | _ => false, fun | [.d (.int .i64 a), .d (.int .i64 b)] => ([.one ((.int .i64 (minI a b)), false)], []) | _ => ([], []), fun _ => [], false⟩
end impl_functionOfTwo_4
namespace impl_functionOfTwo_4
noncomputable def X : List Entry := []
def A : Ann := ⟨[], [], [], [], []⟩
theorem e (fuel : Nat) (p0 : Int) (p1 : Int) : runF Try.prog X A fuel Try.f31 [.d (.int .i64 p0), .d (.int .i64 p1)] =
  some ([.one ((.int .i64 (minI p0 p1)), false)], []) := by kernel_rfl
end impl_functionOfTwo_4
theorem impl_functionOfTwo_4.ok_of (hX : ∀ E ∈ impl_functionOfTwo_4.X, CallSpec Try.prog E) (h : ∀ (a : Int) (b : Int), (true) = true → ∃ fuel, runF Try.prog impl_functionOfTwo_4.X impl_functionOfTwo_4.A fuel Try.f31 [.d (.int .i64 a), .d (.int .i64 b)] = some ([.one ((.int .i64 (minI a b)), false)], [])) : CallSpec Try.prog impl_functionOfTwo_4.E :=
  callSpec_of hX (by kernel_rfl) (by kernel_rfl) (by kernel_rfl) (by kernel_rfl) (fun xs hp => by
    dsimp only [impl_functionOfTwo_4.E] at hp ⊢
    split at hp
    · exact h _ _ hp
    · cases hp)
theorem impl_functionOfTwo_4.ok : CallSpec Try.prog impl_functionOfTwo_4.E := impl_functionOfTwo_4.ok_of (by simp [impl_functionOfTwo_4.X]) fun a b _ => ⟨0, by rw [impl_functionOfTwo_4.e]⟩

namespace impl_functionOfTwo_5
def E : Entry := ⟨32, true, false, fun | [.d (.int .i64 a), .d (.int .i64 b)] => true | _ => false, fun | [.d (.int .i64 a), .d (.int .i64 b)] => ([.one ((.int .i64 (maxI a b)), false)], []) | _ => ([], []), fun _ => [], false⟩
end impl_functionOfTwo_5
namespace impl_functionOfTwo_5
noncomputable def X : List Entry := []
def A : Ann := ⟨[], [], [], [], []⟩
theorem e (fuel : Nat) (p0 : Int) (p1 : Int) : runF Try.prog X A fuel Try.f32 [.d (.int .i64 p0), .d (.int .i64 p1)] =
  some ([.one ((.int .i64 (maxI p0 p1)), false)], []) := by kernel_rfl
end impl_functionOfTwo_5
theorem impl_functionOfTwo_5.ok_of (hX : ∀ E ∈ impl_functionOfTwo_5.X, CallSpec Try.prog E) (h : ∀ (a : Int) (b : Int), (true) = true → ∃ fuel, runF Try.prog impl_functionOfTwo_5.X impl_functionOfTwo_5.A fuel Try.f32 [.d (.int .i64 a), .d (.int .i64 b)] = some ([.one ((.int .i64 (maxI a b)), false)], [])) : CallSpec Try.prog impl_functionOfTwo_5.E :=
  callSpec_of hX (by kernel_rfl) (by kernel_rfl) (by kernel_rfl) (by kernel_rfl) (fun xs hp => by
    dsimp only [impl_functionOfTwo_5.E] at hp ⊢
    split at hp
    · exact h _ _ hp
    · cases hp)
theorem impl_functionOfTwo_5.ok : CallSpec Try.prog impl_functionOfTwo_5.E := impl_functionOfTwo_5.ok_of (by simp [impl_functionOfTwo_5.X]) fun a b _ => ⟨0, by rw [impl_functionOfTwo_5.e]⟩

namespace impl_truth
def E : Entry := ⟨34, true, false, fun | [.d (.bool b)] => true | _ => false, fun | [.d (.bool b)] => ([.one ((.int .i64 (tInt b)), false)], []) | _ => ([], []), fun _ => [], false⟩
end impl_truth
namespace impl_truth
noncomputable def X : List Entry := []
def A : Ann := ⟨[], [], [], [], []⟩
theorem e (fuel : Nat) (p0 : Bool) : runF Try.prog X A fuel Try.f34 [.d (.bool p0)] =
  (bif p0 then
  some ([.one ((.int .i64 1), false)], [])
  else
  some ([.one ((.int .i64 0), false)], [])) := by kernel_rfl
end impl_truth
theorem impl_truth.ok_of (hX : ∀ E ∈ impl_truth.X, CallSpec Try.prog E) (h : ∀ (b : Bool), (true) = true → ∃ fuel, runF Try.prog impl_truth.X impl_truth.A fuel Try.f34 [.d (.bool b)] = some ([.one ((.int .i64 (tInt b)), false)], [])) : CallSpec Try.prog impl_truth.E :=
  callSpec_of hX (by kernel_rfl) (by kernel_rfl) (by kernel_rfl) (by kernel_rfl) (fun xs hp => by
    dsimp only [impl_truth.E] at hp ⊢
    split at hp
    · exact h _ hp
    · cases hp)
theorem impl_truth.ok : CallSpec Try.prog impl_truth.E := impl_truth.ok_of (by simp [impl_truth.X]) fun b _ => ⟨0, by rw [impl_truth.e]; cases b <;> rfl⟩

namespace impl_functionOfTwo_6
def E : Entry := ⟨33, true, false, fun | [.d (.int .i64 a), .d (.int .i64 b)] => true | _ => false, fun | [.d (.int .i64 a), .d (.int .i64 b)] => ([.one ((.int .i64 (tInt (a == b))), false)], []) | _ => ([], []), fun _ => [], false⟩
end impl_functionOfTwo_6
namespace impl_functionOfTwo_6
noncomputable def X : List Entry := [impl_truth.E]
def A : Ann := ⟨[], [], [], [], []⟩
theorem e (fuel : Nat) (p0 : Int) (p1 : Int) : runF Try.prog X A fuel Try.f33 [.d (.int .i64 p0), .d (.int .i64 p1)] =
  some ([.one ((.int .i64 (tInt (((p0 : Int) == p1)))), false)], []) := by kernel_rfl
end impl_functionOfTwo_6
theorem impl_functionOfTwo_6.ok_of (hX : ∀ E ∈ impl_functionOfTwo_6.X, CallSpec Try.prog E) (h : ∀ (a : Int) (b : Int), (true) = true → ∃ fuel, runF Try.prog impl_functionOfTwo_6.X impl_functionOfTwo_6.A fuel Try.f33 [.d (.int .i64 a), .d (.int .i64 b)] = some ([.one ((.int .i64 (tInt (a == b))), false)], [])) : CallSpec Try.prog impl_functionOfTwo_6.E :=
  callSpec_of hX (by kernel_rfl) (by kernel_rfl) (by kernel_rfl) (by kernel_rfl) (fun xs hp => by
    dsimp only [impl_functionOfTwo_6.E] at hp ⊢
    split at hp
    · exact h _ _ hp
    · cases hp)
theorem impl_functionOfTwo_6.ok : CallSpec Try.prog impl_functionOfTwo_6.E := impl_functionOfTwo_6.ok_of (by simp [impl_functionOfTwo_6.X, impl_truth.ok]) fun a b _ => ⟨0, by rw [impl_functionOfTwo_6.e]⟩

namespace impl_functionOfTwo_7
def E : Entry := ⟨35, true, false, fun | [.d (.int .i64 a), .d (.int .i64 b)] => true | _ => false, fun | [.d (.int .i64 a), .d (.int .i64 b)] => ([.one ((.int .i64 (tInt (decide (a < b)))), false)], []) | _ => ([], []), fun _ => [], false⟩
end impl_functionOfTwo_7
namespace impl_functionOfTwo_7
noncomputable def X : List Entry := [impl_truth.E]
def A : Ann := ⟨[], [], [], [], []⟩
theorem e (fuel : Nat) (p0 : Int) (p1 : Int) : runF Try.prog X A fuel Try.f35 [.d (.int .i64 p0), .d (.int .i64 p1)] =
  some ([.one ((.int .i64 (tInt ((decide ((p0 : Int) < p1))))), false)], []) := by kernel_rfl
end impl_functionOfTwo_7
theorem impl_functionOfTwo_7.ok_of (hX : ∀ E ∈ impl_functionOfTwo_7.X, CallSpec Try.prog E) (h : ∀ (a : Int) (b : Int), (true) = true → ∃ fuel, runF Try.prog impl_functionOfTwo_7.X impl_functionOfTwo_7.A fuel Try.f35 [.d (.int .i64 a), .d (.int .i64 b)] = some ([.one ((.int .i64 (tInt (decide (a < b)))), false)], [])) : CallSpec Try.prog impl_functionOfTwo_7.E :=
  callSpec_of hX (by kernel_rfl) (by kernel_rfl) (by kernel_rfl) (by kernel_rfl) (fun xs hp => by
    dsimp only [impl_functionOfTwo_7.E] at hp ⊢
    split at hp
    · exact h _ _ hp
    · cases hp)
theorem impl_functionOfTwo_7.ok : CallSpec Try.prog impl_functionOfTwo_7.E := impl_functionOfTwo_7.ok_of (by simp [impl_functionOfTwo_7.X, impl_truth.ok]) fun a b _ => ⟨0, by rw [impl_functionOfTwo_7.e]⟩

namespace impl_restOf
def E : Entry := ⟨36, true, false, fun | [.d (.int .i64 d), .d (.int .i64 n)] => true | _ => false, fun | [.d (.int .i64 d), .d (.int .i64 n)] => ([.one ((.int .i64 (restV d n)), false)], []) | _ => ([], []), fun _ => [], false⟩
end impl_restOf
namespace impl_restOf
noncomputable def X : List Entry := []
def A : Ann := ⟨[], [], [], [], []⟩
theorem e (fuel : Nat) (p0 : Int) (p1 : Int) : runF Try.prog X A fuel Try.f36 [.d (.int .i64 p0), .d (.int .i64 p1)] =
  (bif (decide ((p0 : Int) ≤ 0)) then
  some ([.one ((.int .i64 p1), false)], [])
  else
  (bif decide ((p0 : Int) = 0) then
  none
  else
  (bif decide ((p0 : Int) = 0) then
  none
  else
  some ([.one ((.int .i64 (Int.tmod (IntKind.wrap .i64 ((Int.tmod p1 p0) + p0)) p0)), false)], [])))) := by kernel_rfl
end impl_restOf
theorem impl_restOf.ok_of (hX : ∀ E ∈ impl_restOf.X, CallSpec Try.prog E) (h : ∀ (d : Int) (n : Int), (true) = true → ∃ fuel, runF Try.prog impl_restOf.X impl_restOf.A fuel Try.f36 [.d (.int .i64 d), .d (.int .i64 n)] = some ([.one ((.int .i64 (restV d n)), false)], [])) : CallSpec Try.prog impl_restOf.E :=
  callSpec_of hX (by kernel_rfl) (by kernel_rfl) (by kernel_rfl) (by kernel_rfl) (fun xs hp => by
    dsimp only [impl_restOf.E] at hp ⊢
    split at hp
    · exact h _ _ hp
    · cases hp)
theorem impl_restOf.ok : CallSpec Try.prog impl_restOf.E := impl_restOf.ok_of (by simp [impl_restOf.X]) fun d n _ => ⟨0, by
  rw [impl_restOf.e]
  unfold restV
  by_cases h : d ≤ 0
  · rw [decide_eq_true h]; rfl
  · rw [decide_eq_false h, decide_eq_false (p := d = 0) (by omega)]; rfl⟩

namespace impl_functionOfTwo
def E : Entry := ⟨18, true, false, fun | [.d (.int .i64 op)] => true | _ => false, fun | [.d (.int .i64 op)] => ([.one (.nilf, false)], []) | _ => ([], []), fun | [.d (.int .i64 op)] => [(decide (op = 1), ([.one ((.clo 27 []), false)], [])), (decide (op = 2), ([.one ((.clo 29 []), false)], [])), (decide (op = 3), ([.one ((.clo 30 []), false)], [])), (decide (op = 4), ([.one ((.clo 31 []), false)], [])), (decide (op = 5), ([.one ((.clo 32 []), false)], [])), (decide (op = 6), ([.one ((.clo 33 []), false)], [])), (decide (op = 7), ([.one ((.clo 35 []), false)], [])), (decide (op = 8), ([.one ((.clo 36 []), false)], []))] | _ => [], false⟩
end impl_functionOfTwo
namespace impl_functionOfTwo
noncomputable def X : List Entry := []
def A : Ann := ⟨[], [], [], [], []⟩
theorem e (fuel : Nat) (p0 : Int) : runF Try.prog X A fuel Try.f18 [.d (.int .i64 p0)] =
  (bif (decide ((p0 : Int) < 0)) then
  some ([.one (.nilf, false)], [])
  else
  (bif (decide ((p0 : Int) ≥ 9)) then
  some ([.one (.nilf, false)], [])
  else
  (bif decide (p0 = ((0 : Nat) : Int)) then
  some ([.one (.nilf, false)], [])
  else
  (bif decide (p0 = ((1 : Nat) : Int)) then
  some ([.one ((.clo 27 []), false)], [])
  else
  (bif decide (p0 = ((2 : Nat) : Int)) then
  some ([.one ((.clo 29 []), false)], [])
  else
  (bif decide (p0 = ((3 : Nat) : Int)) then
  some ([.one ((.clo 30 []), false)], [])
  else
  (bif decide (p0 = ((4 : Nat) : Int)) then
  some ([.one ((.clo 31 []), false)], [])
  else
  (bif decide (p0 = ((5 : Nat) : Int)) then
  some ([.one ((.clo 32 []), false)], [])
  else
  (bif decide (p0 = ((6 : Nat) : Int)) then
  some ([.one ((.clo 33 []), false)], [])
  else
  (bif decide (p0 = ((7 : Nat) : Int)) then
  some ([.one ((.clo 35 []), false)], [])
  else
  (bif decide (p0 = ((8 : Nat) : Int)) then
  some ([.one ((.clo 36 []), false)], [])
  else
  none))))))))))) := by kernel_rfl
end impl_functionOfTwo
theorem impl_functionOfTwo.ok_of (hX : ∀ E ∈ impl_functionOfTwo.X, CallSpec Try.prog E) (h : ∀ (op : Int), (true) = true → ∃ fuel, runF Try.prog impl_functionOfTwo.X impl_functionOfTwo.A fuel Try.f18 [.d (.int .i64 op)] = some (bif decide (op = 1) then ([.one ((.clo 27 []), false)], []) else (bif decide (op = 2) then ([.one ((.clo 29 []), false)], []) else (bif decide (op = 3) then ([.one ((.clo 30 []), false)], []) else (bif decide (op = 4) then ([.one ((.clo 31 []), false)], []) else (bif decide (op = 5) then ([.one ((.clo 32 []), false)], []) else (bif decide (op = 6) then ([.one ((.clo 33 []), false)], []) else (bif decide (op = 7) then ([.one ((.clo 35 []), false)], []) else (bif decide (op = 8) then ([.one ((.clo 36 []), false)], []) else ([.one (.nilf, false)], [])))))))))) : CallSpec Try.prog impl_functionOfTwo.E :=
  callSpec_of hX (by kernel_rfl) (by kernel_rfl) (by kernel_rfl) (by kernel_rfl) (fun xs hp => by
    dsimp only [impl_functionOfTwo.E] at hp ⊢
    split at hp
    · exact h _ hp
    · cases hp)
theorem impl_functionOfTwo.ok : CallSpec Try.prog impl_functionOfTwo.E := impl_functionOfTwo.ok_of (by simp [impl_functionOfTwo.X]) fun op _ => ⟨0, by
  rw [impl_functionOfTwo.e]
  cases ho : opOk op with
  | true => rcases opOk_cases ho with rfl | rfl | rfl | rfl | rfl | rfl | rfl | rfl <;> rfl
  | false =>
    have h := opOk_no ho
    rw [decide_eq_false (p := op = 1) (by omega), decide_eq_false (p := op = 2) (by omega), decide_eq_false (p := op = 3) (by omega), decide_eq_false (p := op = 4) (by omega),
      decide_eq_false (p := op = 5) (by omega), decide_eq_false (p := op = 6) (by omega), decide_eq_false (p := op = 7) (by omega), decide_eq_false (p := op = 8) (by omega)]
    by_cases h1 : op < 0
    · rw [decide_eq_true h1]; rfl
    · by_cases h2 : op ≥ 9
      · rw [decide_eq_false h1, decide_eq_true h2]; rfl
      · have : op = 0 := by omega
        subst this
        rfl⟩

namespace impl_isNumber
def E : Entry := ⟨19, true, false, fun | [.d (.int .i64 v)] => true | _ => false, fun | [.d (.int .i64 v)] => ([.one ((.bool (numB v)), false)], []) | _ => ([], []), fun _ => [], false⟩
end impl_isNumber
namespace impl_isNumber
noncomputable def X : List Entry := []
def A : Ann := ⟨[], [], [], [], []⟩
theorem e (fuel : Nat) (p0 : Int) : runF Try.prog X A fuel Try.f19 [.d (.int .i64 p0)] =
  (bif (decide (((-1000000) : Int) ≤ p0)) then
  some ([.one ((.bool (decide ((p0 : Int) ≤ 1000000))), false)], [])
  else
  some ([.one ((.bool false), false)], [])) := by kernel_rfl
end impl_isNumber
theorem impl_isNumber.ok_of (hX : ∀ E ∈ impl_isNumber.X, CallSpec Try.prog E) (h : ∀ (v : Int), (true) = true → ∃ fuel, runF Try.prog impl_isNumber.X impl_isNumber.A fuel Try.f19 [.d (.int .i64 v)] = some ([.one ((.bool (numB v)), false)], [])) : CallSpec Try.prog impl_isNumber.E :=
  callSpec_of hX (by kernel_rfl) (by kernel_rfl) (by kernel_rfl) (by kernel_rfl) (fun xs hp => by
    dsimp only [impl_isNumber.E] at hp ⊢
    split at hp
    · exact h _ hp
    · cases hp)
theorem impl_isNumber.ok : CallSpec Try.prog impl_isNumber.E := impl_isNumber.ok_of (by simp [impl_isNumber.X]) fun v _ => ⟨0, by
  rw [impl_isNumber.e]
  unfold numB
  cases decide (-1000000 ≤ v) <;> rfl⟩

namespace impl_Operate
def E : Entry := ⟨10, true, false, fun | [.d (.int .i64 op), .d (.int .i64 a), .d (.int .i64 b)] => true | _ => false, fun | [.d (.int .i64 op), .d (.int .i64 a), .d (.int .i64 b)] => ([.one ((.int .i64 (operV op a b)), false)], []) | _ => ([], []), fun _ => [], false⟩
end impl_Operate
namespace impl_Operate
noncomputable def X : List Entry := [impl_functionOfTwo.E, impl_isNumber.E, impl_restOf.E, impl_functionOfTwo_7.E, impl_functionOfTwo_6.E, impl_functionOfTwo_5.E, impl_functionOfTwo_4.E, impl_functionOfTwo_3.E, impl_functionOfTwo_2.E, impl_functionOfTwo_1.E]
def A : Ann := ⟨[], [], [], [], []⟩
theorem e (fuel : Nat) (p0 : Int) (p1 : Int) (p2 : Int) : runF Try.prog X A fuel Try.f10 [.d (.int .i64 p0), .d (.int .i64 p1), .d (.int .i64 p2)] =
  (bif decide (p0 = 1) then
  (bif (!(numB p1)) then
  some ([.one ((.int .i64 0), false)], [])
  else
  (bif (!(numB p2)) then
  some ([.one ((.int .i64 0), false)], [])
  else
  some ([.one ((.int .i64 (limV (IntKind.wrap .i64 (p1 + p2)))), false)], [])))
  else
  (bif decide (p0 = 2) then
  (bif (!(numB p1)) then
  some ([.one ((.int .i64 0), false)], [])
  else
  (bif (!(numB p2)) then
  some ([.one ((.int .i64 0), false)], [])
  else
  some ([.one ((.int .i64 (limV (IntKind.wrap .i64 (p1 - p2)))), false)], [])))
  else
  (bif decide (p0 = 3) then
  (bif (!(numB p1)) then
  some ([.one ((.int .i64 0), false)], [])
  else
  (bif (!(numB p2)) then
  some ([.one ((.int .i64 0), false)], [])
  else
  some ([.one ((.int .i64 (limV (IntKind.wrap .i64 (p1 * p2)))), false)], [])))
  else
  (bif decide (p0 = 4) then
  (bif (!(numB p1)) then
  some ([.one ((.int .i64 0), false)], [])
  else
  (bif (!(numB p2)) then
  some ([.one ((.int .i64 0), false)], [])
  else
  some ([.one ((.int .i64 (minI p1 p2)), false)], [])))
  else
  (bif decide (p0 = 5) then
  (bif (!(numB p1)) then
  some ([.one ((.int .i64 0), false)], [])
  else
  (bif (!(numB p2)) then
  some ([.one ((.int .i64 0), false)], [])
  else
  some ([.one ((.int .i64 (maxI p1 p2)), false)], [])))
  else
  (bif decide (p0 = 6) then
  (bif (!(numB p1)) then
  some ([.one ((.int .i64 0), false)], [])
  else
  (bif (!(numB p2)) then
  some ([.one ((.int .i64 0), false)], [])
  else
  some ([.one ((.int .i64 (tInt (p1 == p2))), false)], [])))
  else
  (bif decide (p0 = 7) then
  (bif (!(numB p1)) then
  some ([.one ((.int .i64 0), false)], [])
  else
  (bif (!(numB p2)) then
  some ([.one ((.int .i64 0), false)], [])
  else
  some ([.one ((.int .i64 (tInt (decide (p1 < p2)))), false)], [])))
  else
  (bif decide (p0 = 8) then
  (bif (!(numB p1)) then
  some ([.one ((.int .i64 0), false)], [])
  else
  (bif (!(numB p2)) then
  some ([.one ((.int .i64 0), false)], [])
  else
  some ([.one ((.int .i64 (restV p1 p2)), false)], [])))
  else
  some ([.one ((.int .i64 0), false)], []))))))))) := by kernel_rfl
end impl_Operate
theorem impl_Operate.ok_of (hX : ∀ E ∈ impl_Operate.X, CallSpec Try.prog E) (h : ∀ (op : Int) (a : Int) (b : Int), (true) = true → ∃ fuel, runF Try.prog impl_Operate.X impl_Operate.A fuel Try.f10 [.d (.int .i64 op), .d (.int .i64 a), .d (.int .i64 b)] = some ([.one ((.int .i64 (operV op a b)), false)], [])) : CallSpec Try.prog impl_Operate.E :=
  callSpec_of hX (by kernel_rfl) (by kernel_rfl) (by kernel_rfl) (by kernel_rfl) (fun xs hp => by
    dsimp only [impl_Operate.E] at hp ⊢
    split at hp
    · exact h _ _ _ hp
    · cases hp)
theorem impl_Operate.ok : CallSpec Try.prog impl_Operate.E := impl_Operate.ok_of (by simp [impl_Operate.X, impl_functionOfTwo.ok, impl_isNumber.ok, impl_restOf.ok, impl_functionOfTwo_1.ok, impl_functionOfTwo_2.ok, impl_functionOfTwo_3.ok, impl_functionOfTwo_4.ok, impl_functionOfTwo_5.ok, impl_functionOfTwo_6.ok, impl_functionOfTwo_7.ok]) fun op a b _ => ⟨0, by
  rw [impl_Operate.e]
  unfold operV
  cases ho : opOk op with
  | true =>
    rcases opOk_cases ho with rfl | rfl | rfl | rfl | rfl | rfl | rfl | rfl <;> cases numB a <;> cases numB b <;> rfl
  | false =>
    have h := opOk_no ho
    rw [decide_eq_false (p := op = 1) (by omega), decide_eq_false (p := op = 2) (by omega), decide_eq_false (p := op = 3) (by omega), decide_eq_false (p := op = 4) (by omega),
      decide_eq_false (p := op = 5) (by omega), decide_eq_false (p := op = 6) (by omega), decide_eq_false (p := op = 7) (by omega), decide_eq_false (p := op = 8) (by omega)]
    rfl⟩

namespace laws_FnExactOperate
def E : Entry := ⟨3, true, false, fun | [.d (.int .i64 op), .d (.int .i64 a), .d (.int .i64 b)] => true | _ => false, fun | [.d (.int .i64 op), .d (.int .i64 a), .d (.int .i64 b)] => ([.one ((.bool true), false)], []) | _ => ([], []), fun _ => [], false⟩
end laws_FnExactOperate
namespace laws_FnExactOperate
noncomputable def X : List Entry := [spec_Operate.E, impl_Operate.E]
def A : Ann := ⟨[], [], [], [], []⟩
theorem e (fuel : Nat) (p0 : Int) (p1 : Int) (p2 : Int) : runF Try.prog X A fuel Try.f3 [.d (.int .i64 p0), .d (.int .i64 p1), .d (.int .i64 p2)] =
  (bif (((operV p0 p1 p2) : Int) != (operV p0 p1 p2)) then
  some ([.one ((.bool false), false)], [])
  else
  some ([.one ((.bool true), false)], [])) := by kernel_rfl
end laws_FnExactOperate
theorem laws_FnExactOperate.ok_of (hX : ∀ E ∈ laws_FnExactOperate.X, CallSpec Try.prog E) (h : ∀ (op : Int) (a : Int) (b : Int), (true) = true → ∃ fuel, runF Try.prog laws_FnExactOperate.X laws_FnExactOperate.A fuel Try.f3 [.d (.int .i64 op), .d (.int .i64 a), .d (.int .i64 b)] = some ([.one ((.bool true), false)], [])) : CallSpec Try.prog laws_FnExactOperate.E :=
  callSpec_of hX (by kernel_rfl) (by kernel_rfl) (by kernel_rfl) (by kernel_rfl) (fun xs hp => by
    dsimp only [laws_FnExactOperate.E] at hp ⊢
    split at hp
    · exact h _ _ _ hp
    · cases hp)
theorem laws_FnExactOperate.ok : CallSpec Try.prog laws_FnExactOperate.E := laws_FnExactOperate.ok_of (by simp [laws_FnExactOperate.X, spec_Operate.ok, impl_Operate.ok]) fun op a b _ => ⟨0, by rw [laws_FnExactOperate.e]; simp only [bne_self_eq_false, cond_false]⟩

namespace spec_neutral
def E : Entry := ⟨20, true, false, fun | [.d (.int .i64 op)] => opOk op | _ => false, fun | [.d (.int .i64 op)] => ([.one ((.int .i64 (neuF op)), false)], []) | _ => ([], []), fun _ => [], false⟩
end spec_neutral
namespace spec_neutral
noncomputable def X : List Entry := []
def A : Ann := ⟨[], [], [], [], []⟩
theorem e (fuel : Nat) (p0 : Int) : runF Try.prog X A fuel Try.f20 [.d (.int .i64 p0)] =
  (idx (IntKind.wrap .i64 (p0 - 1)) [0, 0, 1, 1000000, (-1000000), 1, 0, 0].length).bind fun k1 =>
  ([0, 0, 1, 1000000, (-1000000), 1, 0, 0][k1]?).bind fun v2 =>
  some ([.one ((.int .i64 v2), false)], []) := by kernel_rfl
end spec_neutral
theorem spec_neutral.ok_of (hX : ∀ E ∈ spec_neutral.X, CallSpec Try.prog E) (h : ∀ (op : Int), (opOk op) = true → ∃ fuel, runF Try.prog spec_neutral.X spec_neutral.A fuel Try.f20 [.d (.int .i64 op)] = some ([.one ((.int .i64 (neuF op)), false)], [])) : CallSpec Try.prog spec_neutral.E :=
  callSpec_of hX (by kernel_rfl) (by kernel_rfl) (by kernel_rfl) (by kernel_rfl) (fun xs hp => by
    dsimp only [spec_neutral.E] at hp ⊢
    split at hp
    · exact h _ hp
    · cases hp)
theorem spec_neutral.ok : CallSpec Try.prog spec_neutral.E := spec_neutral.ok_of (by simp [spec_neutral.X]) fun op h => ⟨0, by
  rw [spec_neutral.e]
  rcases opOk_cases h with rfl | rfl | rfl | rfl | rfl | rfl | rfl | rfl <;> rfl⟩

namespace spec_NeutralOf
def E : Entry := ⟨11, true, false, fun | [.d (.int .i64 op)] => true | _ => false, fun | [.d (.int .i64 op)] => ([.one ((.int .i64 (neuV op)), false)], []) | _ => ([], []), fun _ => [], false⟩
end spec_NeutralOf
namespace spec_NeutralOf
noncomputable def X : List Entry := [spec_validOp.E, spec_neutral.E]
def A : Ann := ⟨[], [], [], [], []⟩
theorem e (fuel : Nat) (p0 : Int) : runF Try.prog X A fuel Try.f11 [.d (.int .i64 p0)] =
  (bif (!(opOk p0)) then
  some ([.one ((.int .i64 0), false)], [])
  else
  (bif opOk p0 then
  some ([.one ((.int .i64 (neuF p0)), false)], [])
  else
  none)) := by kernel_rfl
end spec_NeutralOf
theorem spec_NeutralOf.ok_of (hX : ∀ E ∈ spec_NeutralOf.X, CallSpec Try.prog E) (h : ∀ (op : Int), (true) = true → ∃ fuel, runF Try.prog spec_NeutralOf.X spec_NeutralOf.A fuel Try.f11 [.d (.int .i64 op)] = some ([.one ((.int .i64 (neuV op)), false)], [])) : CallSpec Try.prog spec_NeutralOf.E :=
  callSpec_of hX (by kernel_rfl) (by kernel_rfl) (by kernel_rfl) (by kernel_rfl) (fun xs hp => by
    dsimp only [spec_NeutralOf.E] at hp ⊢
    split at hp
    · exact h _ hp
    · cases hp)
theorem spec_NeutralOf.ok : CallSpec Try.prog spec_NeutralOf.E := spec_NeutralOf.ok_of (by simp [spec_NeutralOf.X, spec_validOp.ok, spec_neutral.ok]) fun op _ => ⟨0, by
  rw [spec_NeutralOf.e]
  unfold neuV
  cases opOk op <;> rfl⟩

namespace impl_NeutralOf
def E : Entry := ⟨12, true, false, fun | [.d (.int .i64 op)] => true | _ => false, fun | [.d (.int .i64 op)] => ([.one ((.int .i64 (neuV op)), false)], []) | _ => ([], []), fun _ => [], false⟩
end impl_NeutralOf
namespace impl_NeutralOf
noncomputable def X : List Entry := []
def A : Ann := ⟨[], [], [], [], []⟩
theorem e (fuel : Nat) (p0 : Int) : runF Try.prog X A fuel Try.f12 [.d (.int .i64 p0)] =
  (bif ((p0 : Int) == 3) then
  some ([.one ((.int .i64 1), false)], [])
  else
  (bif ((p0 : Int) == 6) then
  some ([.one ((.int .i64 1), false)], [])
  else
  (bif ((p0 : Int) == 4) then
  some ([.one ((.int .i64 1000000), false)], [])
  else
  (bif ((p0 : Int) == 5) then
  some ([.one ((.int .i64 (-1000000)), false)], [])
  else
  some ([.one ((.int .i64 0), false)], []))))) := by kernel_rfl
end impl_NeutralOf
theorem impl_NeutralOf.ok_of (hX : ∀ E ∈ impl_NeutralOf.X, CallSpec Try.prog E) (h : ∀ (op : Int), (true) = true → ∃ fuel, runF Try.prog impl_NeutralOf.X impl_NeutralOf.A fuel Try.f12 [.d (.int .i64 op)] = some ([.one ((.int .i64 (neuV op)), false)], [])) : CallSpec Try.prog impl_NeutralOf.E :=
  callSpec_of hX (by kernel_rfl) (by kernel_rfl) (by kernel_rfl) (by kernel_rfl) (fun xs hp => by
    dsimp only [impl_NeutralOf.E] at hp ⊢
    split at hp
    · exact h _ hp
    · cases hp)
theorem impl_NeutralOf.ok : CallSpec Try.prog impl_NeutralOf.E := impl_NeutralOf.ok_of (by simp [impl_NeutralOf.X]) fun op _ => ⟨0, by
  rw [impl_NeutralOf.e]
  unfold neuV
  cases ho : opOk op with
  | true => rcases opOk_cases ho with rfl | rfl | rfl | rfl | rfl | rfl | rfl | rfl <;> rfl
  | false =>
    have h := opOk_no ho
    rw [show (op == 3) = false by simp; omega, show (op == 6) = false by simp; omega, show (op == 4) = false by simp; omega, show (op == 5) = false by simp; omega]
    rfl⟩

namespace laws_FnExactNeutralOf
def E : Entry := ⟨4, true, false, fun | [.d (.int .i64 op)] => true | _ => false, fun | [.d (.int .i64 op)] => ([.one ((.bool true), false)], []) | _ => ([], []), fun _ => [], false⟩
end laws_FnExactNeutralOf
namespace laws_FnExactNeutralOf
noncomputable def X : List Entry := [spec_NeutralOf.E, impl_NeutralOf.E]
def A : Ann := ⟨[], [], [], [], []⟩
theorem e (fuel : Nat) (p0 : Int) : runF Try.prog X A fuel Try.f4 [.d (.int .i64 p0)] =
  (bif (((neuV p0) : Int) != (neuV p0)) then
  some ([.one ((.bool false), false)], [])
  else
  some ([.one ((.bool true), false)], [])) := by kernel_rfl
end laws_FnExactNeutralOf
theorem laws_FnExactNeutralOf.ok_of (hX : ∀ E ∈ laws_FnExactNeutralOf.X, CallSpec Try.prog E) (h : ∀ (op : Int), (true) = true → ∃ fuel, runF Try.prog laws_FnExactNeutralOf.X laws_FnExactNeutralOf.A fuel Try.f4 [.d (.int .i64 op)] = some ([.one ((.bool true), false)], [])) : CallSpec Try.prog laws_FnExactNeutralOf.E :=
  callSpec_of hX (by kernel_rfl) (by kernel_rfl) (by kernel_rfl) (by kernel_rfl) (fun xs hp => by
    dsimp only [laws_FnExactNeutralOf.E] at hp ⊢
    split at hp
    · exact h _ hp
    · cases hp)
theorem laws_FnExactNeutralOf.ok : CallSpec Try.prog laws_FnExactNeutralOf.E := laws_FnExactNeutralOf.ok_of (by simp [laws_FnExactNeutralOf.X, spec_NeutralOf.ok, impl_NeutralOf.ok]) fun op _ => ⟨0, by rw [laws_FnExactNeutralOf.e]; simp only [bne_self_eq_false, cond_false]⟩

namespace spec_newReader
def E : Entry := ⟨21, false, false, fun | [.d (.ints .u8 bs)] => true | _ => false, fun | [.d (.ints .u8 bs)] => ([.box [((.ints .u8 (cutC bs)), false), ((.int .i64 0), false)]], []) | _ => ([], []), fun _ => [], true⟩
end spec_newReader
namespace spec_newReader
noncomputable def X : List Entry := []
def A : Ann := ⟨[], [], [], [], []⟩
theorem e (fuel : Nat) (p0 : List Int) : runF Try.prog X A fuel Try.f21 [.d (.ints .u8 p0)] =
  (bif (decide ((((p0.length : Nat) : Int) : Int) > 2000)) then
  (cutEnds p0.length (none) (some (.imm (.int .i64 2000)))).bind fun q1 =>
  some ([.box [((.ints .u8 ((p0.drop q1.1).take (q1.2 - q1.1))), false), ((.int .i64 0), false)]], [])
  else
  some ([.box [((.ints .u8 p0), false), ((.int .i64 0), false)]], [])) := by kernel_rfl
end spec_newReader
theorem spec_newReader.ok_of (hX : ∀ E ∈ spec_newReader.X, CallSpec Try.prog E) (h : ∀ (bs : List Int), (true) = true → ∃ fuel, runF Try.prog spec_newReader.X spec_newReader.A fuel Try.f21 [.d (.ints .u8 bs)] = some ([.box [((.ints .u8 (cutC bs)), false), ((.int .i64 0), false)]], [])) : CallSpec Try.prog spec_newReader.E :=
  callSpec_of hX (by kernel_rfl) (by kernel_rfl) (by kernel_rfl) (by kernel_rfl) (fun xs hp => by
    dsimp only [spec_newReader.E] at hp ⊢
    split at hp
    · exact h _ hp
    · cases hp)
theorem spec_newReader.ok : CallSpec Try.prog spec_newReader.E := spec_newReader.ok_of (by simp [spec_newReader.X]) fun bs _ => ⟨0, by
  rw [spec_newReader.e]
  unfold cutC
  by_cases h : ((bs.length : Nat) : Int) > 2000
  · rw [decide_eq_true h]
    have : cutEnds bs.length none (some (.imm (.int .i64 2000))) = some (0, 2000) := by
      unfold cutEnds
      simp only
      rw [if_pos ⟨by omega, by omega⟩]
      rfl
    rw [this]
    rfl
  · rw [decide_eq_false h]
    rfl⟩

namespace spec_reader_pick
def E : Entry := ⟨37, false, false, fun | [.box [(.ints .u8 bs), (.int .i64 p)], .d (.int .i64 n)] => rdOk bs p && decide ((n : Int) ≤ 1048576) | _ => false, fun | [.box [(.ints .u8 bs), (.int .i64 p)], .d (.int .i64 n)] => ([.one ((.int .i64 (pickV bs p n)), false)], [[(.ints .u8 bs), (.int .i64 (p + 1))]]) | _ => ([], []), fun _ => [], false⟩
end spec_reader_pick
namespace spec_reader_pick
noncomputable def X : List Entry := []
def A : Ann := ⟨[], [], [], [(7, [0, 1, 2, 4, 5, 6, 7, 15, 16, 17, 19, 20, 21, 22, 23, 24, 33, 34, 36, 37, 38, 39, 3, 8, 9, 10, 11, 12, 13, 14, 18, 25, 26, 27, 28, 29, 30, 31, 32, 35, 40, 41, 42, 43, 44, 45])], []⟩
theorem e (fuel : Nat) (p0q0 : List Int) (p0q1 : Int) (p1 : Int) : runF Try.prog X A fuel Try.f37 [.box [(.ints .u8 p0q0), (.int .i64 p0q1)], .d (.int .i64 p1)] =
  (bif (decide ((p1 : Int) < 1)) then
  some ([.one ((.int .i64 0), false)], [[(.ints .u8 p0q0), (.int .i64 (IntKind.wrap .i64 (p0q1 + 1)))]])
  else
  (bif ((((p0q0.length : Nat) : Int) : Int) == 0) then
  some ([.one ((.int .i64 0), false)], [[(.ints .u8 p0q0), (.int .i64 (IntKind.wrap .i64 (p0q1 + 1)))]])
  else
  (bif (decide (((IntKind.wrap .i64 ((IntKind.wrap .i64 (p0q1 + 1)) - 1)) : Int) < ((p0q0.length : Nat) : Int))) then
  (idx (IntKind.wrap .i64 ((IntKind.wrap .i64 (p0q1 + 1)) - 1)) p0q0.length).bind fun k1 =>
  (p0q0[k1]?).bind fun v2 =>
  (bif decide ((p1 : Int) = 0) then
  none
  else
  some ([.one ((.int .i64 (Int.tmod (IntKind.wrap .i64 v2) p1)), false)], [[(.ints .u8 p0q0), (.int .i64 (IntKind.wrap .i64 (p0q1 + 1)))]]))
  else
  (bif decide ((((p0q0.length : Nat) : Int) : Int) = 0) then
  none
  else
  (idx (Int.tmod (IntKind.wrap .i64 ((IntKind.wrap .i64 (p0q1 + 1)) - 1)) ((p0q0.length : Nat) : Int)) p0q0.length).bind fun k3 =>
  (p0q0[k3]?).bind fun v4 =>
  (bif decide ((((p0q0.length : Nat) : Int) : Int) = 0) then
  none
  else
  (idx (Int.tmod (IntKind.wrap .i64 ((IntKind.wrap .i64 ((IntKind.wrap .i64 ((IntKind.wrap .i64 (p0q1 + 1)) - 1)) * 7)) + 3)) ((p0q0.length : Nat) : Int)) p0q0.length).bind fun k5 =>
  (p0q0[k5]?).bind fun v6 =>
  (bif decide ((((p0q0.length : Nat) : Int) : Int) = 0) then
  none
  else
  (bif decide ((p1 : Int) = 0) then
  none
  else
  some ([.one ((.int .i64 (Int.tmod (IntKind.wrap .i64 ((BitVec.ofInt (IntKind.bits .i64) (IntKind.wrap .i64 ((IntKind.wrap .i64 ((IntKind.wrap .i64 ((IntKind.wrap .i64 ((IntKind.wrap .i64 v4) * 131)) + (IntKind.wrap .i64 ((IntKind.wrap .i64 v6) * 1117)))) + (IntKind.wrap .i64 ((IntKind.wrap .i64 ((IntKind.wrap .i64 (p0q1 + 1)) - 1)) * 29)))) + (IntKind.wrap .i64 ((IntKind.wrap .i64 (Int.tdiv (IntKind.wrap .i64 ((IntKind.wrap .i64 (p0q1 + 1)) - 1)) ((p0q0.length : Nat) : Int))) * 53)))) ^^^ BitVec.ofInt (IntKind.bits .i64) (IntKind.wrap .i64 (Int.tdiv (IntKind.wrap .i64 ((IntKind.wrap .i64 ((IntKind.wrap .i64 ((IntKind.wrap .i64 ((IntKind.wrap .i64 v4) * 131)) + (IntKind.wrap .i64 ((IntKind.wrap .i64 v6) * 1117)))) + (IntKind.wrap .i64 ((IntKind.wrap .i64 ((IntKind.wrap .i64 (p0q1 + 1)) - 1)) * 29)))) + (IntKind.wrap .i64 ((IntKind.wrap .i64 (Int.tdiv (IntKind.wrap .i64 ((IntKind.wrap .i64 (p0q1 + 1)) - 1)) ((p0q0.length : Nat) : Int))) * 53)))) 64))).toNat : Int)) p1)), false)], [[(.ints .u8 p0q0), (.int .i64 (IntKind.wrap .i64 (p0q1 + 1)))]])))))))) := by kernel_rfl
end spec_reader_pick
theorem spec_reader_pick.ok_of (hX : ∀ E ∈ spec_reader_pick.X, CallSpec Try.prog E) (h : ∀ (bs : List Int) (p : Int) (n : Int), (rdOk bs p && decide ((n : Int) ≤ 1048576)) = true → ∃ fuel, runF Try.prog spec_reader_pick.X spec_reader_pick.A fuel Try.f37 [.box [(.ints .u8 bs), (.int .i64 p)], .d (.int .i64 n)] = some ([.one ((.int .i64 (pickV bs p n)), false)], [[(.ints .u8 bs), (.int .i64 (p + 1))]])) : CallSpec Try.prog spec_reader_pick.E :=
  callSpec_of hX (by kernel_rfl) (by kernel_rfl) (by kernel_rfl) (by kernel_rfl) (fun xs hp => by
    dsimp only [spec_reader_pick.E] at hp ⊢
    split at hp
    · exact h _ _ _ hp
    · cases hp)
theorem spec_reader_pick.ok : CallSpec Try.prog spec_reader_pick.E := spec_reader_pick.ok_of (by simp [spec_reader_pick.X]) fun bs p n h => ⟨0, by
  simp only [Bool.and_eq_true, decide_eq_true_eq] at h
  obtain ⟨h0, h1, h2, h3⟩ := rdOk_inv h.1
  have hP := @wS (p + 1) (by omega) (by omega)
  have hK := @wS (p + 1 - 1) (by omega) (by omega)
  rw [show p + 1 - 1 = p by omega] at hK
  rw [spec_reader_pick.e]
  simp only [hP, show p + 1 - 1 = p by omega, hK]
  unfold pickV
  by_cases hn : n < 1
  · rw [decide_eq_true hn]; rfl
  rw [decide_eq_false hn, cond_false, cond_false]
  by_cases hL : bs.length = 0
  · rw [show (((bs.length : Nat) : Int) == 0) = true by simp [hL]]; rfl
  rw [beq0 hL, cond_false, cond_false]
  by_cases hp : p < ((bs.length : Nat) : Int)
  · have hlt : p.toNat < bs.length := by omega
    have hi : idx p bs.length = some p.toNat := by unfold idx; rw [if_pos ⟨h0, hp⟩]
    rw [decide_eq_true hp, hi, decide_eq_false (p := n = 0) (by omega)]
    simp [hlt]
  · have t1 := tmod_bd (x := p) (n := ((bs.length : Nat) : Int)) h0 (by omega)
    have e7 := @wS (p * 7) (by omega) (by omega)
    have e8 := @wS (p * 7 + 3) (by omega) (by omega)
    have t2 := tmod_bd (x := p * 7 + 3) (n := ((bs.length : Nat) : Int)) (by omega) (by omega)
    have i1 : idx (Int.tmod p ((bs.length : Nat) : Int)) bs.length = some (Int.tmod p ((bs.length : Nat) : Int)).toNat := by unfold idx; rw [if_pos t1]
    have i2 : idx (Int.tmod (p * 7 + 3) ((bs.length : Nat) : Int)) bs.length = some (Int.tmod (p * 7 + 3) ((bs.length : Nat) : Int)).toNat := by unfold idx; rw [if_pos t2]
    have g1 : (Int.tmod p ((bs.length : Nat) : Int)).toNat < bs.length := by omega
    have g2 : (Int.tmod (p * 7 + 3) ((bs.length : Nat) : Int)).toNat < bs.length := by omega
    have q1 : bs[(Int.tmod p ((bs.length : Nat) : Int)).toNat]? = some (bs.getD (Int.tmod p ((bs.length : Nat) : Int)).toNat 0) := by simp [g1]
    have q2 : bs[(Int.tmod (p * 7 + 3) ((bs.length : Nat) : Int)).toNat]? = some (bs.getD (Int.tmod (p * 7 + 3) ((bs.length : Nat) : Int)).toNat 0) := by simp [g2]
    rw [decide_eq_false hp, decide_eq_false (p := (((bs.length : Nat) : Int) = 0)) (by omega), decide_eq_false (p := n = 0) (by omega), e7, e8, i1, i2]
    simp only [cond_false, Option.bind_some, q1, q2]
    rfl⟩

namespace spec_reader_one
def E : Entry := ⟨38, false, false, fun | [.box [(.ints .u8 bs), (.int .i64 p)], .d (.ints .i64 xs)] => rdOk bs p && decide (0 < (xs : List Int).length) && decide ((xs : List Int).length ≤ 1048576) | _ => false, fun | [.box [(.ints .u8 bs), (.int .i64 p)], .d (.ints .i64 xs)] => ([.one ((.int .i64 (oneV bs p xs)), false)], [[(.ints .u8 bs), (.int .i64 (p + 1))]]) | _ => ([], []), fun _ => [], false⟩
end spec_reader_one
namespace spec_reader_one
noncomputable def X : List Entry := [spec_reader_pick.E]
def A : Ann := ⟨[], [], [], [], []⟩
theorem e (fuel : Nat) (p0q0 : List Int) (p0q1 : Int) (p1 : List Int) : runF Try.prog X A fuel Try.f38 [.box [(.ints .u8 p0q0), (.int .i64 p0q1)], .d (.ints .i64 p1)] =
  (bif rdOk p0q0 p0q1 && decide (((((p1.length : Nat) : Int)) : Int) ≤ 1048576) then
  (idx (pickV p0q0 p0q1 (((p1.length : Nat) : Int))) p1.length).bind fun k1 =>
  (p1[k1]?).bind fun v2 =>
  some ([.one ((.int .i64 v2), false)], [[(.ints .u8 p0q0), (.int .i64 (p0q1 + 1))]])
  else
  none) := by kernel_rfl
end spec_reader_one
theorem spec_reader_one.ok_of (hX : ∀ E ∈ spec_reader_one.X, CallSpec Try.prog E) (h : ∀ (bs : List Int) (p : Int) (xs : List Int), (rdOk bs p && decide (0 < (xs : List Int).length) && decide ((xs : List Int).length ≤ 1048576)) = true → ∃ fuel, runF Try.prog spec_reader_one.X spec_reader_one.A fuel Try.f38 [.box [(.ints .u8 bs), (.int .i64 p)], .d (.ints .i64 xs)] = some ([.one ((.int .i64 (oneV bs p xs)), false)], [[(.ints .u8 bs), (.int .i64 (p + 1))]])) : CallSpec Try.prog spec_reader_one.E :=
  callSpec_of hX (by kernel_rfl) (by kernel_rfl) (by kernel_rfl) (by kernel_rfl) (fun xs hp => by
    dsimp only [spec_reader_one.E] at hp ⊢
    split at hp
    · exact h _ _ _ hp
    · cases hp)
theorem spec_reader_one.ok : CallSpec Try.prog spec_reader_one.E := spec_reader_one.ok_of (by simp [spec_reader_one.X, spec_reader_pick.ok]) fun bs p xs h => ⟨0, by
  simp only [Bool.and_eq_true, decide_eq_true_eq] at h
  have hb := pick_bd (n := ((xs.length : Nat) : Int)) h.1.1 (by omega)
  have hi : idx (pickV bs p ((xs.length : Nat) : Int)) xs.length = some (pickV bs p ((xs.length : Nat) : Int)).toNat := by unfold idx; rw [if_pos hb]
  have g : (pickV bs p ((xs.length : Nat) : Int)).toNat < xs.length := by omega
  rw [spec_reader_one.e, h.1.1, decide_eq_true (p := (((xs.length : Nat) : Int) ≤ 1048576)) (by omega), hi]
  unfold oneV
  simp [g]⟩

namespace spec_anyOp
def E : Entry := ⟨22, false, false, fun | [.box [(.ints .u8 bs), (.int .i64 p)]] => rdOk bs (p + 1) && rdOk bs p | _ => false, fun | [.box [(.ints .u8 bs), (.int .i64 p)]] => ([.one ((.int .i64 (anyOpV bs p)), false)], [[(.ints .u8 bs), (.int .i64 (p + 2))]]) | _ => ([], []), fun _ => [], false⟩
end spec_anyOp
namespace spec_anyOp
noncomputable def X : List Entry := [spec_reader_pick.E, spec_reader_one.E]
def A : Ann := ⟨[], [], [], [], [7]⟩
theorem e (fuel : Nat) (p0q0 : List Int) (p0q1 : Int) : runF Try.prog X A fuel Try.f22 [.box [(.ints .u8 p0q0), (.int .i64 p0q1)]] =
  (bif rdOk p0q0 p0q1 && decide ((16 : Int) ≤ 1048576) then
  (bif (((pickV p0q0 p0q1 16) : Int) == 0) then
  (bif rdOk p0q0 ((p0q1 + 1)) && decide (0 < (([0, 9, (-1)]) : List Int).length) && decide ((([0, 9, (-1)]) : List Int).length ≤ 1048576) then
  some ([.one ((.int .i64 (oneV p0q0 ((p0q1 + 1)) ([0, 9, (-1)]))), false)], [[(.ints .u8 p0q0), (.int .i64 (((p0q1 + 1)) + 1))]])
  else
  none)
  else
  (bif rdOk p0q0 ((p0q1 + 1)) && decide ((8 : Int) ≤ 1048576) then
  some ([.one ((.int .i64 (IntKind.wrap .i64 (1 + (pickV p0q0 ((p0q1 + 1)) 8)))), false)], [[(.ints .u8 p0q0), (.int .i64 (((p0q1 + 1)) + 1))]])
  else
  none))
  else
  none) := by kernel_rfl
end spec_anyOp
theorem spec_anyOp.ok_of (hX : ∀ E ∈ spec_anyOp.X, CallSpec Try.prog E) (h : ∀ (bs : List Int) (p : Int), (rdOk bs (p + 1) && rdOk bs p) = true → ∃ fuel, runF Try.prog spec_anyOp.X spec_anyOp.A fuel Try.f22 [.box [(.ints .u8 bs), (.int .i64 p)]] = some ([.one ((.int .i64 (anyOpV bs p)), false)], [[(.ints .u8 bs), (.int .i64 (p + 2))]])) : CallSpec Try.prog spec_anyOp.E :=
  callSpec_of hX (by kernel_rfl) (by kernel_rfl) (by kernel_rfl) (by kernel_rfl) (fun xs hp => by
    dsimp only [spec_anyOp.E] at hp ⊢
    split at hp
    · exact h _ _ hp
    · cases hp)
theorem spec_anyOp.ok : CallSpec Try.prog spec_anyOp.E := spec_anyOp.ok_of (by simp [spec_anyOp.X, spec_reader_pick.ok, spec_reader_one.ok]) fun bs p h => ⟨0, by
  simp only [Bool.and_eq_true] at h
  rw [spec_anyOp.e, h.1, h.2, show p + 2 = p + 1 + 1 by omega]
  unfold anyOpV
  cases pickV bs p 16 == 0 <;> rfl⟩

namespace spec_someNum
def E : Entry := ⟨39, false, false, fun | [.box [(.ints .u8 bs), (.int .i64 p)]] => rdOk bs p | _ => false, fun | [.box [(.ints .u8 bs), (.int .i64 p)]] => ([.one ((.int .i64 (oneV bs p someL)), false)], [[(.ints .u8 bs), (.int .i64 (p + 1))]]) | _ => ([], []), fun _ => [], false⟩
end spec_someNum
namespace spec_someNum
noncomputable def X : List Entry := [spec_reader_one.E]
def A : Ann := ⟨[], [], [], [], [4]⟩
theorem e (fuel : Nat) (p0q0 : List Int) (p0q1 : Int) : runF Try.prog X A fuel Try.f39 [.box [(.ints .u8 p0q0), (.int .i64 p0q1)]] =
  (bif rdOk p0q0 p0q1 && decide (0 < (([0, 1, 2, 3, (-1), 5, 7, (-4), 1000000, (-1000000), 10, 1]) : List Int).length) && decide ((([0, 1, 2, 3, (-1), 5, 7, (-4), 1000000, (-1000000), 10, 1]) : List Int).length ≤ 1048576) then
  some ([.one ((.int .i64 (oneV p0q0 p0q1 ([0, 1, 2, 3, (-1), 5, 7, (-4), 1000000, (-1000000), 10, 1]))), false)], [[(.ints .u8 p0q0), (.int .i64 (p0q1 + 1))]])
  else
  none) := by kernel_rfl
end spec_someNum
theorem spec_someNum.ok_of (hX : ∀ E ∈ spec_someNum.X, CallSpec Try.prog E) (h : ∀ (bs : List Int) (p : Int), (rdOk bs p) = true → ∃ fuel, runF Try.prog spec_someNum.X spec_someNum.A fuel Try.f39 [.box [(.ints .u8 bs), (.int .i64 p)]] = some ([.one ((.int .i64 (oneV bs p someL)), false)], [[(.ints .u8 bs), (.int .i64 (p + 1))]])) : CallSpec Try.prog spec_someNum.E :=
  callSpec_of hX (by kernel_rfl) (by kernel_rfl) (by kernel_rfl) (by kernel_rfl) (fun xs hp => by
    dsimp only [spec_someNum.E] at hp ⊢
    split at hp
    · exact h _ _ hp
    · cases hp)
theorem spec_someNum.ok : CallSpec Try.prog spec_someNum.E := spec_someNum.ok_of (by simp [spec_someNum.X, spec_reader_one.ok]) fun bs p h => ⟨0, by
  rw [spec_someNum.e, h]
  rfl⟩

namespace spec_anyNum
def E : Entry := ⟨23, false, false, fun | [.box [(.ints .u8 bs), (.int .i64 p)]] => rdOk bs (p + 1) && rdOk bs p | _ => false, fun | [.box [(.ints .u8 bs), (.int .i64 p)]] => ([.one ((.int .i64 (anyNumV bs p)), false)], [[(.ints .u8 bs), (.int .i64 (p + 2))]]) | _ => ([], []), fun _ => [], false⟩
end spec_anyNum
namespace spec_anyNum
noncomputable def X : List Entry := [spec_reader_pick.E, spec_reader_one.E, spec_someNum.E]
def A : Ann := ⟨[], [], [], [], [7]⟩
theorem e (fuel : Nat) (p0q0 : List Int) (p0q1 : Int) : runF Try.prog X A fuel Try.f23 [.box [(.ints .u8 p0q0), (.int .i64 p0q1)]] =
  (bif rdOk p0q0 p0q1 && decide ((12 : Int) ≤ 1048576) then
  (bif (((pickV p0q0 p0q1 12) : Int) == 0) then
  (bif rdOk p0q0 ((p0q1 + 1)) && decide (0 < (([1000001, (-1000001)]) : List Int).length) && decide ((([1000001, (-1000001)]) : List Int).length ≤ 1048576) then
  some ([.one ((.int .i64 (oneV p0q0 ((p0q1 + 1)) ([1000001, (-1000001)]))), false)], [[(.ints .u8 p0q0), (.int .i64 (((p0q1 + 1)) + 1))]])
  else
  none)
  else
  (bif rdOk p0q0 ((p0q1 + 1)) then
  some ([.one ((.int .i64 (oneV p0q0 ((p0q1 + 1)) someL)), false)], [[(.ints .u8 p0q0), (.int .i64 (((p0q1 + 1)) + 1))]])
  else
  none))
  else
  none) := by kernel_rfl
end spec_anyNum
theorem spec_anyNum.ok_of (hX : ∀ E ∈ spec_anyNum.X, CallSpec Try.prog E) (h : ∀ (bs : List Int) (p : Int), (rdOk bs (p + 1) && rdOk bs p) = true → ∃ fuel, runF Try.prog spec_anyNum.X spec_anyNum.A fuel Try.f23 [.box [(.ints .u8 bs), (.int .i64 p)]] = some ([.one ((.int .i64 (anyNumV bs p)), false)], [[(.ints .u8 bs), (.int .i64 (p + 2))]])) : CallSpec Try.prog spec_anyNum.E :=
  callSpec_of hX (by kernel_rfl) (by kernel_rfl) (by kernel_rfl) (by kernel_rfl) (fun xs hp => by
    dsimp only [spec_anyNum.E] at hp ⊢
    split at hp
    · exact h _ _ hp
    · cases hp)
theorem spec_anyNum.ok : CallSpec Try.prog spec_anyNum.E := spec_anyNum.ok_of (by simp [spec_anyNum.X, spec_reader_pick.ok, spec_reader_one.ok, spec_someNum.ok]) fun bs p h => ⟨0, by
  simp only [Bool.and_eq_true] at h
  rw [spec_anyNum.e, h.1, h.2, show p + 2 = p + 1 + 1 by omega]
  unfold anyNumV
  cases pickV bs p 12 == 0 <;> rfl⟩

namespace spec_DrawOperate
def E : Entry := ⟨13, true, false, fun | [.d (.ints .u8 bs)] => bytesB bs | _ => false, fun | [.d (.ints .u8 bs)] => ([.one ((.int .i64 (dOp bs)), false), .one ((.int .i64 (dA bs)), false), .one ((.int .i64 (dB bs)), false)], []) | _ => ([], []), fun _ => [], false⟩
end spec_DrawOperate
namespace spec_DrawOperate
noncomputable def X : List Entry := [spec_newReader.E, spec_anyOp.E, spec_anyNum.E]
def A : Ann := ⟨[], [], [], [], []⟩
theorem e (fuel : Nat) (p0 : List Int) : runF Try.prog X A fuel Try.f13 [.d (.ints .u8 p0)] =
  (bif rdOk ((cutC p0)) (0 + 1) && rdOk ((cutC p0)) 0 then
  (bif rdOk (((cutC p0))) (((0 + 2)) + 1) && rdOk (((cutC p0))) ((0 + 2)) then
  (bif rdOk ((((cutC p0)))) (((((0 + 2)) + 2)) + 1) && rdOk ((((cutC p0)))) ((((0 + 2)) + 2)) then
  some ([.one ((.int .i64 (anyOpV ((cutC p0)) 0)), false), .one ((.int .i64 (anyNumV (((cutC p0))) ((0 + 2)))), false), .one ((.int .i64 (anyNumV ((((cutC p0)))) ((((0 + 2)) + 2)))), false)], [])
  else
  none)
  else
  none)
  else
  none) := by kernel_rfl
end spec_DrawOperate
theorem spec_DrawOperate.ok_of (hX : ∀ E ∈ spec_DrawOperate.X, CallSpec Try.prog E) (h : ∀ (bs : List Int), (bytesB bs) = true → ∃ fuel, runF Try.prog spec_DrawOperate.X spec_DrawOperate.A fuel Try.f13 [.d (.ints .u8 bs)] = some ([.one ((.int .i64 (dOp bs)), false), .one ((.int .i64 (dA bs)), false), .one ((.int .i64 (dB bs)), false)], [])) : CallSpec Try.prog spec_DrawOperate.E :=
  callSpec_of hX (by kernel_rfl) (by kernel_rfl) (by kernel_rfl) (by kernel_rfl) (fun xs hp => by
    dsimp only [spec_DrawOperate.E] at hp ⊢
    split at hp
    · exact h _ hp
    · cases hp)
theorem spec_DrawOperate.ok : CallSpec Try.prog spec_DrawOperate.E := spec_DrawOperate.ok_of (by simp [spec_DrawOperate.X, spec_newReader.ok, spec_anyOp.ok, spec_anyNum.ok]) fun bs h => ⟨0, by
  rw [spec_DrawOperate.e, cut_ok h (by omega) (by omega), cut_ok h (by omega) (by omega), cut_ok h (by omega) (by omega), cut_ok h (by omega) (by omega), cut_ok h (by omega) (by omega), cut_ok h (by omega) (by omega)]
  rfl⟩

namespace laws_FnOperate
def E : Entry := ⟨5, true, false, fun | [.d (.ints .u8 bs)] => bytesB bs | _ => false, fun | [.d (.ints .u8 bs)] => ([.one ((.bool true), false)], []) | _ => ([], []), fun _ => [], false⟩
end laws_FnOperate
namespace laws_FnOperate
noncomputable def X : List Entry := [spec_DrawOperate.E, impl_Operate.E, spec_Operate.E]
def A : Ann := ⟨[], [], [], [], []⟩
theorem e (fuel : Nat) (p0 : List Int) : runF Try.prog X A fuel Try.f5 [.d (.ints .u8 p0)] =
  (bif (decide ((((p0.length : Nat) : Int) : Int) > 1048576)) then
  some ([.one ((.bool true), false)], [])
  else
  (bif bytesB p0 then
  (bif (((operV ((dOp p0)) ((dA p0)) ((dB p0))) : Int) != (operV ((dOp p0)) ((dA p0)) ((dB p0)))) then
  some ([.one ((.bool false), false)], [])
  else
  (bif (((dOp p0) : Int) == 1) then
  (bif (decide (((operV ((dOp p0)) ((dA p0)) ((dB p0))) : Int) ≥ (-1000000))) then
  (bif (decide (((operV ((dOp p0)) ((dA p0)) ((dB p0))) : Int) ≤ 1000000)) then
  some ([.one ((.bool (((operV ((dOp p0)) ((dB p0)) ((dA p0))) : Int) == (operV ((dOp p0)) ((dA p0)) ((dB p0))))), false)], [])
  else
  some ([.one ((.bool false), false)], []))
  else
  some ([.one ((.bool false), false)], []))
  else
  (bif (((dOp p0) : Int) == 3) then
  (bif (decide (((operV ((dOp p0)) ((dA p0)) ((dB p0))) : Int) ≥ (-1000000))) then
  (bif (decide (((operV ((dOp p0)) ((dA p0)) ((dB p0))) : Int) ≤ 1000000)) then
  some ([.one ((.bool (((operV ((dOp p0)) ((dB p0)) ((dA p0))) : Int) == (operV ((dOp p0)) ((dA p0)) ((dB p0))))), false)], [])
  else
  some ([.one ((.bool false), false)], []))
  else
  some ([.one ((.bool false), false)], []))
  else
  (bif (((dOp p0) : Int) == 4) then
  (bif (decide (((operV ((dOp p0)) ((dA p0)) ((dB p0))) : Int) ≥ (-1000000))) then
  (bif (decide (((operV ((dOp p0)) ((dA p0)) ((dB p0))) : Int) ≤ 1000000)) then
  some ([.one ((.bool (((operV ((dOp p0)) ((dB p0)) ((dA p0))) : Int) == (operV ((dOp p0)) ((dA p0)) ((dB p0))))), false)], [])
  else
  some ([.one ((.bool false), false)], []))
  else
  some ([.one ((.bool false), false)], []))
  else
  (bif (((dOp p0) : Int) == 5) then
  (bif (decide (((operV ((dOp p0)) ((dA p0)) ((dB p0))) : Int) ≥ (-1000000))) then
  (bif (decide (((operV ((dOp p0)) ((dA p0)) ((dB p0))) : Int) ≤ 1000000)) then
  some ([.one ((.bool (((operV ((dOp p0)) ((dB p0)) ((dA p0))) : Int) == (operV ((dOp p0)) ((dA p0)) ((dB p0))))), false)], [])
  else
  some ([.one ((.bool false), false)], []))
  else
  some ([.one ((.bool false), false)], []))
  else
  (bif (decide (((operV ((dOp p0)) ((dA p0)) ((dB p0))) : Int) ≥ (-1000000))) then
  (bif (decide (((operV ((dOp p0)) ((dA p0)) ((dB p0))) : Int) ≤ 1000000)) then
  (bif (!(((dOp p0) : Int) == 6)) then
  some ([.one ((.bool true), false)], [])
  else
  some ([.one ((.bool (((operV ((dOp p0)) ((dB p0)) ((dA p0))) : Int) == (operV ((dOp p0)) ((dA p0)) ((dB p0))))), false)], []))
  else
  some ([.one ((.bool false), false)], []))
  else
  some ([.one ((.bool false), false)], [])))))))
  else
  none)) := by kernel_rfl
end laws_FnOperate
theorem laws_FnOperate.ok_of (hX : ∀ E ∈ laws_FnOperate.X, CallSpec Try.prog E) (h : ∀ (bs : List Int), (bytesB bs) = true → ∃ fuel, runF Try.prog laws_FnOperate.X laws_FnOperate.A fuel Try.f5 [.d (.ints .u8 bs)] = some ([.one ((.bool true), false)], [])) : CallSpec Try.prog laws_FnOperate.E :=
  callSpec_of hX (by kernel_rfl) (by kernel_rfl) (by kernel_rfl) (by kernel_rfl) (fun xs hp => by
    dsimp only [laws_FnOperate.E] at hp ⊢
    split at hp
    · exact h _ hp
    · cases hp)
theorem laws_FnOperate.ok : CallSpec Try.prog laws_FnOperate.E := laws_FnOperate.ok_of (by simp [laws_FnOperate.X, spec_DrawOperate.ok, impl_Operate.ok, spec_Operate.ok]) fun bs h => ⟨0, by
  rw [laws_FnOperate.e, h]
  by_cases hg : (((bs.length : Nat) : Int) > 1048576)
  · rw [decide_eq_true hg]; rfl
  have hb := operV_bd (dOp bs) (dA bs) (dB bs)
  have c := fun ho => operV_comm (op := dOp bs) ho (dA bs) (dB bs)
  rw [decide_eq_false hg, decide_eq_true (p := operV (dOp bs) (dA bs) (dB bs) ≥ -1000000) hb.1, decide_eq_true hb.2]
  simp only [bne_self_eq_false, cond_true, cond_false]
  cases h1 : dOp bs == 1 with
  | true => rw [c (.inl (by simpa using h1))]; simp
  | false =>
  cases h3 : dOp bs == 3 with
  | true => rw [c (.inr (.inl (by simpa using h3)))]; simp
  | false =>
  cases h4 : dOp bs == 4 with
  | true => rw [c (.inr (.inr (.inl (by simpa using h4))))]; simp
  | false =>
  cases h5 : dOp bs == 5 with
  | true => rw [c (.inr (.inr (.inr (.inl (by simpa using h5)))))]; simp
  | false =>
  cases h6 : dOp bs == 6 with
  | true => rw [c (.inr (.inr (.inr (.inr (by simpa using h6)))))]; simp
  | false => rfl⟩

namespace laws_FnOperateRest
def E : Entry := ⟨6, true, false, fun | [.d (.ints .u8 bs)] => bytesB bs | _ => false, fun | [.d (.ints .u8 bs)] => ([.one ((.bool true), false)], []) | _ => ([], []), fun _ => [], false⟩
end laws_FnOperateRest
namespace laws_FnOperateRest
noncomputable def X : List Entry := [spec_DrawOperate.E, impl_Operate.E, spec_Operate.E]
def A : Ann := ⟨[], [], [], [], []⟩
theorem e (fuel : Nat) (p0 : List Int) : runF Try.prog X A fuel Try.f6 [.d (.ints .u8 p0)] =
  (bif (decide ((((p0.length : Nat) : Int) : Int) > 1048576)) then
  some ([.one ((.bool true), false)], [])
  else
  (bif bytesB p0 then
  (bif (((operV ((dOp p0)) ((dA p0)) ((dB p0))) : Int) != (operV ((dOp p0)) ((dA p0)) ((dB p0)))) then
  some ([.one ((.bool (((operV ((dOp p0)) ((dA p0)) ((dB p0))) : Int) == (operV ((dOp p0)) ((dA p0)) ((dB p0))))), false)], [])
  else
  (bif (decide (((dA p0) : Int) > 1000000)) then
  some ([.one ((.bool (((operV ((dOp p0)) ((dA p0)) ((dB p0))) : Int) == (operV ((dOp p0)) ((dA p0)) ((dB p0))))), false)], [])
  else
  (bif (decide (((dB p0) : Int) > 1000000)) then
  some ([.one ((.bool (((operV ((dOp p0)) ((dA p0)) ((dB p0))) : Int) == (operV ((dOp p0)) ((dA p0)) ((dB p0))))), false)], [])
  else
  (bif (decide (((dA p0) : Int) < 1)) then
  some ([.one ((.bool (((operV ((dOp p0)) ((dA p0)) ((dB p0))) : Int) == (operV ((dOp p0)) ((dA p0)) ((dB p0))))), false)], [])
  else
  (bif (decide (((dB p0) : Int) < (-1000000))) then
  some ([.one ((.bool (((operV ((dOp p0)) ((dA p0)) ((dB p0))) : Int) == (operV ((dOp p0)) ((dA p0)) ((dB p0))))), false)], [])
  else
  (bif (decide (((operV 8 ((dA p0)) ((dB p0))) : Int) ≥ 0)) then
  (bif (decide (((operV 8 ((dA p0)) ((dB p0))) : Int) < (dA p0))) then
  (bif decide (((dA p0) : Int) = 0) then
  none
  else
  (bif (((Int.tmod (IntKind.wrap .i64 ((dB p0) - (operV 8 ((dA p0)) ((dB p0))))) (dA p0)) : Int) == 0) then
  some ([.one ((.bool (((operV 8 ((dA p0)) ((operV 8 ((dA p0)) ((dB p0))))) : Int) == (operV 8 ((dA p0)) ((dB p0))))), false)], [])
  else
  some ([.one ((.bool false), false)], [])))
  else
  some ([.one ((.bool false), false)], []))
  else
  some ([.one ((.bool false), false)], [])))))))
  else
  none)) := by kernel_rfl
end laws_FnOperateRest
theorem laws_FnOperateRest.ok_of (hX : ∀ E ∈ laws_FnOperateRest.X, CallSpec Try.prog E) (h : ∀ (bs : List Int), (bytesB bs) = true → ∃ fuel, runF Try.prog laws_FnOperateRest.X laws_FnOperateRest.A fuel Try.f6 [.d (.ints .u8 bs)] = some ([.one ((.bool true), false)], [])) : CallSpec Try.prog laws_FnOperateRest.E :=
  callSpec_of hX (by kernel_rfl) (by kernel_rfl) (by kernel_rfl) (by kernel_rfl) (fun xs hp => by
    dsimp only [laws_FnOperateRest.E] at hp ⊢
    split at hp
    · exact h _ hp
    · cases hp)
theorem laws_FnOperateRest.ok : CallSpec Try.prog laws_FnOperateRest.E := laws_FnOperateRest.ok_of (by simp [laws_FnOperateRest.X, spec_DrawOperate.ok, impl_Operate.ok, spec_Operate.ok]) fun bs h => ⟨0, by
  rw [laws_FnOperateRest.e, h]
  by_cases hg : (((bs.length : Nat) : Int) > 1048576)
  · rw [decide_eq_true hg]; rfl
  rw [decide_eq_false hg]
  simp only [bne_self_eq_false, beq_self_eq_true, cond_true, cond_false]
  by_cases h1 : dA bs > 1000000
  · rw [decide_eq_true h1]; rfl
  by_cases h2 : dB bs > 1000000
  · rw [decide_eq_false h1, decide_eq_true h2]; rfl
  by_cases h3 : dA bs < 1
  · rw [decide_eq_false h1, decide_eq_false h2, decide_eq_true h3]; rfl
  by_cases h4 : dB bs < -1000000
  · rw [decide_eq_false h1, decide_eq_false h2, decide_eq_false h3, decide_eq_true h4]; rfl
  rw [decide_eq_false h1, decide_eq_false h2, decide_eq_false h3, decide_eq_false h4]
  have e1 : ∀ b, -1000000 ≤ b → b ≤ 1000000 → operV 8 (dA bs) b = b % dA bs := fun b g0 g1 => by
    unfold operV
    rw [numB_of (v := dA bs) (by omega), numB_of (v := b) (by omega)]
    show restV (dA bs) b = _
    unfold restV
    rw [decide_eq_false (by omega), cond_false, modV_eq (by omega) (by omega) (by omega) (by omega)]
  have p0 := Int.emod_nonneg (dB bs) (show dA bs ≠ 0 by omega)
  have p1 := Int.emod_lt_of_pos (dB bs) (show 0 < dA bs by omega)
  rw [e1 (dB bs) (by omega) (by omega), e1 (dB bs % dA bs) (by omega) (by omega), Int.emod_emod_of_dvd _ (Int.dvd_refl _), decide_eq_true (p := dB bs % dA bs ≥ 0) p0, decide_eq_true p1, decide_eq_false (p := dA bs = 0) (by omega),
    wS (x := dB bs - dB bs % dA bs) (by omega) (by omega)]
  have hd : dA bs ∣ dB bs - dB bs % dA bs := ⟨dB bs / dA bs, by have := Int.mul_ediv_add_emod (dB bs) (dA bs); omega⟩
  rw [Int.tmod_eq_zero_of_dvd hd]
  first | rfl | simp⟩

namespace laws_FnOperateDifference
def E : Entry := ⟨7, true, false, fun | [.d (.ints .u8 bs)] => bytesB bs | _ => false, fun | [.d (.ints .u8 bs)] => ([.one ((.bool true), false)], []) | _ => ([], []), fun _ => [], false⟩
end laws_FnOperateDifference
namespace laws_FnOperateDifference
noncomputable def X : List Entry := [spec_DrawOperate.E, impl_Operate.E, spec_Operate.E]
def A : Ann := ⟨[], [], [], [], []⟩
theorem e (fuel : Nat) (p0 : List Int) : runF Try.prog X A fuel Try.f7 [.d (.ints .u8 p0)] =
  (bif (decide ((((p0.length : Nat) : Int) : Int) > 1048576)) then
  some ([.one ((.bool true), false)], [])
  else
  (bif bytesB p0 then
  (bif (((operV ((dOp p0)) ((dA p0)) ((dB p0))) : Int) != (operV ((dOp p0)) ((dA p0)) ((dB p0)))) then
  some ([.one ((.bool false), false)], [])
  else
  (bif (((operV 2 ((dA p0)) ((dB p0))) : Int) == (operV 1 ((dA p0)) ((IntKind.wrap .i64 (0 - (dB p0)))))) then
  (bif (((operV 2 ((dA p0)) ((dB p0))) : Int) == (IntKind.wrap .i64 (0 - (operV 2 ((dB p0)) ((dA p0)))))) then
  some ([.one ((.bool (((operV 2 ((dA p0)) ((dA p0))) : Int) == 0)), false)], [])
  else
  some ([.one ((.bool false), false)], []))
  else
  some ([.one ((.bool false), false)], [])))
  else
  none)) := by kernel_rfl
end laws_FnOperateDifference
theorem laws_FnOperateDifference.ok_of (hX : ∀ E ∈ laws_FnOperateDifference.X, CallSpec Try.prog E) (h : ∀ (bs : List Int), (bytesB bs) = true → ∃ fuel, runF Try.prog laws_FnOperateDifference.X laws_FnOperateDifference.A fuel Try.f7 [.d (.ints .u8 bs)] = some ([.one ((.bool true), false)], [])) : CallSpec Try.prog laws_FnOperateDifference.E :=
  callSpec_of hX (by kernel_rfl) (by kernel_rfl) (by kernel_rfl) (by kernel_rfl) (fun xs hp => by
    dsimp only [laws_FnOperateDifference.E] at hp ⊢
    split at hp
    · exact h _ hp
    · cases hp)
theorem lim_neg (n : Int) : limV (-n) = -limV n := by
  unfold limV maxI minI
  repeat' split
  all_goals omega
theorem numB_neg (v : Int) : numB (-v) = numB v := by
  unfold numB
  rw [Bool.eq_iff_iff]
  simp
  omega
theorem laws_FnOperateDifference.ok : CallSpec Try.prog laws_FnOperateDifference.E := laws_FnOperateDifference.ok_of (by simp [laws_FnOperateDifference.X, spec_DrawOperate.ok, impl_Operate.ok, spec_Operate.ok]) fun bs h => ⟨0, by
  rw [laws_FnOperateDifference.e, h]
  by_cases hg : (((bs.length : Nat) : Int) > 1048576)
  · rw [decide_eq_true hg]; rfl
  rw [decide_eq_false hg]
  have ha : -1000001 ≤ dA bs ∧ dA bs ≤ 1000001 := anyNum_bd _ _
  have hb : -1000001 ≤ dB bs ∧ dB bs ≤ 1000001 := anyNum_bd _ _
  generalize dA bs = a at ha
  generalize dB bs = b at hb
  have w0 : IntKind.wrap .i64 (0 - b) = -b := by rw [Int.zero_sub, wS (by omega) (by omega)]
  have e1 : operV 2 a b = operV 1 a (-b) := by
    unfold operV
    rw [numB_neg]
    rfl
  have e2 : IntKind.wrap .i64 (0 - operV 2 b a) = operV 2 a b := by
    have hbd := operV_bd 2 b a
    rw [Int.zero_sub, wS (by omega) (by omega)]
    unfold operV
    rw [Bool.and_comm (numB b)]
    cases opOk 2 && (numB a && numB b) with
    | false => rfl
    | true =>
      show - limV (IntKind.wrap .i64 (b - a)) = limV (IntKind.wrap .i64 (a - b))
      rw [← lim_neg, wS (x := b - a) (by omega) (by omega), wS (x := a - b) (by omega) (by omega), Int.neg_sub]
  have e3 : operV 2 a a = 0 := by
    unfold operV
    cases opOk 2 && (numB a && numB a) with
    | false => rfl
    | true =>
      show limV (IntKind.wrap .i64 (a - a)) = 0
      rw [Int.sub_self]
      rfl
  rw [w0, ← e1, e2, e3]
  simp⟩

namespace spec_DrawNeutralOf
def E : Entry := ⟨14, true, false, fun | [.d (.ints .u8 bs)] => bytesB bs | _ => false, fun | [.d (.ints .u8 bs)] => ([.one ((.int .i64 (dNeu bs)), false)], []) | _ => ([], []), fun _ => [], false⟩
end spec_DrawNeutralOf
namespace spec_DrawNeutralOf
noncomputable def X : List Entry := [spec_newReader.E, spec_anyOp.E]
def A : Ann := ⟨[], [], [], [], []⟩
theorem e (fuel : Nat) (p0 : List Int) : runF Try.prog X A fuel Try.f14 [.d (.ints .u8 p0)] =
  (bif rdOk ((cutC p0)) (0 + 1) && rdOk ((cutC p0)) 0 then
  some ([.one ((.int .i64 (anyOpV ((cutC p0)) 0)), false)], [])
  else
  none) := by kernel_rfl
end spec_DrawNeutralOf
theorem spec_DrawNeutralOf.ok_of (hX : ∀ E ∈ spec_DrawNeutralOf.X, CallSpec Try.prog E) (h : ∀ (bs : List Int), (bytesB bs) = true → ∃ fuel, runF Try.prog spec_DrawNeutralOf.X spec_DrawNeutralOf.A fuel Try.f14 [.d (.ints .u8 bs)] = some ([.one ((.int .i64 (dNeu bs)), false)], [])) : CallSpec Try.prog spec_DrawNeutralOf.E :=
  callSpec_of hX (by kernel_rfl) (by kernel_rfl) (by kernel_rfl) (by kernel_rfl) (fun xs hp => by
    dsimp only [spec_DrawNeutralOf.E] at hp ⊢
    split at hp
    · exact h _ hp
    · cases hp)
theorem spec_DrawNeutralOf.ok : CallSpec Try.prog spec_DrawNeutralOf.E := spec_DrawNeutralOf.ok_of (by simp [spec_DrawNeutralOf.X, spec_newReader.ok, spec_anyOp.ok]) fun bs h => ⟨0, by
  rw [spec_DrawNeutralOf.e, cut_ok h (by omega) (by omega), cut_ok h (by omega) (by omega)]
  rfl⟩

namespace laws_FnNeutralOf
def E : Entry := ⟨8, true, false, fun | [.d (.ints .u8 bs)] => bytesB bs | _ => false, fun | [.d (.ints .u8 bs)] => ([.one ((.bool true), false)], []) | _ => ([], []), fun _ => [], false⟩
end laws_FnNeutralOf
namespace laws_FnNeutralOf
noncomputable def X : List Entry := [spec_DrawNeutralOf.E, impl_NeutralOf.E, spec_NeutralOf.E, impl_Operate.E]
def A : Ann := ⟨[], [(1000008, [1, 2, 6, 7, 8, 9, 10, 11, 12, 13, 14, 15, 16, 17, 18, 19, 20, 21, 22, 23, 24, 25, 26, 27, 28, 29, 30, 31, 32, 33, 34, 35, 36, 37, 38, 39, 40, 41, 42, 43, 44, 45])], [], [], []⟩
noncomputable abbrev L0 (fuel n : Nat) (s : St) (k : Kont) := lAt Try.prog X A fuel (bodyOf Try.f8) [1, 1, 1, 1, 1, 0, 1, 0] n s k
noncomputable abbrev k0  (fuel : Nat) : Kont := kAt Try.prog X A fuel (bodyOf Try.f8) [1, 1, 1, 1, 1, 0, 1, 0] [] (endK Try.prog Try.f8)
def t0 (p0 : List Int) (x0q3 : Int) : St := ⟨[(.imm (.ints .u8 p0)), .dead, .dead, (.imm (.int .i64 (dNeu p0))), (.imm (.int .i64 (neuV ((dNeu p0))))), (.imm (.int .i64 x0q3)), .dead, .dead, .dead, .dead, .dead, .dead, .dead, .dead, .dead, .dead, .dead, .dead, .dead, .dead, .dead, .dead, .dead, .dead, .dead, .dead, .dead, .dead, .dead, .dead, .dead, .dead, .dead, .dead, .dead, .dead, .dead, .dead, .dead, .dead, .dead, .dead, .dead, .dead, .dead, .dead], hOf [], []⟩
theorem e (fuel : Nat) (p0 : List Int) : runF Try.prog X A fuel Try.f8 [.d (.ints .u8 p0)] =
  (bif (decide ((((p0.length : Nat) : Int) : Int) > 1048576)) then
  some ([.one ((.bool true), false)], [])
  else
  (bif bytesB p0 then
  (bif (((neuV ((dNeu p0))) : Int) != (neuV ((dNeu p0)))) then
  some ([.one ((.bool (((neuV ((dNeu p0))) : Int) == (neuV ((dNeu p0))))), false)], [])
  else
  (bif (decide (((dNeu p0) : Int) < 1)) then
  some ([.one ((.bool (((neuV ((dNeu p0))) : Int) == (neuV ((dNeu p0))))), false)], [])
  else
  (bif (decide (((dNeu p0) : Int) > 5)) then
  some ([.one ((.bool (((neuV ((dNeu p0))) : Int) == (neuV ((dNeu p0))))), false)], [])
  else
  L0 fuel fuel (t0 p0 ((-3))) (k0  fuel))))
  else
  none)) := by kernel_rfl
theorem s0 (fuel n0 : Nat) (p0 : List Int) (x0q3 : Int) : L0 fuel (n0 + 1) (t0 p0 x0q3) (k0  fuel) =
  (bif (decide ((x0q3 : Int) < 4)) then
  (bif (((operV ((dNeu p0)) ((Int.tmod (IntKind.wrap .i64 (x0q3 * (IntKind.wrap .i64 (((p0.length : Nat) : Int) + 1)))) 1000)) ((neuV ((dNeu p0))))) : Int) != (Int.tmod (IntKind.wrap .i64 (x0q3 * (IntKind.wrap .i64 (((p0.length : Nat) : Int) + 1)))) 1000)) then
  some ([.one ((.bool false), false)], [])
  else
  L0 fuel n0 (t0 p0 ((IntKind.wrap .i64 (x0q3 + 1)))) (k0  fuel))
  else
  some ([.one ((.bool true), false)], [])) := by kernel_rfl
end laws_FnNeutralOf
theorem laws_FnNeutralOf.ok_of (hX : ∀ E ∈ laws_FnNeutralOf.X, CallSpec Try.prog E) (h : ∀ (bs : List Int), (bytesB bs) = true → ∃ fuel, runF Try.prog laws_FnNeutralOf.X laws_FnNeutralOf.A fuel Try.f8 [.d (.ints .u8 bs)] = some ([.one ((.bool true), false)], [])) : CallSpec Try.prog laws_FnNeutralOf.E :=
  callSpec_of hX (by kernel_rfl) (by kernel_rfl) (by kernel_rfl) (by kernel_rfl) (fun xs hp => by
    dsimp only [laws_FnNeutralOf.E] at hp ⊢
    split at hp
    · exact h _ hp
    · cases hp)
theorem neu_keeps {op x : Int} (h1 : ¬ op < 1) (h5 : ¬ op > 5) (hx : -1000 < x ∧ x < 1000) : operV op x (neuV op) = x := by
  have hn := numB_of (v := x) (by omega)
  have : op = 1 ∨ op = 2 ∨ op = 3 ∨ op = 4 ∨ op = 5 := by omega
  unfold operV
  rw [hn]
  rcases this with rfl | rfl | rfl | rfl | rfl
  · show limV (IntKind.wrap .i64 (x + 0)) = x
    rw [wS (x := x + 0) (by omega) (by omega)]; unfold limV maxI minI; split <;> split <;> omega
  · show limV (IntKind.wrap .i64 (x - 0)) = x
    rw [wS (x := x - 0) (by omega) (by omega)]; unfold limV maxI minI; split <;> split <;> omega
  · show limV (IntKind.wrap .i64 (x * 1)) = x
    rw [wS (x := x * 1) (by omega) (by omega)]; unfold limV maxI minI; split <;> split <;> omega
  · show minI x 1000000 = x
    unfold minI; split <;> omega
  · show maxI x (-1000000) = x
    unfold maxI; split <;> omega
theorem laws_FnNeutralOf.loop (fuel : Nat) (bs : List Int) (h1 : ¬ dNeu bs < 1) (h5 : ¬ dNeu bs > 5) : ∀ (m n : Nat) (k : Int), (4 - k).toNat = m → m < n → -3 ≤ k → k ≤ 4 →
    laws_FnNeutralOf.L0 fuel n (laws_FnNeutralOf.t0 bs k) (laws_FnNeutralOf.k0 fuel) = some ([.one (.bool true, false)], []) := by
  intro m
  induction m with
  | zero =>
    intro n k g1 g2 g3 g4
    obtain ⟨n, rfl⟩ : ∃ n', n = n' + 1 := ⟨n - 1, by omega⟩
    rw [laws_FnNeutralOf.s0, decide_eq_false (by omega)]
    rfl
  | succ m ih =>
    intro n k g1 g2 g3 g4
    obtain ⟨n, rfl⟩ : ∃ n', n = n' + 1 := ⟨n - 1, by omega⟩
    have hx : -1000 < Int.tmod (IntKind.wrap .i64 (k * IntKind.wrap .i64 (((bs.length : Nat) : Int) + 1))) 1000 ∧ Int.tmod (IntKind.wrap .i64 (k * IntKind.wrap .i64 (((bs.length : Nat) : Int) + 1))) 1000 < 1000 := by
      generalize IntKind.wrap .i64 (k * IntKind.wrap .i64 (((bs.length : Nat) : Int) + 1)) = y
      have e := Int.natAbs_tmod y 1000
      have e2 : y.natAbs % (1000 : Int).natAbs < 1000 := Nat.mod_lt _ (by decide)
      omega
    have e1 := @wS (k + 1) (by omega) (by omega)
    rw [laws_FnNeutralOf.s0, decide_eq_true (p := k < 4) (by omega), neu_keeps h1 h5 hx, bne_self_eq_false, e1, cond_true, cond_false]
    exact ih n (k + 1) (by omega) (by omega) (by omega) (by omega)
theorem laws_FnNeutralOf.ok : CallSpec Try.prog laws_FnNeutralOf.E := laws_FnNeutralOf.ok_of (by simp [laws_FnNeutralOf.X, spec_DrawNeutralOf.ok, impl_NeutralOf.ok, spec_NeutralOf.ok, impl_Operate.ok]) fun bs h => by
  obtain ⟨f, hf⟩ : ∃ f : Nat, f = 8 := ⟨8, rfl⟩
  refine ⟨f, ?_⟩
  rw [laws_FnNeutralOf.e, h]
  by_cases hg : (((bs.length : Nat) : Int) > 1048576)
  · rw [decide_eq_true hg]; rfl
  rw [decide_eq_false hg]
  simp only [bne_self_eq_false, beq_self_eq_true, cond_true, cond_false]
  by_cases h1 : dNeu bs < 1
  · rw [decide_eq_true h1]; rfl
  by_cases h5 : dNeu bs > 5
  · rw [decide_eq_false h1, decide_eq_true h5]; rfl
  rw [decide_eq_false h1, decide_eq_false h5]
  exact laws_FnNeutralOf.loop f bs h1 h5 7 f (-3) (by omega) (by omega) (by omega) (by omega)

end Go.Ab
