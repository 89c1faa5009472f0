import Derived.Test.YtijjoekejjnodaaAbLaw
import Derived.Test.YtijjoekejjnodaaProg
import Derived.Test.YtijjoekejjnodaaChecked
open Go Go.Ab Go.Proofs
set_option maxRecDepth 100000
set_option linter.unusedVariables false
set_option linter.unusedSimpArgs false
namespace Go.Ab
/-- What is left of a mark: k, k + 1, and so on. -/
def markL : List Int → Int → List Int
  | [], _ => []
  | _ :: xs, k => k :: markL xs (IntKind.wrap .i64 (k + 1))
def markK : List Int → Int → Int
  | [], k => k
  | _ :: xs, k => markK xs (IntKind.wrap .i64 (k + 1))
def heldL : List Int → Int → Int
  | [], k => k
  | x :: xs, k => bif x != k then -1 else heldL xs (IntKind.wrap .i64 (k + 1))
def heldA (sh da : List Int) (k : Int) : Int := bif decide (heldL sh k < 0) then -1 else bif decide (heldL da (heldL sh k) < 0) then -1 else heldL da (heldL sh k)
def numB (v : Int) : Bool := decide (-1000000 ≤ v) && decide (v ≤ 1000000)
def scalL (v : Int) : List Int := bif numB v then [v] else []
abbrev nilI : List Int := []

theorem idx_nat {j n : Nat} (h : j < n) : idx (j : Int) n = some j := by simp [idx, h]
theorem w1 {j : Nat} (h : j < 9223372036854775807) : IntKind.wrap .i64 ((j : Int) + 1) = ((j + 1 : Nat) : Int) := by rw [IntKind.wrap_i64]; omega
theorem dlt {j n : Nat} (h : j < n) : decide ((j : Int) < ((n : Nat) : Int)) = true := by simp [h]
theorem dge {j n : Nat} (h : ¬ j < n) : decide ((j : Int) < ((n : Nat) : Int)) = false := by simp; omega
theorem getS {xs : List Int} {j : Nat} (h : j < xs.length) : xs[j]? = some xs[j] := List.getElem?_eq_getElem h
theorem dropS {xs : List Int} {j : Nat} (h : j < xs.length) : xs.drop j = xs[j] :: xs.drop (j + 1) := List.drop_eq_getElem_cons h
theorem dropE {xs : List Int} {j : Nat} (h : ¬ j < xs.length) : xs.drop j = [] := List.drop_eq_nil_of_le (by omega)
theorem markL_length (xs : List Int) (k : Int) : (markL xs k).length = xs.length := by
  induction xs generalizing k with
  | nil => rfl
  | cons x xs ih => simp [markL, ih]
end Go.Ab
namespace Go.Ab
def szB (xs : List Int) : Bool := decide (xs.length ≤ 1099511627776)
def szI (xs : List Int) (left : Int) : Int := bif decide (IntKind.wrap .i64 (left - ((xs.length : Nat) : Int)) < 0) then -1 else IntKind.wrap .i64 (left - ((xs.length : Nat) : Int))
def szA (sh da : List Int) (left : Int) : Int := bif decide (szI sh left < 0) then -1 else bif decide (szI da (szI sh left) < 0) then -1 else szI da (szI sh left)
def allB (xs : List Int) (lo hi : Int) : Bool := xs.all fun v => decide (lo ≤ v) && decide (v ≤ hi)
def volFrom : List Int → Int → Int
  | [], n => n
  | x :: xs, n => volFrom xs (IntKind.wrap .i64 (n * x))
def volW (xs : List Int) : Int := volFrom xs 1
def validS (sh : List Int) : Bool := decide (((sh.length : Nat) : Int) ≤ 3) && allB sh 0 60 && decide (volW sh ≤ 60)
def validA (sh da : List Int) : Bool := validS sh && (((da.length : Nat) : Int) == volW sh) && allB da (-1000000) 1000000
def rankV (sh da : List Int) : Int := bif validA sh da then ((sh.length : Nat) : Int) else -1
def sizeV (sh da : List Int) : Int := bif validA sh da then ((da.length : Nat) : Int) else -1
def strd (sh : List Int) (k : Nat) : Int := bif decide (k < sh.length) then volW (sh.drop (k + 1)) else 0
def cntOk (n : Int) : Bool := decide (0 ≤ n) && decide (n ≤ 60)
def cntS (n : Int) : List Int := bif cntOk n then [n] else []
def cntD (n : Int) : List Int := bif cntOk n then (List.range n.toNat).map Int.ofNat else []
def vecOk (xs : List Int) : Bool := decide (xs.length ≤ 60) && allB xs (-1000000) 1000000
def vecS (xs : List Int) : List Int := bif vecOk xs then [((xs.length : Nat) : Int)] else []
def vecD (xs : List Int) : List Int := bif vecOk xs then xs else []

theorem szB_lt {xs : List Int} (h : szB xs = true) : xs.length < 9223372036854775808 := by
  have := of_decide_eq_true h; omega
theorem szB_le {xs : List Int} (h : szB xs = true) : xs.length ≤ 1099511627776 := of_decide_eq_true h
theorem szB_of {xs : List Int} (h : xs.length ≤ 1099511627776) : szB xs = true := decide_eq_true h
theorem lt_of {xs : List Int} (h : xs.length < 9223372036854775808) : decide (xs.length < 9223372036854775808) = true := decide_eq_true h
theorem wS {x : Int} (h1 : -9223372036854775808 ≤ x) (h2 : x ≤ 9223372036854775807) : IntKind.wrap .i64 x = x := by rw [IntKind.wrap_i64]; omega
theorem mkOk {n : Int} (h0 : 0 ≤ n) (h : n ≤ 1099511627776) : (decide (0 ≤ n) && decide (n ≤ n) && decide (n ≤ 1152921504606846976) && decide (((8 : Nat) : Int) * n ≤ 281474976710656)) = true := by
  simp; omega
theorem fitsOk {n : Nat} (h : n ≤ 4398046511104) : fits n 8 = true := by simp [fits]; omega
theorem copyL_all (xs : List Int) : copyL (List.replicate xs.length 0) 0 (List.replicate xs.length (0 : Int)).length xs = xs := by
  simp [copyL, spl]
theorem take_set_succ {xs out : List Int} {j : Nat} (hj : j < xs.length) (h2 : j < out.length) (h : out.take j = xs.take j) : (out.set j xs[j]).take (j + 1) = xs.take (j + 1) := by
  rw [List.take_add_one, List.take_add_one, List.take_set, List.set_eq_of_length_le (by simp; omega), h]
  simp [h2, hj]
theorem mul60 {a b : Int} (ha : 0 ≤ a) (ha' : a ≤ 60) (hb : 0 ≤ b) (hb' : b ≤ 60) : 0 ≤ a * b ∧ a * b ≤ 3600 :=
  ⟨Int.mul_nonneg ha hb, Int.le_trans (Int.mul_le_mul ha' hb' hb (by omega)) (by omega)⟩
theorem mul3600 {a b : Int} (ha : 0 ≤ a) (ha' : a ≤ 3600) (hb : 0 ≤ b) (hb' : b ≤ 60) : 0 ≤ a * b ∧ a * b ≤ 216000 :=
  ⟨Int.mul_nonneg ha hb, Int.le_trans (Int.mul_le_mul ha' hb' hb (by omega)) (by omega)⟩
theorem allB_nil (lo hi : Int) : allB [] lo hi = true := rfl
theorem allB_cons (x : Int) (xs : List Int) (lo hi : Int) : allB (x :: xs) lo hi = ((decide (lo ≤ x) && decide (x ≤ hi)) && allB xs lo hi) := rfl
theorem numB_eq (v : Int) : numB v = (decide (-1000000 ≤ v) && decide (v ≤ 1000000)) := rfl
theorem szI_small {xs : List Int} {left : Int} (h0 : 0 ≤ left) (h1 : left ≤ 1048576) (hx : xs.length < 9223372036854775808) : szI xs left = bif decide (left < ((xs.length : Nat) : Int)) then -1 else left - ((xs.length : Nat) : Int) := by
  unfold szI
  rw [wS (by omega) (by omega)]
  by_cases h : left < ((xs.length : Nat) : Int)
  · have h' : left - ((xs.length : Nat) : Int) < 0 := by omega
    simp [h, h']
  · have h' : ¬ left - ((xs.length : Nat) : Int) < 0 := by omega
    simp [h, h']
/-- What a law's guard says. -/
theorem szA_small {sh da : List Int} (h1 : sh.length < 9223372036854775808) (h2 : da.length < 9223372036854775808) (h : ¬ szA sh da 1048576 < 0) : sh.length + da.length ≤ 1048576 := by
  unfold szA at h
  rw [szI_small (by omega) (by omega) h1] at h
  by_cases ha : (1048576 : Int) < ((sh.length : Nat) : Int)
  · simp [ha] at h
  · simp only [ha, decide_false, cond_false] at h
    rw [szI_small (by omega) (by omega) h2] at h
    by_cases hb : (1048576 - ((sh.length : Nat) : Int)) < ((da.length : Nat) : Int)
    · simp only [hb, decide_true, cond_true] at h
      have hneg : ¬ (1048576 - ((sh.length : Nat) : Int) < 0) := by omega
      simp [hneg] at h
    · omega
end Go.Ab
namespace Go.Ab
theorem markK_eq : ∀ (xs : List Int) (k : Int), 0 ≤ k → k + xs.length < 4611686018427387904 → markK xs k = k + ((xs.length : Nat) : Int)
  | [], k, _, _ => by simp [markK]
  | x :: xs, k, h0, h1 => by
    simp only [List.length_cons] at h1
    simp only [markK]
    rw [wS (by omega) (by omega), markK_eq xs (k + 1) (by omega) (by omega)]
    simp only [List.length_cons]
    omega
theorem heldL_mark : ∀ (xs : List Int) (k : Int), 0 ≤ k → k + xs.length < 4611686018427387904 → heldL (markL xs k) k = k + ((xs.length : Nat) : Int)
  | [], k, _, _ => by simp [markL, heldL]
  | x :: xs, k, h0, h1 => by
    simp only [List.length_cons] at h1
    simp only [markL, heldL, bne_self_eq_false, cond_false]
    rw [wS (by omega) (by omega), heldL_mark xs (k + 1) (by omega) (by omega)]
    simp only [List.length_cons]
    omega
theorem mark1_ok {xs : List Int} (h : xs.length ≤ 4398046511104) : decide (markK xs 1 < 0) = false := by
  rw [markK_eq xs 1 (by omega) (by omega)]; simp; omega
/-- What the marks of an array's memory say: nothing is shared. -/
theorem marks_ok {sh da : List Int} (h1 : sh.length ≤ 1099511627776) (h2 : da.length ≤ 1099511627776) :
    decide (sh.length < 9223372036854775808) = true ∧ decide (da.length < 9223372036854775808) = true ∧ decide ((markL sh 1).length < 9223372036854775808) = true ∧
    decide ((markL da (markK sh 1)).length < 9223372036854775808) = true ∧ heldA (markL sh 1) (markL da (markK sh 1)) 1 = markK da (markK sh 1) ∧ decide (markK da (markK sh 1) < 0) = false := by
  have e1 := markK_eq sh 1 (by omega) (by omega)
  have e2 := markK_eq da (1 + ((sh.length : Nat) : Int)) (by omega) (by omega)
  have e3 := heldL_mark sh 1 (by omega) (by omega)
  have e4 := heldL_mark da (1 + ((sh.length : Nat) : Int)) (by omega) (by omega)
  refine ⟨decide_eq_true (by omega), decide_eq_true (by omega), by rw [markL_length]; exact decide_eq_true (by omega), by rw [markL_length]; exact decide_eq_true (by omega), ?_, by rw [e1, e2]; exact decide_eq_false (by omega)⟩
  unfold heldA
  rw [e1, e3, e4, e2, decide_eq_false (by omega), decide_eq_false (by omega)]
  rfl
theorem cnt_len (n : Int) : (cntS n).length ≤ 1 ∧ (cntD n).length ≤ 60 := by
  unfold cntS cntD
  cases h : cntOk n with
  | false => simp
  | true =>
    have : 0 ≤ n ∧ n ≤ 60 := by simpa [cntOk] using h
    simp; omega
theorem vec_len (xs : List Int) : (vecS xs).length ≤ 1 ∧ (vecD xs).length ≤ 60 := by
  unfold vecS vecD
  cases h : vecOk xs with
  | false => simp
  | true =>
    have : xs.length ≤ 60 := by simp [vecOk] at h; exact h.1
    simp; omega
end Go.Ab
namespace Go.Ab
/-- A list by a rule. -/
def tab (n : Nat) (f : Nat → Int) : List Int := (List.range n).map f
theorem tab_length (n : Nat) (f : Nat → Int) : (tab n f).length = n := by simp [tab]
theorem tab_succ (n : Nat) (f : Nat → Int) : tab (n + 1) f = tab n f ++ [f n] := by simp [tab, List.range_succ]
theorem tab_get {n : Nat} {f : Nat → Int} {i : Nat} (h : i < n) : (tab n f)[i]? = some (f i) := by simp [tab, h]
theorem tab_getD {n : Nat} {f : Nat → Int} {i : Nat} (h : i < n) : (tab n f).getD i 0 = f i := by simp [tab, h]
theorem tab_congr {n : Nat} {f g : Nat → Int} (h : ∀ i, i < n → f i = g i) : tab n f = tab n g := by
  unfold tab
  exact List.map_congr_left fun i hi => h i (by simpa using hi)
theorem tab_self (xs : List Int) : tab xs.length (fun i => xs.getD i 0) = xs := by
  apply List.ext_getElem?
  intro i
  by_cases h : i < xs.length
  · rw [tab_get h]; simp [h]
  · rw [List.getElem?_eq_none (by rw [tab_length]; omega), List.getElem?_eq_none (by omega)]
/-- A row that is filled from the front. -/
theorem fill_step {n j : Nat} {f : Nat → Int} {out : List Int} (hj : j < n) (hl : out.length = n) (h : out.take j = tab j f) : (out.set j (f j)).take (j + 1) = tab (j + 1) f := by
  rw [tab_succ, ← h, List.take_add_one, List.take_set, List.set_eq_of_length_le (by simp; omega)]
  have : j < out.length := by omega
  simp [this]
/-- A number that is left as it is. -/
theorem fill_keep {n j : Nat} {f : Nat → Int} {out : List Int} (hj : j < n) (hl : out.length = n) (h : out.take j = tab j f) (h2 : out[j]? = some (f j)) : out.take (j + 1) = tab (j + 1) f := by
  rw [tab_succ, ← h, List.take_add_one, h2]
  rfl
theorem fill_end {n : Nat} {f : Nat → Int} {out : List Int} (hl : out.length = n) (h : out.take n = tab n f) : out = tab n f := by
  rw [← h, List.take_of_length_le (by omega)]
theorem divmod {a b c : Nat} (h : c < b) : (a * b + c) / b = a ∧ (a * b + c) % b = c := by
  constructor
  · rw [Nat.add_comm, Nat.add_mul_div_right _ _ (by omega), Nat.div_eq_of_lt h, Nat.zero_add]
  · rw [Nat.add_comm, Nat.add_mul_mod_self_right, Nat.mod_eq_of_lt h]
end Go.Ab
namespace Go.Ab
def offW : List Int → List Int → Int → Int
  | [], _, n => n
  | _ :: _, [], n => n
  | s :: sh, p :: pl, n => offW sh pl (IntKind.wrap .i64 (IntKind.wrap .i64 (n * s) + p))
def isPl : List Int → List Int → Bool
  | [], [] => true
  | s :: sh, p :: pl => (decide (0 ≤ p) && decide (p ≤ IntKind.wrap .i64 (s - 1))) && isPl sh pl
  | _, _ => false
def offS (sh pl : List Int) : Int := bif validS sh && isPl sh pl then offW sh pl 0 else -1
def offA (sh da pl : List Int) : Int := bif validA sh da then offS sh pl else -1
def itemB (sh da pl : List Int) : Bool := validA sh da && isPl sh pl
def itemV (sh da pl : List Int) : Int := bif itemB sh da pl then da.getD (offW sh pl 0).toNat 0 else 0
def withB (sh da pl : List Int) (n : Int) : Bool := itemB sh da pl && numB n
def withS (sh da pl : List Int) (n : Int) : List Int := bif withB sh da pl n then sh else []
def withD (sh da pl : List Int) (n : Int) : List Int := bif withB sh da pl n then da.set (offW sh pl 0).toNat n else []

theorem isPl_len : ∀ {sh pl : List Int}, isPl sh pl = true → pl.length = sh.length
  | [], [], _ => rfl
  | [], _ :: _, h => by simp [isPl] at h
  | _ :: _, [], h => by simp [isPl] at h
  | s :: sh, p :: pl, h => by
    simp only [isPl, Bool.and_eq_true] at h
    simp [isPl_len h.2]
theorem isPl_ne {sh pl : List Int} (h : pl.length ≠ sh.length) : isPl sh pl = false := by
  cases hb : isPl sh pl with
  | false => rfl
  | true => exact absurd (isPl_len hb) h
theorem validS_inv {sh : List Int} (h : validS sh = true) : sh.length ≤ 3 ∧ allB sh 0 60 = true ∧ volW sh ≤ 60 := by
  simp only [validS, Bool.and_eq_true, decide_eq_true_eq] at h
  exact ⟨by omega, h.1.2, h.2⟩
theorem horner {a b p q : Int} (hp : 0 ≤ p) (hp2 : p < a) (hq : 0 ≤ q) (hq2 : q < b) : 0 ≤ p * b + q ∧ p * b + q < a * b := by
  have h1 : 0 ≤ p * b := Int.mul_nonneg hp (by omega)
  have h2 : (p + 1) * b ≤ a * b := Int.mul_le_mul_of_nonneg_right (by omega) (by omega)
  rw [Int.add_mul, Int.one_mul] at h2
  omega
/-- A valid shape, by its number of axes. -/
theorem validS_cases {sh : List Int} (h : validS sh = true) : sh = [] ∨ (∃ a, sh = [a] ∧ 0 ≤ a ∧ a ≤ 60) ∨ (∃ a b, sh = [a, b] ∧ 0 ≤ a ∧ a ≤ 60 ∧ 0 ≤ b ∧ b ≤ 60 ∧ a * b ≤ 60) ∨
    ∃ a b c, sh = [a, b, c] ∧ 0 ≤ a ∧ a ≤ 60 ∧ 0 ≤ b ∧ b ≤ 60 ∧ 0 ≤ c ∧ c ≤ 60 ∧ a * b * c ≤ 60 := by
  obtain ⟨h1, h2, h3⟩ := validS_inv h
  match sh, h1, h2, h3 with
  | [], _, _, _ => exact .inl rfl
  | [a], _, h2, h3 =>
    simp only [allB_cons, allB_nil, Bool.and_true, Bool.and_eq_true, decide_eq_true_eq] at h2
    exact .inr (.inl ⟨a, rfl, h2.1, h2.2⟩)
  | [a, b], _, h2, h3 =>
    simp only [allB_cons, allB_nil, Bool.and_true, Bool.and_eq_true, decide_eq_true_eq] at h2
    have hm := mul60 h2.1.1 h2.1.2 h2.2.1 h2.2.2
    simp only [volW, volFrom, Int.one_mul, wS (x := a) (by omega) (by omega), wS (x := a * b) (by omega) (by omega)] at h3
    exact .inr (.inr (.inl ⟨a, b, rfl, h2.1.1, h2.1.2, h2.2.1, h2.2.2, h3⟩))
  | [a, b, c], _, h2, h3 =>
    simp only [allB_cons, allB_nil, Bool.and_true, Bool.and_eq_true, decide_eq_true_eq] at h2
    have hm := mul60 h2.1.1 h2.1.2 h2.2.1.1 h2.2.1.2
    have hm3 := mul3600 hm.1 hm.2 h2.2.2.1 h2.2.2.2
    simp only [volW, volFrom, Int.one_mul, wS (x := a) (by omega) (by omega), wS (x := a * b) (by omega) (by omega), wS (x := a * b * c) (by omega) (by omega)] at h3
    exact .inr (.inr (.inr ⟨a, b, c, rfl, h2.1.1, h2.1.2, h2.2.1.1, h2.2.1.2, h2.2.2.1, h2.2.2.2, h3⟩))
  | _ :: _ :: _ :: _ :: _, h1, _, _ => simp at h1
/-- The number of a place, without wraps, and where it lies. -/
theorem off_bd {sh pl : List Int} (h : validS sh = true) (hp : isPl sh pl = true) : 0 ≤ offW sh pl 0 ∧ offW sh pl 0 < volW sh := by
  have hl := isPl_len hp
  rcases validS_cases h with rfl | ⟨a, rfl, a0, a1⟩ | ⟨a, b, rfl, a0, a1, b0, b1, v⟩ | ⟨a, b, c, rfl, a0, a1, b0, b1, c0, c1, v⟩
  · match pl, hl with
    | [], _ => decide
  · match pl, hl with
    | [p], _ =>
      simp only [isPl, Bool.and_true, Bool.and_eq_true, decide_eq_true_eq, wS (x := a - 1) (by omega) (by omega)] at hp
      simp only [offW, volW, volFrom, Int.zero_mul, Int.one_mul, wS (x := a) (by omega) (by omega)]
      rw [wS (x := 0) (by omega) (by omega), Int.zero_add, wS (x := p) (by omega) (by omega)]
      omega
  · match pl, hl with
    | [p, q], _ =>
      simp only [isPl, Bool.and_true, Bool.and_eq_true, decide_eq_true_eq, wS (x := a - 1) (by omega) (by omega), wS (x := b - 1) (by omega) (by omega)] at hp
      have hh := horner (a := a) (b := b) hp.1.1 (by omega) hp.2.1 (by omega)
      have hpb := mul60 (a := p) (b := b) hp.1.1 (by omega) b0 b1
      simp only [offW, volW, volFrom, Int.zero_mul, Int.one_mul, wS (x := a) (by omega) (by omega)]
      rw [wS (x := 0) (by omega) (by omega), Int.zero_add, wS (x := p) (by omega) (by omega), wS (x := p * b) (by omega) (by omega), wS (x := p * b + q) (by omega) (by omega), wS (x := a * b) (by omega) (by omega)]
      exact hh
  · match pl, hl with
    | [p, q, r], _ =>
      simp only [isPl, Bool.and_true, Bool.and_eq_true, decide_eq_true_eq, wS (x := a - 1) (by omega) (by omega), wS (x := b - 1) (by omega) (by omega), wS (x := c - 1) (by omega) (by omega)] at hp
      have hh := horner (a := a) (b := b) hp.1.1 (by omega) hp.2.1.1 (by omega)
      have hpb := mul60 (a := p) (b := b) hp.1.1 (by omega) b0 b1
      have hab := mul60 a0 a1 b0 b1
      have hh2 := horner (a := a * b) (b := c) hh.1 hh.2 hp.2.2.1 (by omega)
      have habc := mul3600 hab.1 hab.2 c0 c1
      have hpc := mul3600 (a := p * b + q) (b := c) hh.1 (by omega) c0 c1
      simp only [offW, volW, volFrom, Int.zero_mul, Int.one_mul, wS (x := a) (by omega) (by omega)]
      rw [wS (x := 0) (by omega) (by omega), Int.zero_add, wS (x := p) (by omega) (by omega), wS (x := p * b) (by omega) (by omega), wS (x := p * b + q) (by omega) (by omega), wS (x := (p * b + q) * c) (by omega) (by omega), wS (x := (p * b + q) * c + r) (by omega) (by omega),
        wS (x := a * b) (by omega) (by omega), wS (x := a * b * c) (by omega) (by omega)]
      exact hh2
end Go.Ab
namespace Go.Ab
theorem validA_inv {sh da : List Int} (h : validA sh da = true) : validS sh = true ∧ ((da.length : Nat) : Int) = volW sh ∧ allB da (-1000000) 1000000 = true := by
  simp only [validA, Bool.and_eq_true, beq_iff_eq] at h
  exact ⟨h.1.1, h.1.2, h.2⟩
theorem validA_len {sh da : List Int} (h : validA sh da = true) : sh.length ≤ 3 ∧ da.length ≤ 60 := by
  obtain ⟨h1, h2, _⟩ := validA_inv h
  obtain ⟨h3, _, h4⟩ := validS_inv h1
  exact ⟨h3, by omega⟩
/-- A place of a valid array lies in its numbers. -/
theorem item_idx {sh da pl : List Int} (h : itemB sh da pl = true) : (offW sh pl 0).toNat < da.length ∧ idx (offW sh pl 0) da.length = some (offW sh pl 0).toNat ∧ offA sh da pl = offW sh pl 0 ∧ ¬ offA sh da pl < 0 := by
  simp only [itemB, Bool.and_eq_true] at h
  obtain ⟨h1, h2, _⟩ := validA_inv h.1
  obtain ⟨g1, g2⟩ := off_bd h1 h.2
  have e : offA sh da pl = offW sh pl 0 := by unfold offA offS; rw [h.1, h1, h.2]; rfl
  refine ⟨by omega, ?_, e, by omega⟩
  unfold idx
  rw [if_pos ⟨g1, by omega⟩]
theorem item_no {sh da pl : List Int} (h : itemB sh da pl = false) : offA sh da pl = -1 := by
  unfold offA offS
  unfold itemB at h
  cases hv : validA sh da with
  | false => rfl
  | true =>
    rw [hv] at h
    simp only [Bool.true_and] at h
    rw [h, Bool.and_false]
    rfl
end Go.Ab
namespace Go.Ab
theorem mark2_ok {xs ys : List Int} (h1 : xs.length ≤ 4398046511104) (h2 : ys.length ≤ 4398046511104) : decide (markK ys (markK xs 1) < 0) = false := by
  rw [markK_eq xs 1 (by omega) (by omega), markK_eq ys _ (by omega) (by omega)]
  exact decide_eq_false (by omega)
theorem mark3_ok {xs ys zs : List Int} (h1 : xs.length ≤ 4398046511104) (h2 : ys.length ≤ 4398046511104) (h3 : zs.length ≤ 4398046511104) : decide (markK zs (markK ys (markK xs 1)) < 0) = false := by
  rw [markK_eq xs 1 (by omega) (by omega), markK_eq ys _ (by omega) (by omega), markK_eq zs _ (by omega) (by omega)]
  exact decide_eq_false (by omega)
theorem with_len (sh da pl : List Int) (n : Int) : (withS sh da pl n).length ≤ 3 ∧ (withD sh da pl n).length ≤ 60 := by
  unfold withS withD
  cases h : withB sh da pl n with
  | false => simp
  | true =>
    simp only [withB, itemB, Bool.and_eq_true] at h
    obtain ⟨l1, l2⟩ := validA_len h.1.1
    simp
    omega
end Go.Ab
namespace Go.Ab
namespace laws_toIntS
def E : Entry := ⟨10, false, false, fun | [.d (.ints .i64 xs)] => szB xs | _ => false, fun | [.d (.ints .i64 xs)] => ([.one ((.ints .i64 xs), true)], []) | _ => ([], []), fun _ => [], true⟩
end laws_toIntS
namespace laws_toIntS
noncomputable def X : List Entry := []
def A : Ann := ⟨[], [(1000003, [1, 2, 5, 6, 7, 8, 9, 10, 11, 12, 13, 14, 15, 16, 17, 18, 19, 20, 21])], [], []⟩
noncomputable abbrev L0 (fuel n : Nat) (s : St) (k : Kont) := lAt Try.prog X A fuel (bodyOf Try.f10) [1, 1, 0, 1, 0] n s k
noncomputable abbrev k0  (fuel : Nat) : Kont := kAt Try.prog X A fuel (bodyOf Try.f10) [1, 1, 0, 1, 0] [] (endK Try.prog Try.f10)
def t0 (p0 : List Int) (x0q1 : Int) (x0q2 : List Int) : St := ⟨[(.imm (.ints .i64 p0)), .dead, .dead, (.all 1000000000 1), (.imm (.int .i64 x0q1)), .dead, .dead, .dead, .dead, .dead, .dead, .dead, .dead, .dead, .dead, .dead, .dead, .dead, .dead, .dead, .dead, .dead], hOf [(1000000000, (.ints .i64 x0q2))], []⟩
theorem e (fuel : Nat) (p0 : List Int) : runF Try.prog X A fuel Try.f10 [.d (.ints .i64 p0)] =
  (bif decide (0 ≤ (((p0.length : Nat) : Int) : Int)) && decide ((((p0.length : Nat) : Int) : Int) ≤ ((p0.length : Nat) : Int)) && decide ((((p0.length : Nat) : Int) : Int) ≤ 1152921504606846976) && decide (((8 : Nat) : Int) * ((p0.length : Nat) : Int) ≤ 281474976710656) then
  L0 fuel fuel (t0 p0 0 ((List.replicate (((p0.length : Nat) : Int)).toNat (0 : Int)))) (k0  fuel)
  else
  none) := by kernel_rfl
theorem s0 (fuel n0 : Nat) (p0 : List Int) (x0q1 : Int) (x0q2 : List Int) : L0 fuel (n0 + 1) (t0 p0 x0q1 x0q2) (k0  fuel) =
  (bif (decide ((x0q1 : Int) < ((p0.length : Nat) : Int))) then
  (idx x0q1 p0.length).bind fun k7 =>
  (p0[k7]?).bind fun v8 =>
  (idx x0q1 x0q2.length).bind fun k9 =>
  (bif decide (k9 < x0q2.length) then
  L0 fuel n0 (t0 p0 ((IntKind.wrap .i64 (x0q1 + 1))) ((x0q2.set k9 v8))) (k0  fuel)
  else
  none)
  else
  some ([.one ((.ints .i64 x0q2), true)], [])) := by kernel_rfl
end laws_toIntS
theorem laws_toIntS.ok_of (hX : ∀ E ∈ laws_toIntS.X, CallSpec Try.prog E) (h : ∀ (xs : List Int), (szB xs) = true → ∃ fuel, runF Try.prog laws_toIntS.X laws_toIntS.A fuel Try.f10 [.d (.ints .i64 xs)] = some ([.one ((.ints .i64 xs), true)], [])) : CallSpec Try.prog laws_toIntS.E :=
  callSpec_of hX (by kernel_rfl) (by kernel_rfl) (by kernel_rfl) (by kernel_rfl) (fun xs hp => by
    dsimp only [laws_toIntS.E] at hp ⊢
    split at hp
    · exact h _ hp
    · cases hp)
theorem laws_toIntS.loop (fuel : Nat) (xs : List Int) (hx : xs.length < 9223372036854775808) : ∀ (m n j : Nat) (out : List Int), xs.length - j = m → m < n → j ≤ xs.length → out.length = xs.length → out.take j = xs.take j →
    laws_toIntS.L0 fuel n (laws_toIntS.t0 xs (j : Int) out) (laws_toIntS.k0 fuel) = some ([.one (.ints .i64 xs, true)], []) := by
  intro m
  induction m with
  | zero =>
    intro n j out h1 h2 h3 h4 h5
    obtain ⟨n, rfl⟩ : ∃ n', n = n' + 1 := ⟨n - 1, by omega⟩
    have hj : ¬ j < xs.length := by omega
    have : out = xs := by rw [List.take_of_length_le (by omega), List.take_of_length_le (by omega)] at h5; exact h5
    rw [laws_toIntS.s0, dge hj, this]
    rfl
  | succ m ih =>
    intro n j out h1 h2 h3 h4 h5
    obtain ⟨n, rfl⟩ : ∃ n', n = n' + 1 := ⟨n - 1, by omega⟩
    have hj : j < xs.length := by omega
    have hj2 : j < out.length := by omega
    rw [laws_toIntS.s0, dlt hj, idx_nat hj, idx_nat hj2, w1 (by omega)]
    simp only [cond_true, Option.bind_some, getS hj, hj2, decide_true]
    exact ih n (j + 1) _ (by omega) (by omega) (by omega) (by simpa using h4) (take_set_succ hj hj2 h5)

theorem laws_toIntS.ok : CallSpec Try.prog laws_toIntS.E := laws_toIntS.ok_of (by simp [laws_toIntS.X]) fun xs h => by
  have hx := szB_le h
  refine ⟨xs.length + 1, ?_⟩
  rw [laws_toIntS.e, mkOk (by omega) (by omega)]
  exact laws_toIntS.loop (xs.length + 1) xs (by omega) xs.length (xs.length + 1) 0 _ (by omega) (by omega) (by omega) (by simp) (by simp)

namespace spec_inRange
def E : Entry := ⟨40, true, false, fun | [.d (.int .i64 v), .d (.int .i64 lo), .d (.int .i64 hi)] => true | _ => false, fun | [.d (.int .i64 v), .d (.int .i64 lo), .d (.int .i64 hi)] => ([.one ((.bool (decide (lo ≤ v) && decide (v ≤ hi))), false)], []) | _ => ([], []), fun _ => [], false⟩
end spec_inRange
namespace spec_inRange
noncomputable def X : List Entry := []
def A : Ann := ⟨[], [], [], []⟩
theorem e (fuel : Nat) (p0 : Int) (p1 : Int) (p2 : Int) : runF Try.prog X A fuel Try.f40 [.d (.int .i64 p0), .d (.int .i64 p1), .d (.int .i64 p2)] =
  (bif (decide ((p1 : Int) ≤ p0)) then
  some ([.one ((.bool (decide ((p0 : Int) ≤ p2))), false)], [])
  else
  some ([.one ((.bool false), false)], [])) := by kernel_rfl
end spec_inRange
theorem spec_inRange.ok_of (hX : ∀ E ∈ spec_inRange.X, CallSpec Try.prog E) (h : ∀ (v : Int) (lo : Int) (hi : Int), (true) = true → ∃ fuel, runF Try.prog spec_inRange.X spec_inRange.A fuel Try.f40 [.d (.int .i64 v), .d (.int .i64 lo), .d (.int .i64 hi)] = some ([.one ((.bool (decide (lo ≤ v) && decide (v ≤ hi))), false)], [])) : CallSpec Try.prog spec_inRange.E :=
  callSpec_of hX (by kernel_rfl) (by kernel_rfl) (by kernel_rfl) (by kernel_rfl) (fun xs hp => by
    dsimp only [spec_inRange.E] at hp ⊢
    split at hp
    · exact h _ _ _ hp
    · cases hp)
theorem spec_inRange.ok : CallSpec Try.prog spec_inRange.E := spec_inRange.ok_of (by simp [spec_inRange.X]) fun v lo hi _ => ⟨0, by
  rw [spec_inRange.e]
  cases decide (lo ≤ v) <;> rfl⟩

namespace spec_allIn
def E : Entry := ⟨51, true, false, fun | [.d (.ints .i64 xs), .d (.int .i64 lo), .d (.int .i64 hi)] => decide (xs.length < 9223372036854775808) | _ => false, fun | [.d (.ints .i64 xs), .d (.int .i64 lo), .d (.int .i64 hi)] => ([.one ((.bool (allB xs lo hi)), false)], []) | _ => ([], []), fun _ => [], false⟩
end spec_allIn
namespace spec_allIn
noncomputable def X : List Entry := [spec_inRange.E]
def A : Ann := ⟨[], [(1000002, [3, 4, 5, 6, 8, 9, 10, 11, 12, 13, 14, 15, 16, 17, 18, 19, 20, 21])], [], []⟩
noncomputable abbrev L0 (fuel n : Nat) (s : St) (k : Kont) := lAt Try.prog X A fuel (bodyOf Try.f51) [1, 0, 1, 0] n s k
noncomputable abbrev k0  (fuel : Nat) : Kont := kAt Try.prog X A fuel (bodyOf Try.f51) [1, 0, 1, 0] [] (endK Try.prog Try.f51)
def t0 (p0 : List Int) (p1 : Int) (p2 : Int) (x0q3 : Int) : St := ⟨[(.imm (.ints .i64 p0)), (.imm (.int .i64 p1)), (.imm (.int .i64 p2)), .dead, .dead, .dead, .dead, (.imm (.int .i64 x0q3)), .dead, .dead, .dead, .dead, .dead, .dead, .dead, .dead, .dead, .dead, .dead, .dead, .dead, .dead], hOf [], []⟩
theorem e (fuel : Nat) (p0 : List Int) (p1 : Int) (p2 : Int) : runF Try.prog X A fuel Try.f51 [.d (.ints .i64 p0), .d (.int .i64 p1), .d (.int .i64 p2)] =
  L0 fuel fuel (t0 p0 p1 p2 0) (k0  fuel) := by kernel_rfl
theorem s0 (fuel n0 : Nat) (p0 : List Int) (p1 : Int) (p2 : Int) (x0q3 : Int) : L0 fuel (n0 + 1) (t0 p0 p1 p2 x0q3) (k0  fuel) =
  (bif (decide ((x0q3 : Int) < ((p0.length : Nat) : Int))) then
  (idx x0q3 p0.length).bind fun k5 =>
  (p0[k5]?).bind fun v6 =>
  (bif (!(decide (p1 ≤ v6) && decide (v6 ≤ p2))) then
  some ([.one ((.bool false), false)], [])
  else
  L0 fuel n0 (t0 p0 p1 p2 ((IntKind.wrap .i64 (x0q3 + 1)))) (k0  fuel))
  else
  some ([.one ((.bool true), false)], [])) := by kernel_rfl
end spec_allIn
theorem spec_allIn.ok_of (hX : ∀ E ∈ spec_allIn.X, CallSpec Try.prog E) (h : ∀ (xs : List Int) (lo : Int) (hi : Int), (decide (xs.length < 9223372036854775808)) = true → ∃ fuel, runF Try.prog spec_allIn.X spec_allIn.A fuel Try.f51 [.d (.ints .i64 xs), .d (.int .i64 lo), .d (.int .i64 hi)] = some ([.one ((.bool (allB xs lo hi)), false)], [])) : CallSpec Try.prog spec_allIn.E :=
  callSpec_of hX (by kernel_rfl) (by kernel_rfl) (by kernel_rfl) (by kernel_rfl) (fun xs hp => by
    dsimp only [spec_allIn.E] at hp ⊢
    split at hp
    · exact h _ _ _ hp
    · cases hp)
theorem spec_allIn.loop (fuel : Nat) (xs : List Int) (lo hi : Int) (hx : xs.length < 9223372036854775808) : ∀ (m n j : Nat), xs.length - j = m → m < n → j ≤ xs.length →
    spec_allIn.L0 fuel n (spec_allIn.t0 xs lo hi (j : Int)) (spec_allIn.k0 fuel) = some ([.one (.bool (allB (xs.drop j) lo hi), false)], []) := by
  intro m
  induction m with
  | zero =>
    intro n j h1 h2 h3
    obtain ⟨n, rfl⟩ : ∃ n', n = n' + 1 := ⟨n - 1, by omega⟩
    have hj : ¬ j < xs.length := by omega
    rw [spec_allIn.s0, dge hj, dropE hj]
    rfl
  | succ m ih =>
    intro n j h1 h2 h3
    obtain ⟨n, rfl⟩ : ∃ n', n = n' + 1 := ⟨n - 1, by omega⟩
    have hj : j < xs.length := by omega
    rw [spec_allIn.s0, dlt hj, idx_nat hj, w1 (by omega), dropS hj]
    simp only [cond_true, Option.bind_some, getS hj, allB_cons]
    rw [ih n (j + 1) (by omega) (by omega) (by omega)]
    cases decide (lo ≤ xs[j]) && decide (xs[j] ≤ hi) <;> rfl

theorem spec_allIn.ok : CallSpec Try.prog spec_allIn.E := spec_allIn.ok_of (by simp [spec_allIn.X, spec_inRange.ok]) fun xs lo hi h => by
  simp only [decide_eq_true_eq] at h
  refine ⟨xs.length + 1, ?_⟩
  rw [spec_allIn.e]
  exact spec_allIn.loop (xs.length + 1) xs lo hi h xs.length (xs.length + 1) 0 (by omega) (by omega) (by omega)

namespace spec_volume
def E : Entry := ⟨52, true, false, fun | [.d (.ints .i64 xs)] => decide (xs.length < 9223372036854775808) | _ => false, fun | [.d (.ints .i64 xs)] => ([.one ((.int .i64 (volW xs)), false)], []) | _ => ([], []), fun _ => [], false⟩
end spec_volume
namespace spec_volume
noncomputable def X : List Entry := []
def A : Ann := ⟨[], [(1000003, [1, 2, 5, 6, 7, 8, 9, 10, 11, 12, 13, 14, 15, 16, 17])], [], []⟩
noncomputable abbrev L0 (fuel n : Nat) (s : St) (k : Kont) := lAt Try.prog X A fuel (bodyOf Try.f52) [1, 1, 0, 1, 0] n s k
noncomputable abbrev k0  (fuel : Nat) : Kont := kAt Try.prog X A fuel (bodyOf Try.f52) [1, 1, 0, 1, 0] [] (endK Try.prog Try.f52)
def t0 (p0 : List Int) (x0q1 : Int) (x0q2 : Int) : St := ⟨[(.imm (.ints .i64 p0)), .dead, .dead, (.imm (.int .i64 x0q1)), (.imm (.int .i64 x0q2)), .dead, .dead, .dead, .dead, .dead, .dead, .dead, .dead, .dead, .dead, .dead, .dead, .dead], hOf [], []⟩
theorem e (fuel : Nat) (p0 : List Int) : runF Try.prog X A fuel Try.f52 [.d (.ints .i64 p0)] =
  L0 fuel fuel (t0 p0 1 0) (k0  fuel) := by kernel_rfl
theorem s0 (fuel n0 : Nat) (p0 : List Int) (x0q1 : Int) (x0q2 : Int) : L0 fuel (n0 + 1) (t0 p0 x0q1 x0q2) (k0  fuel) =
  (bif (decide ((x0q2 : Int) < ((p0.length : Nat) : Int))) then
  (idx x0q2 p0.length).bind fun k5 =>
  (p0[k5]?).bind fun v6 =>
  L0 fuel n0 (t0 p0 ((IntKind.wrap .i64 (x0q1 * v6))) ((IntKind.wrap .i64 (x0q2 + 1)))) (k0  fuel)
  else
  some ([.one ((.int .i64 x0q1), false)], [])) := by kernel_rfl
end spec_volume
theorem spec_volume.ok_of (hX : ∀ E ∈ spec_volume.X, CallSpec Try.prog E) (h : ∀ (xs : List Int), (decide (xs.length < 9223372036854775808)) = true → ∃ fuel, runF Try.prog spec_volume.X spec_volume.A fuel Try.f52 [.d (.ints .i64 xs)] = some ([.one ((.int .i64 (volW xs)), false)], [])) : CallSpec Try.prog spec_volume.E :=
  callSpec_of hX (by kernel_rfl) (by kernel_rfl) (by kernel_rfl) (by kernel_rfl) (fun xs hp => by
    dsimp only [spec_volume.E] at hp ⊢
    split at hp
    · exact h _ hp
    · cases hp)
theorem spec_volume.loop (fuel : Nat) (xs : List Int) (hx : xs.length < 9223372036854775808) : ∀ (m n j : Nat) (a : Int), xs.length - j = m → m < n → j ≤ xs.length →
    spec_volume.L0 fuel n (spec_volume.t0 xs a (j : Int)) (spec_volume.k0 fuel) = some ([.one (.int .i64 (volFrom (xs.drop j) a), false)], []) := by
  intro m
  induction m with
  | zero =>
    intro n j a h1 h2 h3
    obtain ⟨n, rfl⟩ : ∃ n', n = n' + 1 := ⟨n - 1, by omega⟩
    have hj : ¬ j < xs.length := by omega
    rw [spec_volume.s0, dge hj, dropE hj]
    rfl
  | succ m ih =>
    intro n j a h1 h2 h3
    obtain ⟨n, rfl⟩ : ∃ n', n = n' + 1 := ⟨n - 1, by omega⟩
    have hj : j < xs.length := by omega
    rw [spec_volume.s0, dlt hj, idx_nat hj, w1 (by omega), dropS hj]
    simp only [cond_true, Option.bind_some, getS hj, volFrom]
    exact ih n (j + 1) _ (by omega) (by omega) (by omega)

theorem spec_volume.ok : CallSpec Try.prog spec_volume.E := spec_volume.ok_of (by simp [spec_volume.X]) fun xs h => by
  simp only [decide_eq_true_eq] at h
  refine ⟨xs.length + 1, ?_⟩
  rw [spec_volume.e]
  exact spec_volume.loop (xs.length + 1) xs h xs.length (xs.length + 1) 0 1 (by omega) (by omega) (by omega)

namespace spec_validShape
def E : Entry := ⟨33, true, false, fun | [.d (.ints .i64 sh)] => decide (sh.length < 9223372036854775808) | _ => false, fun | [.d (.ints .i64 sh)] => ([.one ((.bool (validS sh)), false)], []) | _ => ([], []), fun _ => [], false⟩
end spec_validShape
namespace spec_validShape
noncomputable def X : List Entry := [spec_allIn.E, spec_volume.E]
def A : Ann := ⟨[], [], [], []⟩
theorem e (fuel : Nat) (p0 : List Int) : runF Try.prog X A fuel Try.f33 [.d (.ints .i64 p0)] =
  (bif (decide ((((p0.length : Nat) : Int) : Int) ≤ 3)) then
  (bif decide (p0.length < 9223372036854775808) then
  (bif (allB p0 0 60) then
  (bif decide (p0.length < 9223372036854775808) then
  some ([.one ((.bool (decide (((volW p0) : Int) ≤ 60))), false)], [])
  else
  none)
  else
  some ([.one ((.bool false), false)], []))
  else
  none)
  else
  some ([.one ((.bool false), false)], [])) := by kernel_rfl
end spec_validShape
theorem spec_validShape.ok_of (hX : ∀ E ∈ spec_validShape.X, CallSpec Try.prog E) (h : ∀ (sh : List Int), (decide (sh.length < 9223372036854775808)) = true → ∃ fuel, runF Try.prog spec_validShape.X spec_validShape.A fuel Try.f33 [.d (.ints .i64 sh)] = some ([.one ((.bool (validS sh)), false)], [])) : CallSpec Try.prog spec_validShape.E :=
  callSpec_of hX (by kernel_rfl) (by kernel_rfl) (by kernel_rfl) (by kernel_rfl) (fun xs hp => by
    dsimp only [spec_validShape.E] at hp ⊢
    split at hp
    · exact h _ hp
    · cases hp)
theorem spec_validShape.ok : CallSpec Try.prog spec_validShape.E := spec_validShape.ok_of (by simp [spec_validShape.X, spec_allIn.ok, spec_volume.ok]) fun sh h => ⟨0, by
  rw [spec_validShape.e, h]
  unfold validS
  cases decide (((sh.length : Nat) : Int) ≤ 3) <;> cases allB sh 0 60 <;> rfl⟩

namespace spec_isPlace
def E : Entry := ⟨34, true, false, fun | [.d (.ints .i64 sh), .d (.ints .i64 pl)] => decide (sh.length < 9223372036854775808) && decide (pl.length < 9223372036854775808) | _ => false, fun | [.d (.ints .i64 sh), .d (.ints .i64 pl)] => ([.one ((.bool (isPl sh pl)), false)], []) | _ => ([], []), fun _ => [], false⟩
end spec_isPlace
namespace spec_isPlace
noncomputable def X : List Entry := [spec_inRange.E]
def A : Ann := ⟨[], [(1000004, [2, 3, 4, 6, 7, 8, 9, 10, 11, 12, 13, 14, 15, 16, 17, 18, 19, 20, 21, 22, 23, 24, 25, 26, 27])], [], [(6, [0, 1, 4, 5, 2, 3, 6, 7, 8, 9, 10])]⟩
noncomputable abbrev L0 (fuel n : Nat) (s : St) (k : Kont) := lAt Try.prog X A fuel (bodyOf Try.f34) [1, 1, 0, 1, 0] n s k
noncomputable abbrev k0  (fuel : Nat) : Kont := kAt Try.prog X A fuel (bodyOf Try.f34) [1, 1, 0, 1, 0] [] (endK Try.prog Try.f34)
def t0 (p0 : List Int) (p1 : List Int) (x0q2 : Int) : St := ⟨[(.imm (.ints .i64 p0)), (.imm (.ints .i64 p1)), .dead, .dead, .dead, (.imm (.int .i64 x0q2)), .dead, .dead, .dead, .dead, .dead, .dead, .dead, .dead, .dead, .dead, .dead, .dead, .dead, .dead, .dead, .dead, .dead, .dead, .dead, .dead, .dead, .dead], hOf [], []⟩
theorem e (fuel : Nat) (p0 : List Int) (p1 : List Int) : runF Try.prog X A fuel Try.f34 [.d (.ints .i64 p0), .d (.ints .i64 p1)] =
  (bif ((((p1.length : Nat) : Int) : Int) != ((p0.length : Nat) : Int)) then
  some ([.one ((.bool false), false)], [])
  else
  L0 fuel fuel (t0 p0 p1 0) (k0  fuel)) := by kernel_rfl
theorem s0 (fuel n0 : Nat) (p0 : List Int) (p1 : List Int) (x0q2 : Int) : L0 fuel (n0 + 1) (t0 p0 p1 x0q2) (k0  fuel) =
  (bif (decide ((x0q2 : Int) < ((p0.length : Nat) : Int))) then
  (idx x0q2 p1.length).bind fun k9 =>
  (p1[k9]?).bind fun v10 =>
  (idx x0q2 p0.length).bind fun k11 =>
  (p0[k11]?).bind fun v12 =>
  (bif (!(decide (0 ≤ v10) && decide (v10 ≤ ((IntKind.wrap .i64 (v12 - 1)))))) then
  some ([.one ((.bool false), false)], [])
  else
  L0 fuel n0 (t0 p0 p1 ((IntKind.wrap .i64 (x0q2 + 1)))) (k0  fuel))
  else
  some ([.one ((.bool true), false)], [])) := by kernel_rfl
end spec_isPlace
theorem spec_isPlace.ok_of (hX : ∀ E ∈ spec_isPlace.X, CallSpec Try.prog E) (h : ∀ (sh : List Int) (pl : List Int), (decide (sh.length < 9223372036854775808) && decide (pl.length < 9223372036854775808)) = true → ∃ fuel, runF Try.prog spec_isPlace.X spec_isPlace.A fuel Try.f34 [.d (.ints .i64 sh), .d (.ints .i64 pl)] = some ([.one ((.bool (isPl sh pl)), false)], [])) : CallSpec Try.prog spec_isPlace.E :=
  callSpec_of hX (by kernel_rfl) (by kernel_rfl) (by kernel_rfl) (by kernel_rfl) (fun xs hp => by
    dsimp only [spec_isPlace.E] at hp ⊢
    split at hp
    · exact h _ _ hp
    · cases hp)
theorem spec_isPlace.loop (fuel : Nat) (sh pl : List Int) (hx : sh.length < 9223372036854775808) (hl : pl.length = sh.length) : ∀ (m n j : Nat), sh.length - j = m → m < n → j ≤ sh.length →
    spec_isPlace.L0 fuel n (spec_isPlace.t0 sh pl (j : Int)) (spec_isPlace.k0 fuel) = some ([.one (.bool (isPl (sh.drop j) (pl.drop j)), false)], []) := by
  intro m
  induction m with
  | zero =>
    intro n j h1 h2 h3
    obtain ⟨n, rfl⟩ : ∃ n', n = n' + 1 := ⟨n - 1, by omega⟩
    have hj : ¬ j < sh.length := by omega
    rw [spec_isPlace.s0, dge hj, dropE hj, dropE (xs := pl) (by omega)]
    rfl
  | succ m ih =>
    intro n j h1 h2 h3
    obtain ⟨n, rfl⟩ : ∃ n', n = n' + 1 := ⟨n - 1, by omega⟩
    have hj : j < sh.length := by omega
    have hj2 : j < pl.length := by omega
    rw [spec_isPlace.s0, dlt hj, idx_nat hj, idx_nat hj2, w1 (by omega), dropS hj, dropS hj2]
    simp only [cond_true, Option.bind_some, getS hj, getS hj2, isPl]
    rw [ih n (j + 1) (by omega) (by omega) (by omega)]
    cases decide (0 ≤ pl[j]) && decide (pl[j] ≤ IntKind.wrap .i64 (sh[j] - 1)) <;> rfl

theorem spec_isPlace.ok : CallSpec Try.prog spec_isPlace.E := spec_isPlace.ok_of (by simp [spec_isPlace.X, spec_inRange.ok]) fun sh pl h => by
  simp only [Bool.and_eq_true, decide_eq_true_eq] at h
  refine ⟨sh.length + 1, ?_⟩
  rw [spec_isPlace.e]
  by_cases hl : pl.length = sh.length
  · have := spec_isPlace.loop (sh.length + 1) sh pl h.1 hl sh.length (sh.length + 1) 0 (by omega) (by omega) (by omega)
    simp only [hl, bne_self_eq_false, cond_false]
    exact this
  · rw [isPl_ne hl]
    have : (((pl.length : Nat) : Int) != ((sh.length : Nat) : Int)) = true := by simp; omega
    rw [this]
    rfl

namespace spec_offset
def E : Entry := ⟨35, true, false, fun | [.d (.ints .i64 sh), .d (.ints .i64 pl)] => decide (sh.length < 9223372036854775808) && decide (pl.length < 9223372036854775808) && decide (sh.length ≤ pl.length) | _ => false, fun | [.d (.ints .i64 sh), .d (.ints .i64 pl)] => ([.one ((.int .i64 (offW sh pl 0)), false)], []) | _ => ([], []), fun _ => [], false⟩
end spec_offset
namespace spec_offset
noncomputable def X : List Entry := []
def A : Ann := ⟨[], [(1000003, [2, 3, 4, 7, 8, 9, 10, 11, 12, 13, 14, 15, 16, 17, 18, 19, 20, 21, 22, 23, 24])], [], [(5, [0, 1, 2, 6, 7, 3, 4, 5, 8, 9, 10, 11])]⟩
noncomputable abbrev L0 (fuel n : Nat) (s : St) (k : Kont) := lAt Try.prog X A fuel (bodyOf Try.f35) [1, 1, 0, 1, 0] n s k
noncomputable abbrev k0  (fuel : Nat) : Kont := kAt Try.prog X A fuel (bodyOf Try.f35) [1, 1, 0, 1, 0] [] (endK Try.prog Try.f35)
def t0 (p0 : List Int) (p1 : List Int) (x0q2 : Int) (x0q3 : Int) : St := ⟨[(.imm (.ints .i64 p0)), (.imm (.ints .i64 p1)), .dead, .dead, .dead, (.imm (.int .i64 x0q2)), (.imm (.int .i64 x0q3)), .dead, .dead, .dead, .dead, .dead, .dead, .dead, .dead, .dead, .dead, .dead, .dead, .dead, .dead, .dead, .dead, .dead, .dead], hOf [], []⟩
theorem e (fuel : Nat) (p0 : List Int) (p1 : List Int) : runF Try.prog X A fuel Try.f35 [.d (.ints .i64 p0), .d (.ints .i64 p1)] =
  L0 fuel fuel (t0 p0 p1 0 0) (k0  fuel) := by kernel_rfl
theorem s0 (fuel n0 : Nat) (p0 : List Int) (p1 : List Int) (x0q2 : Int) (x0q3 : Int) : L0 fuel (n0 + 1) (t0 p0 p1 x0q2 x0q3) (k0  fuel) =
  (bif (decide ((x0q3 : Int) < ((p0.length : Nat) : Int))) then
  (idx x0q3 p0.length).bind fun k9 =>
  (p0[k9]?).bind fun v10 =>
  (idx x0q3 p1.length).bind fun k11 =>
  (p1[k11]?).bind fun v12 =>
  L0 fuel n0 (t0 p0 p1 ((IntKind.wrap .i64 ((IntKind.wrap .i64 (x0q2 * v10)) + v12))) ((IntKind.wrap .i64 (x0q3 + 1)))) (k0  fuel)
  else
  some ([.one ((.int .i64 x0q2), false)], [])) := by kernel_rfl
end spec_offset
theorem spec_offset.ok_of (hX : ∀ E ∈ spec_offset.X, CallSpec Try.prog E) (h : ∀ (sh : List Int) (pl : List Int), (decide (sh.length < 9223372036854775808) && decide (pl.length < 9223372036854775808) && decide (sh.length ≤ pl.length)) = true → ∃ fuel, runF Try.prog spec_offset.X spec_offset.A fuel Try.f35 [.d (.ints .i64 sh), .d (.ints .i64 pl)] = some ([.one ((.int .i64 (offW sh pl 0)), false)], [])) : CallSpec Try.prog spec_offset.E :=
  callSpec_of hX (by kernel_rfl) (by kernel_rfl) (by kernel_rfl) (by kernel_rfl) (fun xs hp => by
    dsimp only [spec_offset.E] at hp ⊢
    split at hp
    · exact h _ _ hp
    · cases hp)
theorem spec_offset.loop (fuel : Nat) (sh pl : List Int) (hx : sh.length < 9223372036854775808) (hl : sh.length ≤ pl.length) : ∀ (m n j : Nat) (a : Int), sh.length - j = m → m < n → j ≤ sh.length →
    spec_offset.L0 fuel n (spec_offset.t0 sh pl a (j : Int)) (spec_offset.k0 fuel) = some ([.one (.int .i64 (offW (sh.drop j) (pl.drop j) a), false)], []) := by
  intro m
  induction m with
  | zero =>
    intro n j a h1 h2 h3
    obtain ⟨n, rfl⟩ : ∃ n', n = n' + 1 := ⟨n - 1, by omega⟩
    have hj : ¬ j < sh.length := by omega
    rw [spec_offset.s0, dge hj, dropE hj]
    rfl
  | succ m ih =>
    intro n j a h1 h2 h3
    obtain ⟨n, rfl⟩ : ∃ n', n = n' + 1 := ⟨n - 1, by omega⟩
    have hj : j < sh.length := by omega
    have hj2 : j < pl.length := by omega
    rw [spec_offset.s0, dlt hj, idx_nat hj, idx_nat hj2, w1 (by omega), dropS hj, dropS hj2]
    simp only [cond_true, Option.bind_some, getS hj, getS hj2, offW]
    exact ih n (j + 1) _ (by omega) (by omega) (by omega)

theorem spec_offset.ok : CallSpec Try.prog spec_offset.E := spec_offset.ok_of (by simp [spec_offset.X]) fun sh pl h => by
  simp only [Bool.and_eq_true, decide_eq_true_eq] at h
  refine ⟨sh.length + 1, ?_⟩
  rw [spec_offset.e]
  exact spec_offset.loop (sh.length + 1) sh pl h.1.1 h.2 sh.length (sh.length + 1) 0 0 (by omega) (by omega) (by omega)

namespace spec_OffsetOf
def E : Entry := ⟨9, true, false, fun | [.d (.ints .i64 sh), .d (.ints .i64 pl)] => decide (sh.length < 9223372036854775808) && decide (pl.length < 9223372036854775808) | _ => false, fun | [.d (.ints .i64 sh), .d (.ints .i64 pl)] => ([.one ((.int .i64 (offS sh pl)), false)], []) | _ => ([], []), fun _ => [], false⟩
end spec_OffsetOf
namespace spec_OffsetOf
noncomputable def X : List Entry := [spec_validShape.E, spec_isPlace.E, spec_offset.E]
def A : Ann := ⟨[], [], [], []⟩
theorem e (fuel : Nat) (p0 : List Int) (p1 : List Int) : runF Try.prog X A fuel Try.f9 [.d (.ints .i64 p0), .d (.ints .i64 p1)] =
  (bif decide (p0.length < 9223372036854775808) then
  (bif (!(validS p0)) then
  some ([.one ((.int .i64 (-1)), false)], [])
  else
  (bif decide (p0.length < 9223372036854775808) && decide (p1.length < 9223372036854775808) then
  (bif (!(isPl p0 p1)) then
  some ([.one ((.int .i64 (-1)), false)], [])
  else
  (bif decide (p0.length < 9223372036854775808) && decide (p1.length < 9223372036854775808) && decide (p0.length ≤ p1.length) then
  some ([.one ((.int .i64 (offW p0 p1 0)), false)], [])
  else
  none))
  else
  none))
  else
  none) := by kernel_rfl
end spec_OffsetOf
theorem spec_OffsetOf.ok_of (hX : ∀ E ∈ spec_OffsetOf.X, CallSpec Try.prog E) (h : ∀ (sh : List Int) (pl : List Int), (decide (sh.length < 9223372036854775808) && decide (pl.length < 9223372036854775808)) = true → ∃ fuel, runF Try.prog spec_OffsetOf.X spec_OffsetOf.A fuel Try.f9 [.d (.ints .i64 sh), .d (.ints .i64 pl)] = some ([.one ((.int .i64 (offS sh pl)), false)], [])) : CallSpec Try.prog spec_OffsetOf.E :=
  callSpec_of hX (by kernel_rfl) (by kernel_rfl) (by kernel_rfl) (by kernel_rfl) (fun xs hp => by
    dsimp only [spec_OffsetOf.E] at hp ⊢
    split at hp
    · exact h _ _ hp
    · cases hp)
theorem spec_OffsetOf.ok : CallSpec Try.prog spec_OffsetOf.E := spec_OffsetOf.ok_of (by simp [spec_OffsetOf.X, spec_validShape.ok, spec_isPlace.ok, spec_offset.ok]) fun sh pl h => ⟨0, by
  simp only [Bool.and_eq_true] at h
  rw [spec_OffsetOf.e, h.1, h.2]
  unfold offS
  cases validS sh
  · rfl
  · cases hp : isPl sh pl with
    | false => rfl
    | true =>
      rw [decide_eq_true (p := sh.length ≤ pl.length) (by rw [isPl_len hp]; exact Nat.le_refl _)]
      rfl⟩

namespace impl_layoutOf
def E : Entry := ⟨36, false, false, fun | [.d (.ints .i64 sh)] => decide (sh.length < 9223372036854775808) | _ => false, fun | [.d (.ints .i64 sh)] => ([.agg [((.ints .i64 nilI), true), ((.int .i64 0), false), ((.int .i64 0), false), ((.int .i64 0), false), ((.int .i64 0), false)], .one ((.bool false), false)], []) | _ => ([], []), fun | [.d (.ints .i64 sh)] => [(validS sh, ([.agg [((.ints .i64 sh), false), ((.int .i64 (strd sh 0)), false), ((.int .i64 (strd sh 1)), false), ((.int .i64 (strd sh 2)), false), ((.int .i64 (volW sh)), false)], .one ((.bool true), false)], []))] | _ => [], true⟩
end impl_layoutOf
namespace impl_layoutOf
noncomputable def X : List Entry := []
def A : Ann := ⟨[], [(1000005, [1, 3, 6, 7, 8, 9, 10, 11, 12, 13, 14, 15, 16, 17, 18, 19, 20, 21, 22, 23, 24, 25, 26, 27, 28, 29, 30, 31, 32, 33, 34, 35, 36, 37, 38, 39, 40, 41, 42, 43, 44, 45, 46, 47, 48, 49])], [], [(10, [0, 2, 3, 1, 4, 5, 6, 7, 8])]⟩
noncomputable abbrev L0 (fuel n : Nat) (s : St) (k : Kont) := lAt Try.prog X A fuel (bodyOf Try.f36) [1, 1, 1, 0, 1, 0] n s k
noncomputable abbrev k0  (fuel : Nat) : Kont := kAt Try.prog X A fuel (bodyOf Try.f36) [1, 1, 1, 0, 1, 0] [] (endK Try.prog Try.f36)
def t0 (p0 : List Int) (x0q1 : Int) (x0q7 : Int) (x0q8 : Int) (x0q9 : Int) (x0q10 : Int) : St := ⟨[(.imm (.ints .i64 p0)), .dead, (.ptr 1000000000 0 0), .dead, (.ptr 1000000001 0 0), (.imm (.int .i64 x0q1)), .dead, .dead, .dead, .dead, .dead, .dead, .dead, .dead, .dead, .dead, .dead, .dead, .dead, .dead, .dead, .dead, .dead, .dead, .dead, .dead, .dead, .dead, .dead, .dead, .dead, .dead, .dead, .dead, .dead, .dead, .dead, .dead, .dead, .dead, .dead, .dead, .dead, .dead, .dead, .dead, .dead, .dead, .dead, .dead], hOf [(1000000000, (.box [(.imm .nils), (.imm (.int .i64 0)), (.imm (.int .i64 0)), (.imm (.int .i64 0)), (.imm (.int .i64 0))])), (1000000001, (.box [(.imm (.ints .i64 p0)), (.imm (.int .i64 x0q7)), (.imm (.int .i64 x0q8)), (.imm (.int .i64 x0q9)), (.imm (.int .i64 x0q10))]))], []⟩
theorem e (fuel : Nat) (p0 : List Int) : runF Try.prog X A fuel Try.f36 [.d (.ints .i64 p0)] =
  (bif (decide ((((p0.length : Nat) : Int) : Int) > 3)) then
  some ([.agg [((.ints .i64 []), true), ((.int .i64 0), false), ((.int .i64 0), false), ((.int .i64 0), false), ((.int .i64 0), false)], .one ((.bool false), false)], [])
  else
  L0 fuel fuel (t0 p0 ((IntKind.wrap .i64 (((p0.length : Nat) : Int) - 1))) 0 0 0 1) (k0  fuel)) := by kernel_rfl
theorem s0 (fuel n0 : Nat) (p0 : List Int) (x0q1 : Int) (x0q7 : Int) (x0q8 : Int) (x0q9 : Int) (x0q10 : Int) : L0 fuel (n0 + 1) (t0 p0 x0q1 x0q7 x0q8 x0q9 x0q10) (k0  fuel) =
  (bif (decide ((x0q1 : Int) ≥ 0)) then
  (idx x0q1 p0.length).bind fun k21 =>
  (p0[k21]?).bind fun v22 =>
  (bif (decide ((v22 : Int) < 0)) then
  some ([.agg [((.ints .i64 []), true), ((.int .i64 0), false), ((.int .i64 0), false), ((.int .i64 0), false), ((.int .i64 0), false)], .one ((.bool false), false)], [])
  else
  (idx x0q1 p0.length).bind fun k23 =>
  (p0[k23]?).bind fun v24 =>
  (bif (decide ((v24 : Int) > 60)) then
  some ([.agg [((.ints .i64 []), true), ((.int .i64 0), false), ((.int .i64 0), false), ((.int .i64 0), false), ((.int .i64 0), false)], .one ((.bool false), false)], [])
  else
  (bif decide (x0q1 = ((0 : Nat) : Int)) then
  (idx x0q1 p0.length).bind fun k29 =>
  (p0[k29]?).bind fun v30 =>
  L0 fuel n0 (t0 p0 ((IntKind.wrap .i64 (x0q1 - 1))) x0q10 x0q8 x0q9 ((IntKind.wrap .i64 (x0q10 * v30)))) (k0  fuel)
  else
  (bif decide (x0q1 = ((1 : Nat) : Int)) then
  (idx x0q1 p0.length).bind fun k27 =>
  (p0[k27]?).bind fun v28 =>
  L0 fuel n0 (t0 p0 ((IntKind.wrap .i64 (x0q1 - 1))) x0q7 x0q10 x0q9 ((IntKind.wrap .i64 (x0q10 * v28)))) (k0  fuel)
  else
  (bif decide (x0q1 = ((2 : Nat) : Int)) then
  (idx x0q1 p0.length).bind fun k25 =>
  (p0[k25]?).bind fun v26 =>
  L0 fuel n0 (t0 p0 ((IntKind.wrap .i64 (x0q1 - 1))) x0q7 x0q8 x0q10 ((IntKind.wrap .i64 (x0q10 * v26)))) (k0  fuel)
  else
  none)))))
  else
  (bif (decide ((x0q10 : Int) > 60)) then
  some ([.agg [((.ints .i64 []), true), ((.int .i64 0), false), ((.int .i64 0), false), ((.int .i64 0), false), ((.int .i64 0), false)], .one ((.bool false), false)], [])
  else
  some ([.agg [((.ints .i64 p0), false), ((.int .i64 x0q7), false), ((.int .i64 x0q8), false), ((.int .i64 x0q9), false), ((.int .i64 x0q10), false)], .one ((.bool true), false)], []))) := by kernel_rfl
end impl_layoutOf
theorem impl_layoutOf.ok_of (hX : ∀ E ∈ impl_layoutOf.X, CallSpec Try.prog E) (h : ∀ (sh : List Int), (decide (sh.length < 9223372036854775808)) = true → ∃ fuel, runF Try.prog impl_layoutOf.X impl_layoutOf.A fuel Try.f36 [.d (.ints .i64 sh)] = some (bif validS sh then ([.agg [((.ints .i64 sh), false), ((.int .i64 (strd sh 0)), false), ((.int .i64 (strd sh 1)), false), ((.int .i64 (strd sh 2)), false), ((.int .i64 (volW sh)), false)], .one ((.bool true), false)], []) else ([.agg [((.ints .i64 nilI), true), ((.int .i64 0), false), ((.int .i64 0), false), ((.int .i64 0), false), ((.int .i64 0), false)], .one ((.bool false), false)], []))) : CallSpec Try.prog impl_layoutOf.E :=
  callSpec_of hX (by kernel_rfl) (by kernel_rfl) (by kernel_rfl) (by kernel_rfl) (fun xs hp => by
    dsimp only [impl_layoutOf.E] at hp ⊢
    split at hp
    · exact h _ hp
    · cases hp)
theorem impl_layoutOf.bad (fuel n : Nat) (sh : List Int) (k : Nat) (v : Int) (s0 s1 s2 z : Int) (hk : k < sh.length) (hv : sh[k]? = some v) (h : ¬ (0 ≤ v ∧ v ≤ 60)) :
    impl_layoutOf.L0 fuel (n + 1) (impl_layoutOf.t0 sh (k : Int) s0 s1 s2 z) (impl_layoutOf.k0 fuel) = some ([.agg [(.ints .i64 [], true), (.int .i64 0, false), (.int .i64 0, false), (.int .i64 0, false), (.int .i64 0, false)], .one (.bool false, false)], []) := by
  rw [impl_layoutOf.s0, decide_eq_true (by omega), idx_nat hk]
  simp only [cond_true, Option.bind_some, hv]
  by_cases h0 : v < 0
  · rw [decide_eq_true h0]; rfl
  · rw [decide_eq_false h0, decide_eq_true (by omega)]; rfl
theorem impl_layoutOf.good (fuel n : Nat) (sh : List Int) (k : Nat) (v : Int) (s0 s1 s2 z : Int) (hk : k < sh.length) (hv : sh[k]? = some v) (h : 0 ≤ v ∧ v ≤ 60) (hk3 : k < 3) :
    impl_layoutOf.L0 fuel (n + 1) (impl_layoutOf.t0 sh (k : Int) s0 s1 s2 z) (impl_layoutOf.k0 fuel) =
      impl_layoutOf.L0 fuel n (impl_layoutOf.t0 sh ((k : Int) - 1) (bif k == 0 then z else s0) (bif k == 1 then z else s1) (bif k == 2 then z else s2) (IntKind.wrap .i64 (z * v))) (impl_layoutOf.k0 fuel) := by
  rw [impl_layoutOf.s0, decide_eq_true (by omega), idx_nat hk]
  simp only [cond_true, Option.bind_some, hv]
  rw [decide_eq_false (p := v < 0) (by omega), decide_eq_false (p := v > 60) (by omega), wS (x := (k : Int) - 1) (by omega) (by omega)]
  simp only [cond_false]
  match k, hk3 with
  | 0, _ => rfl
  | 1, _ => rfl
  | 2, _ => rfl
theorem impl_layoutOf.last (fuel n : Nat) (sh : List Int) (i : Int) (s0 s1 s2 z : Int) (hi : i < 0) :
    impl_layoutOf.L0 fuel (n + 1) (impl_layoutOf.t0 sh i s0 s1 s2 z) (impl_layoutOf.k0 fuel) = 
      bif decide (z ≤ 60) then some ([.agg [(.ints .i64 sh, false), (.int .i64 s0, false), (.int .i64 s1, false), (.int .i64 s2, false), (.int .i64 z, false)], .one (.bool true, false)], [])
      else some ([.agg [(.ints .i64 [], true), (.int .i64 0, false), (.int .i64 0, false), (.int .i64 0, false), (.int .i64 0, false)], .one (.bool false, false)], []) := by
  rw [impl_layoutOf.s0, decide_eq_false (by omega)]
  simp only [cond_false]
  by_cases hz : z ≤ 60
  · rw [decide_eq_true hz, decide_eq_false (by omega)]; rfl
  · rw [decide_eq_false hz, decide_eq_true (by omega)]; rfl
theorem rng_dec {v : Int} (h : 0 ≤ v ∧ v ≤ 60) : (decide (0 ≤ v) && decide (v ≤ 60)) = true := by simp [h.1, h.2]
theorem rng_bad {v : Int} (h : ¬ (0 ≤ v ∧ v ≤ 60)) : (decide (0 ≤ v) && decide (v ≤ 60)) = false := by
  cases hb : (decide (0 ≤ v) && decide (v ≤ 60)) with
  | false => rfl
  | true => simp at hb; exact absurd hb h
theorem validS1 (a : Int) : validS [a] = ((decide (0 ≤ a) && decide (a ≤ 60)) && decide (IntKind.wrap .i64 (1 * a) ≤ 60)) := by
  simp only [validS, allB_cons, allB_nil, Bool.and_true, volW, volFrom]; rfl
theorem validS2 (a b : Int) : validS [a, b] = ((decide (0 ≤ a) && decide (a ≤ 60)) && (decide (0 ≤ b) && decide (b ≤ 60)) && decide (IntKind.wrap .i64 (IntKind.wrap .i64 (1 * a) * b) ≤ 60)) := by
  simp only [validS, allB_cons, allB_nil, Bool.and_true, volW, volFrom]; rfl
theorem validS3 (a b c : Int) : validS [a, b, c] = ((decide (0 ≤ a) && decide (a ≤ 60)) && ((decide (0 ≤ b) && decide (b ≤ 60)) && (decide (0 ≤ c) && decide (c ≤ 60))) && decide (IntKind.wrap .i64 (IntKind.wrap .i64 (IntKind.wrap .i64 (1 * a) * b) * c) ≤ 60)) := by
  simp only [validS, allB_cons, allB_nil, Bool.and_true, volW, volFrom]; rfl
theorem impl_layoutOf.ok : CallSpec Try.prog impl_layoutOf.E := impl_layoutOf.ok_of (by simp [impl_layoutOf.X]) fun sh h => by
  refine ⟨5, ?_⟩
  rw [impl_layoutOf.e]
  match sh with
  | [] => rw [show decide (((([] : List Int).length : Nat) : Int) > 3) = false from rfl, cond_false, impl_layoutOf.last _ _ _ _ _ _ _ _ (by decide)]; rfl
  | [a] =>
    rw [show decide (((([a] : List Int).length : Nat) : Int) > 3) = false from rfl, cond_false, show IntKind.wrap .i64 ((([a] : List Int).length : Nat) - 1) = ((0 : Nat) : Int) from rfl, validS1]
    by_cases h1 : 0 ≤ a ∧ a ≤ 60
    · rw [impl_layoutOf.good _ _ _ _ a _ _ _ _ (by simp) rfl h1 (by omega), impl_layoutOf.last _ _ _ _ _ _ _ _ (by decide), rng_dec h1, Int.one_mul, wS (x := a) (by omega) (by omega)]
      simp only [strd, volW, volFrom, Int.one_mul, wS (x := a) (by omega) (by omega)]
      cases decide (a ≤ 60) <;> rfl
    · rw [impl_layoutOf.bad _ _ _ _ a _ _ _ _ (by simp) rfl h1, rng_bad h1]; rfl
  | [a, b] =>
    rw [show decide (((([a, b] : List Int).length : Nat) : Int) > 3) = false from rfl, cond_false, show IntKind.wrap .i64 ((([a, b] : List Int).length : Nat) - 1) = ((1 : Nat) : Int) from rfl, validS2]
    by_cases h1 : 0 ≤ b ∧ b ≤ 60
    case neg => rw [impl_layoutOf.bad _ _ _ _ b _ _ _ _ (by simp) rfl h1, rng_bad h1, Bool.and_false]; rfl
    rw [impl_layoutOf.good _ _ _ _ b _ _ _ _ (by simp) rfl h1 (by omega), show (((1 : Nat) : Int) - 1) = ((0 : Nat) : Int) from rfl]
    by_cases h2 : 0 ≤ a ∧ a ≤ 60
    case neg => rw [impl_layoutOf.bad _ _ _ _ a _ _ _ _ (by simp) rfl h2, rng_bad h2]; rfl
    have hm := mul60 h2.1 h2.2 h1.1 h1.2
    rw [impl_layoutOf.good _ _ _ _ a _ _ _ _ (by simp) rfl h2 (by omega), impl_layoutOf.last _ _ _ _ _ _ _ _ (by decide), rng_dec h1, rng_dec h2, Int.one_mul, Int.one_mul, wS (x := a) (by omega) (by omega), wS (x := b) (by omega) (by omega), Int.mul_comm b a, wS (x := a * b) (by omega) (by omega)]
    simp only [strd, volW, volFrom, Int.one_mul, wS (x := a) (by omega) (by omega), wS (x := b) (by omega) (by omega), wS (x := a * b) (by omega) (by omega), List.drop_succ_cons, List.drop_zero]
    cases decide (a * b ≤ 60) <;> rfl
  | [a, b, c] =>
    rw [show decide (((([a, b, c] : List Int).length : Nat) : Int) > 3) = false from rfl, cond_false, show IntKind.wrap .i64 ((([a, b, c] : List Int).length : Nat) - 1) = ((2 : Nat) : Int) from rfl, validS3]
    by_cases h0 : 0 ≤ c ∧ c ≤ 60
    case neg => rw [impl_layoutOf.bad _ _ _ _ c _ _ _ _ (by simp) rfl h0, rng_bad h0, Bool.and_false, Bool.and_false]; rfl
    rw [impl_layoutOf.good _ _ _ _ c _ _ _ _ (by simp) rfl h0 (by omega), show (((2 : Nat) : Int) - 1) = ((1 : Nat) : Int) from rfl]
    by_cases h1 : 0 ≤ b ∧ b ≤ 60
    case neg => rw [impl_layoutOf.bad _ _ _ _ b _ _ _ _ (by simp) rfl h1, rng_bad h1, Bool.false_and, Bool.and_false]; rfl
    rw [impl_layoutOf.good _ _ _ _ b _ _ _ _ (by simp) rfl h1 (by omega), show (((1 : Nat) : Int) - 1) = ((0 : Nat) : Int) from rfl]
    by_cases h2 : 0 ≤ a ∧ a ≤ 60
    case neg => rw [impl_layoutOf.bad _ _ _ _ a _ _ _ _ (by simp) rfl h2, rng_bad h2]; rfl
    have hm := mul60 h2.1 h2.2 h1.1 h1.2
    have hm1 := mul60 h1.1 h1.2 h0.1 h0.2
    have hm3 := mul3600 hm.1 hm.2 h0.1 h0.2
    have hc : b * c * a = a * b * c := by rw [Int.mul_comm (b * c) a, Int.mul_assoc]
    rw [impl_layoutOf.good _ _ _ _ a _ _ _ _ (by simp) rfl h2 (by omega), impl_layoutOf.last _ _ _ _ _ _ _ _ (by decide), rng_dec h0, rng_dec h1, rng_dec h2, Int.one_mul, Int.one_mul, wS (x := a) (by omega) (by omega), wS (x := c) (by omega) (by omega), Int.mul_comm c b, wS (x := a * b) (by omega) (by omega), wS (x := b * c) (by omega) (by omega), hc, wS (x := a * b * c) (by omega) (by omega)]
    simp only [strd, volW, volFrom, Int.one_mul, wS (x := a) (by omega) (by omega), wS (x := b) (by omega) (by omega), wS (x := c) (by omega) (by omega), wS (x := a * b) (by omega) (by omega), wS (x := b * c) (by omega) (by omega), wS (x := a * b * c) (by omega) (by omega), List.drop_succ_cons, List.drop_zero]
    cases decide (a * b * c ≤ 60) <;> rfl
  | a :: b :: c :: d :: t =>
    have h1 : ((((a :: b :: c :: d :: t).length : Nat) : Int) > 3) := by simp; omega
    have h2 : ¬ ((((a :: b :: c :: d :: t).length : Nat) : Int) ≤ 3) := by omega
    have h3 : validS (a :: b :: c :: d :: t) = false := by unfold validS; rw [decide_eq_false h2]; rfl
    rw [decide_eq_true h1, h3]
    rfl

namespace impl_OffsetOf
def E : Entry := ⟨11, true, false, fun | [.d (.ints .i64 sh), .d (.ints .i64 pl)] => decide (sh.length < 9223372036854775808) && decide (pl.length < 9223372036854775808) | _ => false, fun | [.d (.ints .i64 sh), .d (.ints .i64 pl)] => ([.one ((.int .i64 (offS sh pl)), false)], []) | _ => ([], []), fun _ => [], false⟩
end impl_OffsetOf
namespace impl_OffsetOf
noncomputable def X : List Entry := [impl_layoutOf.E]
def A : Ann := ⟨[12], [(1000006, [1, 2, 3, 4, 6, 8, 9, 10, 11, 12, 13, 14, 15, 16, 17, 18, 19, 20, 21, 22, 23, 27, 28, 29, 30, 31, 32, 33, 34, 35, 36, 37, 38, 39, 40, 41, 42, 43, 44, 45, 46, 47, 48, 49, 50])], [], []⟩
noncomputable abbrev L0 (fuel n : Nat) (s : St) (k : Kont) := lAt Try.prog X A fuel (bodyOf Try.f11) [1, 1, 1, 1, 0, 1, 0] n s k
noncomputable abbrev k0  (fuel : Nat) : Kont := kAt Try.prog X A fuel (bodyOf Try.f11) [1, 1, 1, 1, 0, 1, 0] [] (endK Try.prog Try.f11)
def t0 (p0 : List Int) (p1 : List Int) (x0q1 : Int) (x0q4 : Int) : St := ⟨[(.imm (.ints .i64 p0)), .dead, .dead, .dead, .dead, (.ptr 1000000000 0 0), .dead, (.imm (.int .i64 x0q1)), .dead, .dead, .dead, .dead, .dead, .dead, .dead, .dead, .dead, .dead, .dead, .dead, .dead, .dead, .dead, .dead, (.imm (.ints .i64 p1)), (.imm (.int .i64 ((p1.length : Nat) : Int))), (.imm (.int .i64 x0q4)), .dead, .dead, .dead, .dead, .dead, .dead, .dead, .dead, .dead, .dead, .dead, .dead, .dead, .dead, .dead, .dead, .dead, .dead, .dead, .dead, .dead, .dead, .dead, .dead], hOf [(1000000000, (.box [(.imm (.ints .i64 p0)), (.imm (.int .i64 (strd p0 0))), (.imm (.int .i64 (strd p0 1))), (.imm (.int .i64 (strd p0 2))), (.imm (.int .i64 (volW p0)))]))], []⟩
theorem e (fuel : Nat) (p0 : List Int) (p1 : List Int) : runF Try.prog X A fuel Try.f11 [.d (.ints .i64 p0), .d (.ints .i64 p1)] =
  (bif decide (p0.length < 9223372036854775808) then
  (bif validS p0 then
  (bif ((((p1.length : Nat) : Int) : Int) != ((p0.length : Nat) : Int)) then
  some ([.one ((.int .i64 (-1)), false)], [])
  else
  L0 fuel fuel (t0 p0 p1 0 0) (k0  fuel))
  else
  some ([.one ((.int .i64 (-1)), false)], []))
  else
  none) := by kernel_rfl
theorem s0 (fuel n0 : Nat) (p0 : List Int) (p1 : List Int) (x0q1 : Int) (x0q4 : Int) : L0 fuel (n0 + 1) (t0 p0 p1 x0q1 x0q4) (k0  fuel) =
  (bif (decide ((x0q4 : Int) < ((p1.length : Nat) : Int))) then
  (idx x0q4 p1.length).bind fun k9 =>
  (p1[k9]?).bind fun v10 =>
  (bif (decide ((v10 : Int) < 0)) then
  some ([.one ((.int .i64 (-1)), false)], [])
  else
  (idx x0q4 p0.length).bind fun k11 =>
  (p0[k11]?).bind fun v12 =>
  (bif (decide ((v10 : Int) ≥ v12)) then
  some ([.one ((.int .i64 (-1)), false)], [])
  else
  (bif decide (x0q4 = ((0 : Nat) : Int)) then
  L0 fuel n0 (t0 p0 p1 ((IntKind.wrap .i64 (x0q1 + (IntKind.wrap .i64 (v10 * (strd p0 0)))))) ((IntKind.wrap .i64 (x0q4 + 1)))) (k0  fuel)
  else
  (bif decide (x0q4 = ((1 : Nat) : Int)) then
  L0 fuel n0 (t0 p0 p1 ((IntKind.wrap .i64 (x0q1 + (IntKind.wrap .i64 (v10 * (strd p0 1)))))) ((IntKind.wrap .i64 (x0q4 + 1)))) (k0  fuel)
  else
  (bif decide (x0q4 = ((2 : Nat) : Int)) then
  L0 fuel n0 (t0 p0 p1 ((IntKind.wrap .i64 (x0q1 + (IntKind.wrap .i64 (v10 * (strd p0 2)))))) ((IntKind.wrap .i64 (x0q4 + 1)))) (k0  fuel)
  else
  none)))))
  else
  some ([.one ((.int .i64 x0q1), false)], [])) := by kernel_rfl
end impl_OffsetOf
theorem impl_OffsetOf.ok_of (hX : ∀ E ∈ impl_OffsetOf.X, CallSpec Try.prog E) (h : ∀ (sh : List Int) (pl : List Int), (decide (sh.length < 9223372036854775808) && decide (pl.length < 9223372036854775808)) = true → ∃ fuel, runF Try.prog impl_OffsetOf.X impl_OffsetOf.A fuel Try.f11 [.d (.ints .i64 sh), .d (.ints .i64 pl)] = some ([.one ((.int .i64 (offS sh pl)), false)], [])) : CallSpec Try.prog impl_OffsetOf.E :=
  callSpec_of hX (by kernel_rfl) (by kernel_rfl) (by kernel_rfl) (by kernel_rfl) (fun xs hp => by
    dsimp only [impl_OffsetOf.E] at hp ⊢
    split at hp
    · exact h _ _ hp
    · cases hp)
theorem impl_OffsetOf.bad (fuel n : Nat) (sh pl : List Int) (k : Nat) (v s acc : Int) (hk : k < pl.length) (hs : k < sh.length) (hv : pl[k]? = some v) (hsv : sh[k]? = some s) (h : ¬ (0 ≤ v ∧ v < s)) :
    impl_OffsetOf.L0 fuel (n + 1) (impl_OffsetOf.t0 sh pl acc (k : Int)) (impl_OffsetOf.k0 fuel) = some ([.one (.int .i64 (-1), false)], []) := by
  rw [impl_OffsetOf.s0, dlt hk, idx_nat hk, idx_nat hs]
  simp only [cond_true, Option.bind_some, hv, hsv]
  by_cases h0 : v < 0
  · rw [decide_eq_true h0]; rfl
  · rw [decide_eq_false h0, decide_eq_true (by omega)]; rfl
theorem impl_OffsetOf.good (fuel n : Nat) (sh pl : List Int) (k : Nat) (v s acc : Int) (hk : k < pl.length) (hs : k < sh.length) (hv : pl[k]? = some v) (hsv : sh[k]? = some s) (h : 0 ≤ v ∧ v < s) (hk3 : k < 3) :
    impl_OffsetOf.L0 fuel (n + 1) (impl_OffsetOf.t0 sh pl acc (k : Int)) (impl_OffsetOf.k0 fuel) = impl_OffsetOf.L0 fuel n (impl_OffsetOf.t0 sh pl (IntKind.wrap .i64 (acc + IntKind.wrap .i64 (v * strd sh k))) ((k + 1 : Nat) : Int)) (impl_OffsetOf.k0 fuel) := by
  rw [impl_OffsetOf.s0, dlt hk, idx_nat hk, idx_nat hs, w1 (by omega)]
  simp only [cond_true, Option.bind_some, hv, hsv]
  rw [decide_eq_false (p := v < 0) (by omega), decide_eq_false (p := v ≥ s) (by omega)]
  match k, hk3 with
  | 0, _ => rfl
  | 1, _ => rfl
  | 2, _ => rfl
theorem impl_OffsetOf.last (fuel n : Nat) (sh pl : List Int) (k : Nat) (acc : Int) (hk : ¬ k < pl.length) :
    impl_OffsetOf.L0 fuel (n + 1) (impl_OffsetOf.t0 sh pl acc (k : Int)) (impl_OffsetOf.k0 fuel) = some ([.one (.int .i64 acc, false)], []) := by
  rw [impl_OffsetOf.s0, dge hk]
  rfl
theorem plB {a p : Int} (h0 : 0 ≤ a) (h1 : a ≤ 60) : (decide (0 ≤ p) && decide (p ≤ IntKind.wrap .i64 (a - 1))) = decide (0 ≤ p ∧ p < a) := by
  rw [wS (x := a - 1) (by omega) (by omega)]
  by_cases h : 0 ≤ p ∧ p < a
  · rw [decide_eq_true h, decide_eq_true h.1, decide_eq_true (by omega)]; rfl
  · rw [decide_eq_false h]
    by_cases h2 : 0 ≤ p
    · rw [decide_eq_false (p := p ≤ a - 1) (by omega), Bool.and_false]
    · rw [decide_eq_false h2]; rfl
theorem impl_OffsetOf.ok : CallSpec Try.prog impl_OffsetOf.E := impl_OffsetOf.ok_of (by simp [impl_OffsetOf.X, impl_layoutOf.ok]) fun sh pl h => by
  simp only [Bool.and_eq_true] at h
  refine ⟨4, ?_⟩
  rw [impl_OffsetOf.e, h.1]
  unfold offS
  cases hv : validS sh with
  | false => rfl
  | true =>
    simp only [cond_true, Bool.true_and]
    by_cases hl : pl.length = sh.length
    case neg =>
      rw [isPl_ne hl]
      have : (((pl.length : Nat) : Int) != ((sh.length : Nat) : Int)) = true := by simp; omega
      rw [this]
      rfl
    have : (((pl.length : Nat) : Int) != ((sh.length : Nat) : Int)) = false := by simp [hl]
    rw [this, cond_false, show (0 : Int) = ((0 : Nat) : Int) from rfl]
    rcases validS_cases hv with rfl | ⟨a, rfl, a0, a1⟩ | ⟨a, b, rfl, a0, a1, b0, b1, v⟩ | ⟨a, b, c, rfl, a0, a1, b0, b1, c0, c1, v⟩
    · match pl, hl with
      | [], _ => rw [impl_OffsetOf.last _ _ _ _ _ _ (by simp)]; rfl
    · match pl, hl with
      | [p], _ =>
        simp only [isPl, Bool.and_true, plB a0 a1]
        by_cases h1 : 0 ≤ p ∧ p < a
        case neg => rw [impl_OffsetOf.bad _ _ _ _ _ p a _ (by simp) (by simp) rfl rfl h1, decide_eq_false h1]; rfl
        rw [impl_OffsetOf.good _ _ _ _ _ p a _ (by simp) (by simp) rfl rfl h1 (by omega), impl_OffsetOf.last _ _ _ _ _ _ (by simp), decide_eq_true h1]
        simp only [cond_true, offW, strd, volW, volFrom, List.length_cons, List.length_nil, List.drop_succ_cons, List.drop_zero, List.drop_nil, Int.zero_mul, Int.one_mul, Int.mul_one, Nat.lt_add_one, decide_true, Int.zero_add, Nat.zero_add, Int.ofNat_zero, Int.natCast_zero]
        rw [wS (x := 0) (by omega) (by omega), Int.zero_add]
        simp only [wS (x := p) (by omega) (by omega)]
    · match pl, hl with
      | [p, q], _ =>
        simp only [isPl, Bool.and_true, plB a0 a1, plB b0 b1]
        by_cases h1 : 0 ≤ p ∧ p < a
        case neg => rw [impl_OffsetOf.bad _ _ _ _ _ p a _ (by simp) (by simp) rfl rfl h1, decide_eq_false h1]; rfl
        rw [impl_OffsetOf.good _ _ _ _ _ p a _ (by simp) (by simp) rfl rfl h1 (by omega), decide_eq_true h1]
        by_cases h2 : 0 ≤ q ∧ q < b
        case neg => rw [impl_OffsetOf.bad _ _ _ _ _ q b _ (by simp) (by simp) rfl rfl h2, decide_eq_false h2]; rfl
        rw [impl_OffsetOf.good _ _ _ _ _ q b _ (by simp) (by simp) rfl rfl h2 (by omega), impl_OffsetOf.last _ _ _ _ _ _ (by simp), decide_eq_true h2]
        have hpb := mul60 (a := p) (b := b) h1.1 (by omega) b0 b1
        have s0 : strd [a, b] 0 = b := by simp [strd, volW, volFrom, wS (x := b) (by omega) (by omega)]
        have s1 : strd [a, b] 1 = 1 := by simp [strd, volW, volFrom]
        simp only [cond_true, Bool.and_self, offW, s0, s1, Int.zero_mul, Int.mul_one]
        rw [show ((0 : Nat) : Int) = 0 from rfl, Int.zero_mul, wS (x := 0) (by omega) (by omega), Int.zero_add, Int.zero_add, wS (x := p) (by omega) (by omega), wS (x := p * b) (by omega) (by omega), wS (x := p * b) (by omega) (by omega), wS (x := q) (by omega) (by omega)]
    · match pl, hl with
      | [p, q, r], _ =>
        simp only [isPl, Bool.and_true, plB a0 a1, plB b0 b1, plB c0 c1]
        by_cases h1 : 0 ≤ p ∧ p < a
        case neg => rw [impl_OffsetOf.bad _ _ _ _ _ p a _ (by simp) (by simp) rfl rfl h1, decide_eq_false h1]; rfl
        rw [impl_OffsetOf.good _ _ _ _ _ p a _ (by simp) (by simp) rfl rfl h1 (by omega), decide_eq_true h1]
        by_cases h2 : 0 ≤ q ∧ q < b
        case neg => rw [impl_OffsetOf.bad _ _ _ _ _ q b _ (by simp) (by simp) rfl rfl h2, decide_eq_false h2]; rfl
        rw [impl_OffsetOf.good _ _ _ _ _ q b _ (by simp) (by simp) rfl rfl h2 (by omega), decide_eq_true h2]
        by_cases h3 : 0 ≤ r ∧ r < c
        case neg => rw [impl_OffsetOf.bad _ _ _ _ _ r c _ (by simp) (by simp) rfl rfl h3, decide_eq_false h3]; rfl
        rw [impl_OffsetOf.good _ _ _ _ _ r c _ (by simp) (by simp) rfl rfl h3 (by omega), impl_OffsetOf.last _ _ _ _ _ _ (by simp), decide_eq_true h3]
        have hpb := mul60 (a := p) (b := b) h1.1 (by omega) b0 b1
        have hbc := mul60 b0 b1 c0 c1
        have hqc := mul60 (a := q) (b := c) h2.1 (by omega) c0 c1
        have hpbc := mul3600 (a := p * b) (b := c) hpb.1 hpb.2 c0 c1
        have hpq := mul3600 (a := p * b + q) (b := c) (by omega) (by
          have := horner (a := a) (b := b) h1.1 h1.2 h2.1 h2.2
          have := mul60 a0 a1 b0 b1
          omega) c0 c1
        have s0 : strd [a, b, c] 0 = b * c := by simp [strd, volW, volFrom, wS (x := b) (by omega) (by omega), wS (x := b * c) (by omega) (by omega)]
        have s1 : strd [a, b, c] 1 = c := by simp [strd, volW, volFrom, wS (x := c) (by omega) (by omega)]
        have s2 : strd [a, b, c] 2 = 1 := by simp [strd, volW, volFrom]
        have e1 : p * (b * c) = p * b * c := by rw [Int.mul_assoc]
        have e2 : (p * b + q) * c = p * b * c + q * c := by rw [Int.add_mul]
        simp only [cond_true, Bool.and_self, offW, s0, s1, s2, Int.zero_mul, Int.mul_one, e1]
        rw [e2] at hpq
        rw [show ((0 : Nat) : Int) = 0 from rfl, Int.zero_mul, wS (x := 0) (by omega) (by omega), Int.zero_add, Int.zero_add, wS (x := p) (by omega) (by omega), wS (x := p * b * c) (by omega) (by omega), wS (x := p * b * c) (by omega) (by omega), wS (x := q * c) (by omega) (by omega), wS (x := r) (by omega) (by omega),
          wS (x := p * b) (by omega) (by omega), wS (x := p * b + q) (by omega) (by omega), e2]

namespace laws_eqIntS
def E : Entry := ⟨12, true, false, fun | [.d (.ints .i64 xs), .d (.ints .i64 ys)] => decide (xs.length < 9223372036854775808) && decide (ys.length < 9223372036854775808) | _ => false, fun | [.d (.ints .i64 xs), .d (.ints .i64 ys)] => ([.one ((.bool (decide (xs = ys))), false)], []) | _ => ([], []), fun _ => [], false⟩
end laws_eqIntS
namespace laws_eqIntS
noncomputable def X : List Entry := []
def A : Ann := ⟨[], [(1000004, [2, 3, 4, 6, 7, 8, 9, 10, 11, 12, 13, 14, 15, 16, 17, 18, 19, 20, 21, 22, 23, 24, 25])], [], [(6, [0, 1, 4, 5, 2, 3, 6, 7, 8])]⟩
noncomputable abbrev L0 (fuel n : Nat) (s : St) (k : Kont) := lAt Try.prog X A fuel (bodyOf Try.f12) [1, 1, 0, 1, 0] n s k
noncomputable abbrev k0  (fuel : Nat) : Kont := kAt Try.prog X A fuel (bodyOf Try.f12) [1, 1, 0, 1, 0] [] (endK Try.prog Try.f12)
def t0 (p0 : List Int) (p1 : List Int) (x0q2 : Int) : St := ⟨[(.imm (.ints .i64 p0)), (.imm (.ints .i64 p1)), .dead, .dead, .dead, (.imm (.int .i64 x0q2)), .dead, .dead, .dead, .dead, .dead, .dead, .dead, .dead, .dead, .dead, .dead, .dead, .dead, .dead, .dead, .dead, .dead, .dead, .dead, .dead], hOf [], []⟩
theorem e (fuel : Nat) (p0 : List Int) (p1 : List Int) : runF Try.prog X A fuel Try.f12 [.d (.ints .i64 p0), .d (.ints .i64 p1)] =
  (bif ((((p0.length : Nat) : Int) : Int) != ((p1.length : Nat) : Int)) then
  some ([.one ((.bool false), false)], [])
  else
  L0 fuel fuel (t0 p0 p1 0) (k0  fuel)) := by kernel_rfl
theorem s0 (fuel n0 : Nat) (p0 : List Int) (p1 : List Int) (x0q2 : Int) : L0 fuel (n0 + 1) (t0 p0 p1 x0q2) (k0  fuel) =
  (bif (decide ((x0q2 : Int) < ((p0.length : Nat) : Int))) then
  (idx x0q2 p0.length).bind fun k9 =>
  (p0[k9]?).bind fun v10 =>
  (idx x0q2 p1.length).bind fun k11 =>
  (p1[k11]?).bind fun v12 =>
  (bif ((v10 : Int) != v12) then
  some ([.one ((.bool false), false)], [])
  else
  L0 fuel n0 (t0 p0 p1 ((IntKind.wrap .i64 (x0q2 + 1)))) (k0  fuel))
  else
  some ([.one ((.bool true), false)], [])) := by kernel_rfl
end laws_eqIntS
theorem laws_eqIntS.ok_of (hX : ∀ E ∈ laws_eqIntS.X, CallSpec Try.prog E) (h : ∀ (xs : List Int) (ys : List Int), (decide (xs.length < 9223372036854775808) && decide (ys.length < 9223372036854775808)) = true → ∃ fuel, runF Try.prog laws_eqIntS.X laws_eqIntS.A fuel Try.f12 [.d (.ints .i64 xs), .d (.ints .i64 ys)] = some ([.one ((.bool (decide (xs = ys))), false)], [])) : CallSpec Try.prog laws_eqIntS.E :=
  callSpec_of hX (by kernel_rfl) (by kernel_rfl) (by kernel_rfl) (by kernel_rfl) (fun xs hp => by
    dsimp only [laws_eqIntS.E] at hp ⊢
    split at hp
    · exact h _ _ hp
    · cases hp)
theorem laws_eqIntS.loop (fuel : Nat) (xs ys : List Int) (hl : xs.length = ys.length) (hx : xs.length < 9223372036854775808) : ∀ (m n j : Nat), xs.length - j = m → m < n → j ≤ xs.length →
    laws_eqIntS.L0 fuel n (laws_eqIntS.t0 xs ys (j : Int)) (laws_eqIntS.k0 fuel) = some ([.one (.bool (decide (xs.drop j = ys.drop j)), false)], []) := by
  intro m
  induction m with
  | zero =>
    intro n j h1 h2 h3
    obtain ⟨n, rfl⟩ : ∃ n', n = n' + 1 := ⟨n - 1, by omega⟩
    have hj : ¬ j < xs.length := by omega
    rw [laws_eqIntS.s0, dge hj, dropE hj, dropE (xs := ys) (by omega)]
    rfl
  | succ m ih =>
    intro n j h1 h2 h3
    obtain ⟨n, rfl⟩ : ∃ n', n = n' + 1 := ⟨n - 1, by omega⟩
    have hj : j < xs.length := by omega
    have hj2 : j < ys.length := by omega
    rw [laws_eqIntS.s0, dlt hj, idx_nat hj, idx_nat hj2, w1 (by omega), dropS hj, dropS hj2]
    simp only [cond_true, Option.bind_some, getS hj, getS hj2]
    rw [ih n (j + 1) (by omega) (by omega) (by omega)]
    by_cases hv : xs[j] = ys[j]
    · rw [hv]
      simp only [bne_self_eq_false, cond_false, List.cons.injEq, true_and]
    · have : (xs[j] != ys[j]) = true := by simp [hv]
      rw [this]
      simp only [cond_true, List.cons.injEq, hv, false_and, decide_false]

theorem laws_eqIntS.ok : CallSpec Try.prog laws_eqIntS.E := laws_eqIntS.ok_of (by simp [laws_eqIntS.X]) fun xs ys h => by
  simp only [Bool.and_eq_true, decide_eq_true_eq] at h
  refine ⟨xs.length + 1, ?_⟩
  rw [laws_eqIntS.e]
  by_cases hl : xs.length = ys.length
  · have := laws_eqIntS.loop (xs.length + 1) xs ys hl h.1 xs.length (xs.length + 1) 0 (by omega) (by omega) (by omega)
    simp only [List.drop_zero] at this
    simp only [hl, bne_self_eq_false, cond_false]
    rw [← hl]
    exact this
  · have hne : xs ≠ ys := fun e => hl (e ▸ rfl)
    have : (((xs.length : Nat) : Int) != ((ys.length : Nat) : Int)) = true := by simp; omega
    rw [this]
    simp [hne]

namespace laws_FnExactOffsetOf
def E : Entry := ⟨3, true, false, fun | [.d (.ints .i64 sh), .d (.ints .i64 pl)] => decide (sh.length < 9223372036854775808) && decide (pl.length < 9223372036854775808) | _ => false, fun | [.d (.ints .i64 sh), .d (.ints .i64 pl)] => ([.one ((.bool true), false)], []) | _ => ([], []), fun _ => [], false⟩
end laws_FnExactOffsetOf
namespace laws_FnExactOffsetOf
noncomputable def X : List Entry := [laws_toIntS.E, spec_OffsetOf.E, impl_OffsetOf.E, laws_eqIntS.E]
def A : Ann := ⟨[16, 18, 21, 23, 32, 37], [], [], []⟩
theorem e (fuel : Nat) (p0 : List Int) (p1 : List Int) : runF Try.prog X A fuel Try.f3 [.d (.ints .i64 p0), .d (.ints .i64 p1)] =
  (bif (decide ((((p0.length : Nat) : Int) : Int) > 1048576)) then
  some ([.one ((.bool true), false)], [])
  else
  (bif (decide ((((p1.length : Nat) : Int) : Int) > 1048576)) then
  some ([.one ((.bool true), false)], [])
  else
  (bif szB p0 then
  (bif szB p1 then
  (bif decide (p0.length < 9223372036854775808) && decide (p1.length < 9223372036854775808) then
  (bif szB p0 then
  (bif szB p1 then
  (bif decide (p0.length < 9223372036854775808) && decide (p1.length < 9223372036854775808) then
  (bif (((offS p0 p1) : Int) != (offS p0 p1)) then
  some ([.one ((.bool false), false)], [])
  else
  (bif szB p0 then
  (bif decide (p0.length < 9223372036854775808) && decide (p0.length < 9223372036854775808) then
  (bif (!(decide (p0 = p0))) then
  some ([.one ((.bool false), false)], [])
  else
  (bif szB p1 then
  (bif decide (p1.length < 9223372036854775808) && decide (p1.length < 9223372036854775808) then
  (bif (!(decide (p1 = p1))) then
  some ([.one ((.bool false), false)], [])
  else
  some ([.one ((.bool true), false)], []))
  else
  none)
  else
  none))
  else
  none)
  else
  none))
  else
  none)
  else
  none)
  else
  none)
  else
  none)
  else
  none)
  else
  none))) := by kernel_rfl
end laws_FnExactOffsetOf
theorem laws_FnExactOffsetOf.ok_of (hX : ∀ E ∈ laws_FnExactOffsetOf.X, CallSpec Try.prog E) (h : ∀ (sh : List Int) (pl : List Int), (decide (sh.length < 9223372036854775808) && decide (pl.length < 9223372036854775808)) = true → ∃ fuel, runF Try.prog laws_FnExactOffsetOf.X laws_FnExactOffsetOf.A fuel Try.f3 [.d (.ints .i64 sh), .d (.ints .i64 pl)] = some ([.one ((.bool true), false)], [])) : CallSpec Try.prog laws_FnExactOffsetOf.E :=
  callSpec_of hX (by kernel_rfl) (by kernel_rfl) (by kernel_rfl) (by kernel_rfl) (fun xs hp => by
    dsimp only [laws_FnExactOffsetOf.E] at hp ⊢
    split at hp
    · exact h _ _ hp
    · cases hp)
theorem laws_FnExactOffsetOf.ok : CallSpec Try.prog laws_FnExactOffsetOf.E := laws_FnExactOffsetOf.ok_of (by simp [laws_FnExactOffsetOf.X, laws_toIntS.ok, spec_OffsetOf.ok, impl_OffsetOf.ok, laws_eqIntS.ok]) fun sh pl h => ⟨0, by
  rw [laws_FnExactOffsetOf.e]
  simp only [Bool.and_eq_true] at h
  by_cases hg : (((sh.length : Nat) : Int) > 1048576)
  · rw [decide_eq_true hg]; rfl
  by_cases hg2 : (((pl.length : Nat) : Int) > 1048576)
  · rw [decide_eq_false hg, decide_eq_true hg2]; rfl
  have z1 := szB_of (xs := sh) (by omega)
  have z2 := szB_of (xs := pl) (by omega)
  simp only [decide_eq_false hg, decide_eq_false hg2, z1, z2, h.1, h.2, bne_self_eq_false, beq_self_eq_true, decide_true, Bool.and_self, Bool.not_true, cond_true, cond_false]⟩

namespace laws_szIntS
def E : Entry := ⟨37, true, false, fun | [.d (.ints .i64 xs), .d (.int .i64 left)] => true | _ => false, fun | [.d (.ints .i64 xs), .d (.int .i64 left)] => ([.one ((.int .i64 (szI xs left)), false)], []) | _ => ([], []), fun _ => [], false⟩
end laws_szIntS
namespace laws_szIntS
noncomputable def X : List Entry := []
def A : Ann := ⟨[], [], [], []⟩
theorem e (fuel : Nat) (p0 : List Int) (p1 : Int) : runF Try.prog X A fuel Try.f37 [.d (.ints .i64 p0), .d (.int .i64 p1)] =
  (bif (decide (((IntKind.wrap .i64 (p1 - ((p0.length : Nat) : Int))) : Int) < 0)) then
  some ([.one ((.int .i64 (-1)), false)], [])
  else
  some ([.one ((.int .i64 (IntKind.wrap .i64 (p1 - ((p0.length : Nat) : Int)))), false)], [])) := by kernel_rfl
end laws_szIntS
theorem laws_szIntS.ok_of (hX : ∀ E ∈ laws_szIntS.X, CallSpec Try.prog E) (h : ∀ (xs : List Int) (left : Int), (true) = true → ∃ fuel, runF Try.prog laws_szIntS.X laws_szIntS.A fuel Try.f37 [.d (.ints .i64 xs), .d (.int .i64 left)] = some ([.one ((.int .i64 (szI xs left)), false)], [])) : CallSpec Try.prog laws_szIntS.E :=
  callSpec_of hX (by kernel_rfl) (by kernel_rfl) (by kernel_rfl) (by kernel_rfl) (fun xs hp => by
    dsimp only [laws_szIntS.E] at hp ⊢
    split at hp
    · exact h _ _ hp
    · cases hp)
theorem laws_szIntS.ok : CallSpec Try.prog laws_szIntS.E := laws_szIntS.ok_of (by simp [laws_szIntS.X]) fun xs left _ => ⟨0, by
  rw [laws_szIntS.e]
  unfold szI
  cases decide (IntKind.wrap .i64 (left - ((xs.length : Nat) : Int)) < 0) <;> rfl⟩

namespace laws_szArray
def E : Entry := ⟨13, true, false, fun | [.d (.agg [(.ints .i64 sh), (.ints .i64 da)]), .d (.int .i64 left)] => true | _ => false, fun | [.d (.agg [(.ints .i64 sh), (.ints .i64 da)]), .d (.int .i64 left)] => ([.one ((.int .i64 (szA sh da left)), false)], []) | _ => ([], []), fun _ => [], false⟩
end laws_szArray
namespace laws_szArray
noncomputable def X : List Entry := [laws_szIntS.E]
def A : Ann := ⟨[], [], [], []⟩
theorem e (fuel : Nat) (p0q0 : List Int) (p0q1 : List Int) (p1 : Int) : runF Try.prog X A fuel Try.f13 [.d (.agg [(.ints .i64 p0q0), (.ints .i64 p0q1)]), .d (.int .i64 p1)] =
  (bif (decide (((szI p0q0 p1) : Int) < 0)) then
  some ([.one ((.int .i64 (-1)), false)], [])
  else
  (bif (decide (((szI p0q1 ((szI p0q0 p1))) : Int) < 0)) then
  some ([.one ((.int .i64 (-1)), false)], [])
  else
  some ([.one ((.int .i64 (szI p0q1 ((szI p0q0 p1)))), false)], []))) := by kernel_rfl
end laws_szArray
theorem laws_szArray.ok_of (hX : ∀ E ∈ laws_szArray.X, CallSpec Try.prog E) (h : ∀ (sh : List Int) (da : List Int) (left : Int), (true) = true → ∃ fuel, runF Try.prog laws_szArray.X laws_szArray.A fuel Try.f13 [.d (.agg [(.ints .i64 sh), (.ints .i64 da)]), .d (.int .i64 left)] = some ([.one ((.int .i64 (szA sh da left)), false)], [])) : CallSpec Try.prog laws_szArray.E :=
  callSpec_of hX (by kernel_rfl) (by kernel_rfl) (by kernel_rfl) (by kernel_rfl) (fun xs hp => by
    dsimp only [laws_szArray.E] at hp ⊢
    split at hp
    · exact h _ _ _ hp
    · cases hp)
theorem laws_szArray.ok : CallSpec Try.prog laws_szArray.E := laws_szArray.ok_of (by simp [laws_szArray.X, laws_szIntS.ok]) fun sh da left _ => ⟨0, by
  rw [laws_szArray.e]
  unfold szA
  cases decide (szI sh left < 0) <;> cases decide (szI da (szI sh left) < 0) <;> rfl⟩

namespace laws_toArray
def E : Entry := ⟨15, false, false, fun | [.d (.agg [(.ints .i64 sh), (.ints .i64 da)])] => szB sh && szB da | _ => false, fun | [.d (.agg [(.ints .i64 sh), (.ints .i64 da)])] => ([.agg [((.ints .i64 sh), true), ((.ints .i64 da), true)]], []) | _ => ([], []), fun _ => [], true⟩
end laws_toArray
namespace laws_toArray
noncomputable def X : List Entry := [laws_toIntS.E]
def A : Ann := ⟨[6, 10], [], [], []⟩
theorem e (fuel : Nat) (p0q0 : List Int) (p0q1 : List Int) : runF Try.prog X A fuel Try.f15 [.d (.agg [(.ints .i64 p0q0), (.ints .i64 p0q1)])] =
  (bif szB p0q0 then
  (bif szB p0q1 then
  some ([.agg [((.ints .i64 p0q0), true), ((.ints .i64 p0q1), true)]], [])
  else
  none)
  else
  none) := by kernel_rfl
end laws_toArray
theorem laws_toArray.ok_of (hX : ∀ E ∈ laws_toArray.X, CallSpec Try.prog E) (h : ∀ (sh : List Int) (da : List Int), (szB sh && szB da) = true → ∃ fuel, runF Try.prog laws_toArray.X laws_toArray.A fuel Try.f15 [.d (.agg [(.ints .i64 sh), (.ints .i64 da)])] = some ([.agg [((.ints .i64 sh), true), ((.ints .i64 da), true)]], [])) : CallSpec Try.prog laws_toArray.E :=
  callSpec_of hX (by kernel_rfl) (by kernel_rfl) (by kernel_rfl) (by kernel_rfl) (fun xs hp => by
    dsimp only [laws_toArray.E] at hp ⊢
    split at hp
    · exact h _ _ hp
    · cases hp)
theorem laws_toArray.ok : CallSpec Try.prog laws_toArray.E := laws_toArray.ok_of (by simp [laws_toArray.X, laws_toIntS.ok]) fun sh da h => ⟨0, by
  simp only [Bool.and_eq_true] at h
  rw [laws_toArray.e, h.1, h.2]
  rfl⟩

namespace spec_valid
def E : Entry := ⟨38, true, false, fun | [.d (.agg [(.ints .i64 sh), (.ints .i64 da)])] => decide (sh.length < 9223372036854775808) && decide (da.length < 9223372036854775808) | _ => false, fun | [.d (.agg [(.ints .i64 sh), (.ints .i64 da)])] => ([.one ((.bool (validA sh da)), false)], []) | _ => ([], []), fun _ => [], false⟩
end spec_valid
namespace spec_valid
noncomputable def X : List Entry := [spec_validShape.E, spec_volume.E, spec_allIn.E]
def A : Ann := ⟨[], [], [], [(1, [0, 1, 2, 3, 4, 7, 5, 6, 8, 9, 10, 11, 12, 13, 14, 15, 16, 17])]⟩
theorem e (fuel : Nat) (p0q0 : List Int) (p0q1 : List Int) : runF Try.prog X A fuel Try.f38 [.d (.agg [(.ints .i64 p0q0), (.ints .i64 p0q1)])] =
  (bif decide (p0q0.length < 9223372036854775808) then
  (bif (validS p0q0) then
  (bif decide (p0q0.length < 9223372036854775808) then
  (bif ((((p0q1.length : Nat) : Int) : Int) == (volW p0q0)) then
  (bif decide (p0q1.length < 9223372036854775808) then
  some ([.one ((.bool (allB p0q1 ((-1000000)) 1000000)), false)], [])
  else
  none)
  else
  some ([.one ((.bool false), false)], []))
  else
  none)
  else
  some ([.one ((.bool false), false)], []))
  else
  none) := by kernel_rfl
end spec_valid
theorem spec_valid.ok_of (hX : ∀ E ∈ spec_valid.X, CallSpec Try.prog E) (h : ∀ (sh : List Int) (da : List Int), (decide (sh.length < 9223372036854775808) && decide (da.length < 9223372036854775808)) = true → ∃ fuel, runF Try.prog spec_valid.X spec_valid.A fuel Try.f38 [.d (.agg [(.ints .i64 sh), (.ints .i64 da)])] = some ([.one ((.bool (validA sh da)), false)], [])) : CallSpec Try.prog spec_valid.E :=
  callSpec_of hX (by kernel_rfl) (by kernel_rfl) (by kernel_rfl) (by kernel_rfl) (fun xs hp => by
    dsimp only [spec_valid.E] at hp ⊢
    split at hp
    · exact h _ _ hp
    · cases hp)
theorem spec_valid.ok : CallSpec Try.prog spec_valid.E := spec_valid.ok_of (by simp [spec_valid.X, spec_validShape.ok, spec_volume.ok, spec_allIn.ok]) fun sh da h => ⟨0, by
  simp only [Bool.and_eq_true] at h
  rw [spec_valid.e, h.1, h.2]
  unfold validA
  cases validS sh <;> cases (((da.length : Nat) : Int) == volW sh) <;> rfl⟩

namespace spec_ItemAt
def E : Entry := ⟨14, true, false, fun | [.d (.agg [(.ints .i64 sh), (.ints .i64 da)]), .d (.ints .i64 pl)] => decide (sh.length < 9223372036854775808) && decide (da.length < 9223372036854775808) && decide (pl.length < 9223372036854775808) | _ => false, fun | [.d (.agg [(.ints .i64 sh), (.ints .i64 da)]), .d (.ints .i64 pl)] => ([.one ((.int .i64 (itemV sh da pl)), false), .one ((.bool (itemB sh da pl)), false)], []) | _ => ([], []), fun _ => [], false⟩
end spec_ItemAt
namespace spec_ItemAt
noncomputable def X : List Entry := [spec_valid.E, spec_isPlace.E, spec_offset.E]
def A : Ann := ⟨[], [], [], [(3, [0, 2, 4, 1, 3, 5, 6, 7, 8, 9])]⟩
theorem e (fuel : Nat) (p0q0 : List Int) (p0q1 : List Int) (p1 : List Int) : runF Try.prog X A fuel Try.f14 [.d (.agg [(.ints .i64 p0q0), (.ints .i64 p0q1)]), .d (.ints .i64 p1)] =
  (bif decide (p0q0.length < 9223372036854775808) && decide (p0q1.length < 9223372036854775808) then
  (bif (!(validA p0q0 p0q1)) then
  some ([.one ((.int .i64 0), false), .one ((.bool false), false)], [])
  else
  (bif decide (p0q0.length < 9223372036854775808) && decide (p1.length < 9223372036854775808) then
  (bif (!(isPl p0q0 p1)) then
  some ([.one ((.int .i64 0), false), .one ((.bool false), false)], [])
  else
  (bif decide (p0q0.length < 9223372036854775808) && decide (p1.length < 9223372036854775808) && decide (p0q0.length ≤ p1.length) then
  (idx (offW p0q0 p1 0) p0q1.length).bind fun k1 =>
  (p0q1[k1]?).bind fun v2 =>
  some ([.one ((.int .i64 v2), false), .one ((.bool true), false)], [])
  else
  none))
  else
  none))
  else
  none) := by kernel_rfl
end spec_ItemAt
theorem spec_ItemAt.ok_of (hX : ∀ E ∈ spec_ItemAt.X, CallSpec Try.prog E) (h : ∀ (sh : List Int) (da : List Int) (pl : List Int), (decide (sh.length < 9223372036854775808) && decide (da.length < 9223372036854775808) && decide (pl.length < 9223372036854775808)) = true → ∃ fuel, runF Try.prog spec_ItemAt.X spec_ItemAt.A fuel Try.f14 [.d (.agg [(.ints .i64 sh), (.ints .i64 da)]), .d (.ints .i64 pl)] = some ([.one ((.int .i64 (itemV sh da pl)), false), .one ((.bool (itemB sh da pl)), false)], [])) : CallSpec Try.prog spec_ItemAt.E :=
  callSpec_of hX (by kernel_rfl) (by kernel_rfl) (by kernel_rfl) (by kernel_rfl) (fun xs hp => by
    dsimp only [spec_ItemAt.E] at hp ⊢
    split at hp
    · exact h _ _ _ hp
    · cases hp)
theorem spec_ItemAt.ok : CallSpec Try.prog spec_ItemAt.E := spec_ItemAt.ok_of (by simp [spec_ItemAt.X, spec_valid.ok, spec_isPlace.ok, spec_offset.ok]) fun sh da pl h => ⟨0, by
  simp only [Bool.and_eq_true] at h
  rw [spec_ItemAt.e, h.1.1, h.1.2, h.2]
  cases hb : itemB sh da pl with
  | false =>
    unfold itemV
    rw [hb]
    unfold itemB at hb
    cases hv : validA sh da with
    | false => rfl
    | true => rw [hv] at hb; simp only [Bool.true_and] at hb; rw [hb]; rfl
  | true =>
    obtain ⟨g1, g2, _, _⟩ := item_idx hb
    unfold itemV
    have hb2 := hb
    simp only [itemB, Bool.and_eq_true] at hb2
    rw [hb, hb2.1, hb2.2, decide_eq_true (p := sh.length ≤ pl.length) (by rw [isPl_len hb2.2]; exact Nat.le_refl _), g2]
    simp [g1]⟩

namespace impl_isNumber
def E : Entry := ⟨42, true, false, fun | [.d (.int .i64 v)] => true | _ => false, fun | [.d (.int .i64 v)] => ([.one ((.bool (numB v)), false)], []) | _ => ([], []), fun _ => [], false⟩
end impl_isNumber
namespace impl_isNumber
noncomputable def X : List Entry := []
def A : Ann := ⟨[], [], [], []⟩
theorem e (fuel : Nat) (p0 : Int) : runF Try.prog X A fuel Try.f42 [.d (.int .i64 p0)] =
  (bif (decide (((-1000000) : Int) ≤ p0)) then
  some ([.one ((.bool (decide ((p0 : Int) ≤ 1000000))), false)], [])
  else
  some ([.one ((.bool false), false)], [])) := by kernel_rfl
end impl_isNumber
theorem impl_isNumber.ok_of (hX : ∀ E ∈ impl_isNumber.X, CallSpec Try.prog E) (h : ∀ (v : Int), (true) = true → ∃ fuel, runF Try.prog impl_isNumber.X impl_isNumber.A fuel Try.f42 [.d (.int .i64 v)] = some ([.one ((.bool (numB v)), false)], [])) : CallSpec Try.prog impl_isNumber.E :=
  callSpec_of hX (by kernel_rfl) (by kernel_rfl) (by kernel_rfl) (by kernel_rfl) (fun xs hp => by
    dsimp only [impl_isNumber.E] at hp ⊢
    split at hp
    · exact h _ hp
    · cases hp)
theorem impl_isNumber.ok : CallSpec Try.prog impl_isNumber.E := impl_isNumber.ok_of (by simp [impl_isNumber.X]) fun v _ => ⟨0, by
  rw [impl_isNumber.e]
  unfold numB
  cases decide (-1000000 ≤ v) <;> rfl⟩

namespace impl_ValidArray
def E : Entry := ⟨28, true, false, fun | [.d (.agg [(.ints .i64 sh), (.ints .i64 da)])] => decide (sh.length < 9223372036854775808) && decide (da.length < 9223372036854775808) | _ => false, fun | [.d (.agg [(.ints .i64 sh), (.ints .i64 da)])] => ([.one ((.bool (validA sh da)), false)], []) | _ => ([], []), fun _ => [], false⟩
end impl_ValidArray
namespace impl_ValidArray
noncomputable def X : List Entry := [impl_layoutOf.E, impl_isNumber.E]
def A : Ann := ⟨[10], [(1000005, [0, 1, 2, 3, 4, 5, 6, 7, 8, 9, 10, 11, 12, 13, 14, 15, 16, 17, 18, 19, 20, 21, 22, 23, 27, 28, 29, 30, 31, 32, 33])], [], []⟩
noncomputable abbrev L0 (fuel n : Nat) (s : St) (k : Kont) := lAt Try.prog X A fuel (bodyOf Try.f28) [1, 1, 1, 0, 1, 0] n s k
noncomputable abbrev k0  (fuel : Nat) : Kont := kAt Try.prog X A fuel (bodyOf Try.f28) [1, 1, 1, 0, 1, 0] [] (endK Try.prog Try.f28)
def t0 (p0q1 : List Int) (x0q2 : Int) : St := ⟨[.dead, .dead, .dead, .dead, .dead, .dead, .dead, .dead, .dead, .dead, .dead, .dead, .dead, .dead, .dead, .dead, .dead, .dead, .dead, .dead, .dead, .dead, .dead, .dead, (.imm (.ints .i64 p0q1)), (.imm (.int .i64 ((p0q1.length : Nat) : Int))), (.imm (.int .i64 x0q2)), .dead, .dead, .dead, .dead, .dead, .dead, .dead], hOf [], []⟩
theorem e (fuel : Nat) (p0q0 : List Int) (p0q1 : List Int) : runF Try.prog X A fuel Try.f28 [.d (.agg [(.ints .i64 p0q0), (.ints .i64 p0q1)])] =
  (bif decide (p0q0.length < 9223372036854775808) then
  (bif validS p0q0 then
  (bif ((((p0q1.length : Nat) : Int) : Int) != (volW p0q0)) then
  some ([.one ((.bool false), false)], [])
  else
  L0 fuel fuel (t0 p0q1 0) (k0  fuel))
  else
  some ([.one ((.bool false), false)], []))
  else
  none) := by kernel_rfl
theorem s0 (fuel n0 : Nat) (p0q1 : List Int) (x0q2 : Int) : L0 fuel (n0 + 1) (t0 p0q1 x0q2) (k0  fuel) =
  (bif (decide ((x0q2 : Int) < ((p0q1.length : Nat) : Int))) then
  (idx x0q2 p0q1.length).bind fun k5 =>
  (p0q1[k5]?).bind fun v6 =>
  (bif (!(numB v6)) then
  some ([.one ((.bool false), false)], [])
  else
  L0 fuel n0 (t0 p0q1 ((IntKind.wrap .i64 (x0q2 + 1)))) (k0  fuel))
  else
  some ([.one ((.bool true), false)], [])) := by kernel_rfl
end impl_ValidArray
theorem impl_ValidArray.ok_of (hX : ∀ E ∈ impl_ValidArray.X, CallSpec Try.prog E) (h : ∀ (sh : List Int) (da : List Int), (decide (sh.length < 9223372036854775808) && decide (da.length < 9223372036854775808)) = true → ∃ fuel, runF Try.prog impl_ValidArray.X impl_ValidArray.A fuel Try.f28 [.d (.agg [(.ints .i64 sh), (.ints .i64 da)])] = some ([.one ((.bool (validA sh da)), false)], [])) : CallSpec Try.prog impl_ValidArray.E :=
  callSpec_of hX (by kernel_rfl) (by kernel_rfl) (by kernel_rfl) (by kernel_rfl) (fun xs hp => by
    dsimp only [impl_ValidArray.E] at hp ⊢
    split at hp
    · exact h _ _ hp
    · cases hp)
theorem impl_ValidArray.loop (fuel : Nat) (xs : List Int) (hx : xs.length < 9223372036854775808) : ∀ (m n j : Nat), xs.length - j = m → m < n → j ≤ xs.length →
    impl_ValidArray.L0 fuel n (impl_ValidArray.t0 xs (j : Int)) (impl_ValidArray.k0 fuel) = some ([.one (.bool (allB (xs.drop j) (-1000000) 1000000), false)], []) := by
  intro m
  induction m with
  | zero =>
    intro n j h1 h2 h3
    obtain ⟨n, rfl⟩ : ∃ n', n = n' + 1 := ⟨n - 1, by omega⟩
    have hj : ¬ j < xs.length := by omega
    rw [impl_ValidArray.s0, dge hj, dropE hj]
    rfl
  | succ m ih =>
    intro n j h1 h2 h3
    obtain ⟨n, rfl⟩ : ∃ n', n = n' + 1 := ⟨n - 1, by omega⟩
    have hj : j < xs.length := by omega
    rw [impl_ValidArray.s0, dlt hj, idx_nat hj, w1 (by omega), dropS hj]
    simp only [cond_true, Option.bind_some, getS hj, allB_cons, numB_eq]
    rw [ih n (j + 1) (by omega) (by omega) (by omega)]
    cases decide (-1000000 ≤ xs[j]) && decide (xs[j] ≤ 1000000) <;> rfl

theorem impl_ValidArray.ok : CallSpec Try.prog impl_ValidArray.E := impl_ValidArray.ok_of (by simp [impl_ValidArray.X, impl_layoutOf.ok, impl_isNumber.ok]) fun sh da h => by
  simp only [Bool.and_eq_true, decide_eq_true_eq] at h
  refine ⟨da.length + 1, ?_⟩
  rw [impl_ValidArray.e, lt_of h.1]
  have := impl_ValidArray.loop (da.length + 1) da h.2 da.length (da.length + 1) 0 (by omega) (by omega) (by omega)
  simp only [cond_true, List.drop_zero] at this ⊢
  rw [show ((0 : Nat) : Int) = 0 from rfl] at this
  rw [this]
  unfold validA
  cases validS sh
  · rfl
  · cases hb : (((da.length : Nat) : Int) == volW sh) with
    | true => simp [bne, hb]
    | false => simp [bne, hb]

namespace impl_offsetIn
def E : Entry := ⟨39, true, false, fun | [.d (.agg [(.ints .i64 sh), (.ints .i64 da)]), .d (.ints .i64 pl)] => decide (sh.length < 9223372036854775808) && decide (da.length < 9223372036854775808) && decide (pl.length < 9223372036854775808) | _ => false, fun | [.d (.agg [(.ints .i64 sh), (.ints .i64 da)]), .d (.ints .i64 pl)] => ([.one ((.int .i64 (offA sh da pl)), false)], []) | _ => ([], []), fun _ => [], false⟩
end impl_offsetIn
namespace impl_offsetIn
noncomputable def X : List Entry := [impl_ValidArray.E, impl_OffsetOf.E]
def A : Ann := ⟨[], [], [], []⟩
theorem e (fuel : Nat) (p0q0 : List Int) (p0q1 : List Int) (p1 : List Int) : runF Try.prog X A fuel Try.f39 [.d (.agg [(.ints .i64 p0q0), (.ints .i64 p0q1)]), .d (.ints .i64 p1)] =
  (bif decide (p0q0.length < 9223372036854775808) && decide (p0q1.length < 9223372036854775808) then
  (bif (!(validA p0q0 p0q1)) then
  some ([.one ((.int .i64 (-1)), false)], [])
  else
  (bif decide (p0q0.length < 9223372036854775808) && decide (p1.length < 9223372036854775808) then
  some ([.one ((.int .i64 (offS p0q0 p1)), false)], [])
  else
  none))
  else
  none) := by kernel_rfl
end impl_offsetIn
theorem impl_offsetIn.ok_of (hX : ∀ E ∈ impl_offsetIn.X, CallSpec Try.prog E) (h : ∀ (sh : List Int) (da : List Int) (pl : List Int), (decide (sh.length < 9223372036854775808) && decide (da.length < 9223372036854775808) && decide (pl.length < 9223372036854775808)) = true → ∃ fuel, runF Try.prog impl_offsetIn.X impl_offsetIn.A fuel Try.f39 [.d (.agg [(.ints .i64 sh), (.ints .i64 da)]), .d (.ints .i64 pl)] = some ([.one ((.int .i64 (offA sh da pl)), false)], [])) : CallSpec Try.prog impl_offsetIn.E :=
  callSpec_of hX (by kernel_rfl) (by kernel_rfl) (by kernel_rfl) (by kernel_rfl) (fun xs hp => by
    dsimp only [impl_offsetIn.E] at hp ⊢
    split at hp
    · exact h _ _ _ hp
    · cases hp)
theorem impl_offsetIn.ok : CallSpec Try.prog impl_offsetIn.E := impl_offsetIn.ok_of (by simp [impl_offsetIn.X, impl_ValidArray.ok, impl_OffsetOf.ok]) fun sh da pl h => ⟨0, by
  simp only [Bool.and_eq_true] at h
  rw [impl_offsetIn.e, h.1.1, h.1.2, h.2]
  unfold offA
  cases validA sh da <;> rfl⟩

namespace impl_ItemAt
def E : Entry := ⟨16, true, false, fun | [.d (.agg [(.ints .i64 sh), (.ints .i64 da)]), .d (.ints .i64 pl)] => decide (sh.length < 9223372036854775808) && decide (da.length < 9223372036854775808) && decide (pl.length < 9223372036854775808) | _ => false, fun | [.d (.agg [(.ints .i64 sh), (.ints .i64 da)]), .d (.ints .i64 pl)] => ([.one ((.int .i64 (itemV sh da pl)), false), .one ((.bool (itemB sh da pl)), false)], []) | _ => ([], []), fun _ => [], false⟩
end impl_ItemAt
namespace impl_ItemAt
noncomputable def X : List Entry := [impl_offsetIn.E]
def A : Ann := ⟨[], [], [], []⟩
theorem e (fuel : Nat) (p0q0 : List Int) (p0q1 : List Int) (p1 : List Int) : runF Try.prog X A fuel Try.f16 [.d (.agg [(.ints .i64 p0q0), (.ints .i64 p0q1)]), .d (.ints .i64 p1)] =
  (bif decide (p0q0.length < 9223372036854775808) && decide (p0q1.length < 9223372036854775808) && decide (p1.length < 9223372036854775808) then
  (bif (decide (((offA p0q0 p0q1 p1) : Int) < 0)) then
  some ([.one ((.int .i64 0), false), .one ((.bool false), false)], [])
  else
  (idx (offA p0q0 p0q1 p1) p0q1.length).bind fun k1 =>
  (p0q1[k1]?).bind fun v2 =>
  some ([.one ((.int .i64 v2), false), .one ((.bool true), false)], []))
  else
  none) := by kernel_rfl
end impl_ItemAt
theorem impl_ItemAt.ok_of (hX : ∀ E ∈ impl_ItemAt.X, CallSpec Try.prog E) (h : ∀ (sh : List Int) (da : List Int) (pl : List Int), (decide (sh.length < 9223372036854775808) && decide (da.length < 9223372036854775808) && decide (pl.length < 9223372036854775808)) = true → ∃ fuel, runF Try.prog impl_ItemAt.X impl_ItemAt.A fuel Try.f16 [.d (.agg [(.ints .i64 sh), (.ints .i64 da)]), .d (.ints .i64 pl)] = some ([.one ((.int .i64 (itemV sh da pl)), false), .one ((.bool (itemB sh da pl)), false)], [])) : CallSpec Try.prog impl_ItemAt.E :=
  callSpec_of hX (by kernel_rfl) (by kernel_rfl) (by kernel_rfl) (by kernel_rfl) (fun xs hp => by
    dsimp only [impl_ItemAt.E] at hp ⊢
    split at hp
    · exact h _ _ _ hp
    · cases hp)
theorem impl_ItemAt.ok : CallSpec Try.prog impl_ItemAt.E := impl_ItemAt.ok_of (by simp [impl_ItemAt.X, impl_offsetIn.ok]) fun sh da pl h => ⟨0, by
  rw [impl_ItemAt.e, h]
  unfold itemV
  cases hb : itemB sh da pl with
  | false => rw [item_no hb]; rfl
  | true =>
    obtain ⟨g1, g2, g3, g4⟩ := item_idx hb
    rw [decide_eq_false g4, g3, g2]
    simp [g1]⟩

namespace laws_eqArray
def E : Entry := ⟨17, true, false, fun | [.d (.agg [(.ints .i64 sa), (.ints .i64 da)]), .d (.agg [(.ints .i64 sb), (.ints .i64 db)])] => decide (sa.length < 9223372036854775808) && decide (da.length < 9223372036854775808) && decide (sb.length < 9223372036854775808) && decide (db.length < 9223372036854775808) | _ => false, fun | [.d (.agg [(.ints .i64 sa), (.ints .i64 da)]), .d (.agg [(.ints .i64 sb), (.ints .i64 db)])] => ([.one ((.bool (decide (sa = sb) && decide (da = db))), false)], []) | _ => ([], []), fun _ => [], false⟩
end laws_eqArray
namespace laws_eqArray
noncomputable def X : List Entry := [laws_eqIntS.E]
def A : Ann := ⟨[], [], [], []⟩
theorem e (fuel : Nat) (p0q0 : List Int) (p0q1 : List Int) (p1q0 : List Int) (p1q1 : List Int) : runF Try.prog X A fuel Try.f17 [.d (.agg [(.ints .i64 p0q0), (.ints .i64 p0q1)]), .d (.agg [(.ints .i64 p1q0), (.ints .i64 p1q1)])] =
  (bif decide (p0q0.length < 9223372036854775808) && decide (p1q0.length < 9223372036854775808) then
  (bif (!(decide (p0q0 = p1q0))) then
  some ([.one ((.bool false), false)], [])
  else
  (bif decide (p0q1.length < 9223372036854775808) && decide (p1q1.length < 9223372036854775808) then
  (bif (!(decide (p0q1 = p1q1))) then
  some ([.one ((.bool false), false)], [])
  else
  some ([.one ((.bool true), false)], []))
  else
  none))
  else
  none) := by kernel_rfl
end laws_eqArray
theorem laws_eqArray.ok_of (hX : ∀ E ∈ laws_eqArray.X, CallSpec Try.prog E) (h : ∀ (sa : List Int) (da : List Int) (sb : List Int) (db : List Int), (decide (sa.length < 9223372036854775808) && decide (da.length < 9223372036854775808) && decide (sb.length < 9223372036854775808) && decide (db.length < 9223372036854775808)) = true → ∃ fuel, runF Try.prog laws_eqArray.X laws_eqArray.A fuel Try.f17 [.d (.agg [(.ints .i64 sa), (.ints .i64 da)]), .d (.agg [(.ints .i64 sb), (.ints .i64 db)])] = some ([.one ((.bool (decide (sa = sb) && decide (da = db))), false)], [])) : CallSpec Try.prog laws_eqArray.E :=
  callSpec_of hX (by kernel_rfl) (by kernel_rfl) (by kernel_rfl) (by kernel_rfl) (fun xs hp => by
    dsimp only [laws_eqArray.E] at hp ⊢
    split at hp
    · exact h _ _ _ _ hp
    · cases hp)
theorem laws_eqArray.ok : CallSpec Try.prog laws_eqArray.E := laws_eqArray.ok_of (by simp [laws_eqArray.X, laws_eqIntS.ok]) fun sa da sb db h => ⟨0, by
  simp only [Bool.and_eq_true, decide_eq_true_eq] at h
  obtain ⟨⟨⟨h1, h2⟩, h3⟩, h4⟩ := h
  rw [laws_eqArray.e]
  simp only [h1, h2, h3, h4, decide_true, Bool.and_self, cond_true]
  cases decide (sa = sb) <;> cases decide (da = db) <;> rfl⟩

namespace laws_FnExactItemAt
def E : Entry := ⟨4, true, false, fun | [.d (.agg [(.ints .i64 sh), (.ints .i64 da)]), .d (.ints .i64 pl)] => decide (sh.length < 9223372036854775808) && decide (da.length < 9223372036854775808) && decide (pl.length < 9223372036854775808) | _ => false, fun | [.d (.agg [(.ints .i64 sh), (.ints .i64 da)]), .d (.ints .i64 pl)] => ([.one ((.bool true), false)], []) | _ => ([], []), fun _ => [], false⟩
end laws_FnExactItemAt
namespace laws_FnExactItemAt
noncomputable def X : List Entry := [laws_szArray.E, laws_toArray.E, laws_toIntS.E, spec_ItemAt.E, impl_ItemAt.E, laws_eqArray.E, laws_eqIntS.E]
def A : Ann := ⟨[22, 24, 29, 31, 48, 53], [], [], []⟩
theorem e (fuel : Nat) (p0q0 : List Int) (p0q1 : List Int) (p1 : List Int) : runF Try.prog X A fuel Try.f4 [.d (.agg [(.ints .i64 p0q0), (.ints .i64 p0q1)]), .d (.ints .i64 p1)] =
  (bif (decide ((((p1.length : Nat) : Int) : Int) > 1048576)) then
  some ([.one ((.bool true), false)], [])
  else
  (bif (decide (((szA p0q0 p0q1 1048576) : Int) < 0)) then
  some ([.one ((.bool true), false)], [])
  else
  (bif szB p0q0 && szB p0q1 then
  (bif szB p1 then
  (bif decide (p0q0.length < 9223372036854775808) && decide (p0q1.length < 9223372036854775808) && decide (p1.length < 9223372036854775808) then
  (bif szB p0q0 && szB p0q1 then
  (bif szB p1 then
  (bif decide (p0q0.length < 9223372036854775808) && decide (p0q1.length < 9223372036854775808) && decide (p1.length < 9223372036854775808) then
  (bif (((itemV p0q0 p0q1 p1) : Int) != (itemV p0q0 p0q1 p1)) then
  some ([.one ((.bool false), false)], [])
  else
  (bif (!((itemB p0q0 p0q1 p1) == (itemB p0q0 p0q1 p1))) then
  some ([.one ((.bool false), false)], [])
  else
  (bif szB p0q0 && szB p0q1 then
  (bif decide (p0q0.length < 9223372036854775808) && decide (p0q1.length < 9223372036854775808) && decide (p0q0.length < 9223372036854775808) && decide (p0q1.length < 9223372036854775808) then
  (bif (!(decide (p0q0 = p0q0) && decide (p0q1 = p0q1))) then
  some ([.one ((.bool false), false)], [])
  else
  (bif szB p1 then
  (bif decide (p1.length < 9223372036854775808) && decide (p1.length < 9223372036854775808) then
  (bif (!(decide (p1 = p1))) then
  some ([.one ((.bool false), false)], [])
  else
  some ([.one ((.bool true), false)], []))
  else
  none)
  else
  none))
  else
  none)
  else
  none)))
  else
  none)
  else
  none)
  else
  none)
  else
  none)
  else
  none)
  else
  none))) := by kernel_rfl
end laws_FnExactItemAt
theorem laws_FnExactItemAt.ok_of (hX : ∀ E ∈ laws_FnExactItemAt.X, CallSpec Try.prog E) (h : ∀ (sh : List Int) (da : List Int) (pl : List Int), (decide (sh.length < 9223372036854775808) && decide (da.length < 9223372036854775808) && decide (pl.length < 9223372036854775808)) = true → ∃ fuel, runF Try.prog laws_FnExactItemAt.X laws_FnExactItemAt.A fuel Try.f4 [.d (.agg [(.ints .i64 sh), (.ints .i64 da)]), .d (.ints .i64 pl)] = some ([.one ((.bool true), false)], [])) : CallSpec Try.prog laws_FnExactItemAt.E :=
  callSpec_of hX (by kernel_rfl) (by kernel_rfl) (by kernel_rfl) (by kernel_rfl) (fun xs hp => by
    dsimp only [laws_FnExactItemAt.E] at hp ⊢
    split at hp
    · exact h _ _ _ hp
    · cases hp)
theorem laws_FnExactItemAt.ok : CallSpec Try.prog laws_FnExactItemAt.E := laws_FnExactItemAt.ok_of (by simp [laws_FnExactItemAt.X, laws_szArray.ok, laws_toArray.ok, laws_toIntS.ok, spec_ItemAt.ok, impl_ItemAt.ok, laws_eqArray.ok, laws_eqIntS.ok]) fun sh da pl h => ⟨0, by
  rw [laws_FnExactItemAt.e]
  simp only [Bool.and_eq_true] at h
  by_cases hg : (((pl.length : Nat) : Int) > 1048576)
  · rw [decide_eq_true hg]; rfl
  by_cases hg2 : szA sh da 1048576 < 0
  · rw [decide_eq_false hg, decide_eq_true hg2]; rfl
  have hz := szA_small (of_decide_eq_true h.1.1) (of_decide_eq_true h.1.2) hg2
  have z1 := szB_of (xs := sh) (by omega)
  have z2 := szB_of (xs := da) (by omega)
  have z3 := szB_of (xs := pl) (by omega)
  simp only [decide_eq_false hg, decide_eq_false hg2, z1, z2, z3, h.1.1, h.1.2, h.2, bne_self_eq_false, beq_self_eq_true, decide_true, Bool.and_self, Bool.not_true, cond_true, cond_false]⟩

namespace spec_copyInts
def E : Entry := ⟨53, false, false, fun | [.d (.ints .i64 xs)] => szB xs | _ => false, fun | [.d (.ints .i64 xs)] => ([.one ((.ints .i64 xs), true)], []) | _ => ([], []), fun _ => [], true⟩
end spec_copyInts
namespace spec_copyInts
noncomputable def X : List Entry := []
def A : Ann := ⟨[], [], [], []⟩
theorem e (fuel : Nat) (p0 : List Int) : runF Try.prog X A fuel Try.f53 [.d (.ints .i64 p0)] =
  (bif fits (([] : List Int).length + p0.length) 8 then
  some ([.one ((.ints .i64 (([] : List Int) ++ p0)), true)], [])
  else
  none) := by kernel_rfl
end spec_copyInts
theorem spec_copyInts.ok_of (hX : ∀ E ∈ spec_copyInts.X, CallSpec Try.prog E) (h : ∀ (xs : List Int), (szB xs) = true → ∃ fuel, runF Try.prog spec_copyInts.X spec_copyInts.A fuel Try.f53 [.d (.ints .i64 xs)] = some ([.one ((.ints .i64 xs), true)], [])) : CallSpec Try.prog spec_copyInts.E :=
  callSpec_of hX (by kernel_rfl) (by kernel_rfl) (by kernel_rfl) (by kernel_rfl) (fun xs hp => by
    dsimp only [spec_copyInts.E] at hp ⊢
    split at hp
    · exact h _ hp
    · cases hp)
theorem spec_copyInts.ok : CallSpec Try.prog spec_copyInts.E := spec_copyInts.ok_of (by simp [spec_copyInts.X]) fun xs h => ⟨0, by
  have hx := szB_le h
  rw [spec_copyInts.e, fitsOk (by simp; omega)]
  rfl⟩

namespace spec_make1
def E : Entry := ⟨41, false, false, fun | [.d (.ints .i64 sh), .d (.ints .i64 da)] => szB sh && szB da | _ => false, fun | [.d (.ints .i64 sh), .d (.ints .i64 da)] => ([.agg [((.ints .i64 sh), true), ((.ints .i64 da), true)]], []) | _ => ([], []), fun _ => [], true⟩
end spec_make1
namespace spec_make1
noncomputable def X : List Entry := [spec_copyInts.E]
def A : Ann := ⟨[6, 8], [], [], []⟩
theorem e (fuel : Nat) (p0 : List Int) (p1 : List Int) : runF Try.prog X A fuel Try.f41 [.d (.ints .i64 p0), .d (.ints .i64 p1)] =
  (bif szB p0 then
  (bif szB p1 then
  some ([.agg [((.ints .i64 p0), true), ((.ints .i64 p1), true)]], [])
  else
  none)
  else
  none) := by kernel_rfl
end spec_make1
theorem spec_make1.ok_of (hX : ∀ E ∈ spec_make1.X, CallSpec Try.prog E) (h : ∀ (sh : List Int) (da : List Int), (szB sh && szB da) = true → ∃ fuel, runF Try.prog spec_make1.X spec_make1.A fuel Try.f41 [.d (.ints .i64 sh), .d (.ints .i64 da)] = some ([.agg [((.ints .i64 sh), true), ((.ints .i64 da), true)]], [])) : CallSpec Try.prog spec_make1.E :=
  callSpec_of hX (by kernel_rfl) (by kernel_rfl) (by kernel_rfl) (by kernel_rfl) (fun xs hp => by
    dsimp only [spec_make1.E] at hp ⊢
    split at hp
    · exact h _ _ hp
    · cases hp)
theorem spec_make1.ok : CallSpec Try.prog spec_make1.E := spec_make1.ok_of (by simp [spec_make1.X, spec_copyInts.ok]) fun sh da h => ⟨0, by
  simp only [Bool.and_eq_true] at h
  rw [spec_make1.e, h.1, h.2]
  rfl⟩

namespace spec_WithItem
def E : Entry := ⟨18, false, false, fun | [.d (.agg [(.ints .i64 sh), (.ints .i64 da)]), .d (.ints .i64 pl), .d (.int .i64 n)] => decide (sh.length < 9223372036854775808) && decide (da.length < 9223372036854775808) && decide (pl.length < 9223372036854775808) | _ => false, fun | [.d (.agg [(.ints .i64 sh), (.ints .i64 da)]), .d (.ints .i64 pl), .d (.int .i64 n)] => ([.agg [((.ints .i64 (withS sh da pl n)), true), ((.ints .i64 (withD sh da pl n)), true)], .one ((.bool (withB sh da pl n)), false)], []) | _ => ([], []), fun _ => [], true⟩
end spec_WithItem
namespace spec_WithItem
noncomputable def X : List Entry := [spec_valid.E, spec_isPlace.E, spec_inRange.E, spec_make1.E, spec_offset.E]
def A : Ann := ⟨[29], [], [], [(4, [0, 2, 4, 6, 1, 3, 5, 7, 8])]⟩
theorem e (fuel : Nat) (p0q0 : List Int) (p0q1 : List Int) (p1 : List Int) (p2 : Int) : runF Try.prog X A fuel Try.f18 [.d (.agg [(.ints .i64 p0q0), (.ints .i64 p0q1)]), .d (.ints .i64 p1), .d (.int .i64 p2)] =
  (bif decide (p0q0.length < 9223372036854775808) && decide (p0q1.length < 9223372036854775808) then
  (bif (!(validA p0q0 p0q1)) then
  some ([.agg [((.ints .i64 []), true), ((.ints .i64 []), true)], .one ((.bool false), false)], [])
  else
  (bif decide (p0q0.length < 9223372036854775808) && decide (p1.length < 9223372036854775808) then
  (bif (!(isPl p0q0 p1)) then
  some ([.agg [((.ints .i64 []), true), ((.ints .i64 []), true)], .one ((.bool false), false)], [])
  else
  (bif (!(decide (((-1000000)) ≤ p2) && decide (p2 ≤ 1000000))) then
  some ([.agg [((.ints .i64 []), true), ((.ints .i64 []), true)], .one ((.bool false), false)], [])
  else
  (bif szB p0q0 && szB p0q1 then
  (bif decide (p0q0.length < 9223372036854775808) && decide (p1.length < 9223372036854775808) && decide (p0q0.length ≤ p1.length) then
  (idx (offW p0q0 p1 0) p0q1.length).bind fun k1 =>
  (bif decide (k1 < p0q1.length) then
  some ([.agg [((.ints .i64 p0q0), true), ((.ints .i64 (p0q1.set k1 p2)), true)], .one ((.bool true), false)], [])
  else
  none)
  else
  none)
  else
  none)))
  else
  none))
  else
  none) := by kernel_rfl
end spec_WithItem
theorem spec_WithItem.ok_of (hX : ∀ E ∈ spec_WithItem.X, CallSpec Try.prog E) (h : ∀ (sh : List Int) (da : List Int) (pl : List Int) (n : Int), (decide (sh.length < 9223372036854775808) && decide (da.length < 9223372036854775808) && decide (pl.length < 9223372036854775808)) = true → ∃ fuel, runF Try.prog spec_WithItem.X spec_WithItem.A fuel Try.f18 [.d (.agg [(.ints .i64 sh), (.ints .i64 da)]), .d (.ints .i64 pl), .d (.int .i64 n)] = some ([.agg [((.ints .i64 (withS sh da pl n)), true), ((.ints .i64 (withD sh da pl n)), true)], .one ((.bool (withB sh da pl n)), false)], [])) : CallSpec Try.prog spec_WithItem.E :=
  callSpec_of hX (by kernel_rfl) (by kernel_rfl) (by kernel_rfl) (by kernel_rfl) (fun xs hp => by
    dsimp only [spec_WithItem.E] at hp ⊢
    split at hp
    · exact h _ _ _ _ hp
    · cases hp)
theorem spec_WithItem.ok : CallSpec Try.prog spec_WithItem.E := spec_WithItem.ok_of (by simp [spec_WithItem.X, spec_valid.ok, spec_isPlace.ok, spec_inRange.ok, spec_make1.ok, spec_offset.ok]) fun sh da pl n h => ⟨0, by
  simp only [Bool.and_eq_true] at h
  rw [spec_WithItem.e, h.1.1, h.1.2, h.2]
  unfold withS withD withB
  rw [numB_eq]
  cases hb : itemB sh da pl with
  | false =>
    simp only [Bool.false_and, cond_false]
    unfold itemB at hb
    cases hv : validA sh da with
    | false => rfl
    | true => rw [hv] at hb; simp only [Bool.true_and] at hb; rw [hb]; rfl
  | true =>
    obtain ⟨g1, g2, _, _⟩ := item_idx hb
    have hb2 := hb
    simp only [itemB, Bool.and_eq_true] at hb2
    obtain ⟨l1, l2⟩ := validA_len hb2.1
    rw [hb2.1, hb2.2, decide_eq_true (p := sh.length ≤ pl.length) (by rw [isPl_len hb2.2]; exact Nat.le_refl _), g2, szB_of (by omega), szB_of (by omega)]
    cases (decide (-1000000 ≤ n) && decide (n ≤ 1000000))
    · rfl
    · simp [g1]⟩

namespace impl_copyList
def E : Entry := ⟨43, false, false, fun | [.d (.ints .i64 xs)] => szB xs | _ => false, fun | [.d (.ints .i64 xs)] => ([.one ((.ints .i64 xs), true)], []) | _ => ([], []), fun _ => [], true⟩
end impl_copyList
namespace impl_copyList
noncomputable def X : List Entry := []
def A : Ann := ⟨[], [], [], []⟩
theorem e (fuel : Nat) (p0 : List Int) : runF Try.prog X A fuel Try.f43 [.d (.ints .i64 p0)] =
  (bif decide (0 ≤ (((p0.length : Nat) : Int) : Int)) && decide ((((p0.length : Nat) : Int) : Int) ≤ ((p0.length : Nat) : Int)) && decide ((((p0.length : Nat) : Int) : Int) ≤ 1152921504606846976) && decide (((8 : Nat) : Int) * ((p0.length : Nat) : Int) ≤ 281474976710656) then
  some ([.one ((.ints .i64 (copyL (List.replicate (((p0.length : Nat) : Int)).toNat (0 : Int)) 0 (List.replicate (((p0.length : Nat) : Int)).toNat (0 : Int)).length p0)), true)], [])
  else
  none) := by kernel_rfl
end impl_copyList
theorem impl_copyList.ok_of (hX : ∀ E ∈ impl_copyList.X, CallSpec Try.prog E) (h : ∀ (xs : List Int), (szB xs) = true → ∃ fuel, runF Try.prog impl_copyList.X impl_copyList.A fuel Try.f43 [.d (.ints .i64 xs)] = some ([.one ((.ints .i64 xs), true)], [])) : CallSpec Try.prog impl_copyList.E :=
  callSpec_of hX (by kernel_rfl) (by kernel_rfl) (by kernel_rfl) (by kernel_rfl) (fun xs hp => by
    dsimp only [impl_copyList.E] at hp ⊢
    split at hp
    · exact h _ hp
    · cases hp)
theorem impl_copyList.ok : CallSpec Try.prog impl_copyList.E := impl_copyList.ok_of (by simp [impl_copyList.X]) fun xs h => ⟨0, by
  have hx := szB_le h
  rw [impl_copyList.e, mkOk (by omega) (by omega)]
  simp only [cond_true, Int.toNat_natCast, copyL_all]⟩

namespace impl_WithItem
def E : Entry := ⟨19, false, false, fun | [.d (.agg [(.ints .i64 sh), (.ints .i64 da)]), .d (.ints .i64 pl), .d (.int .i64 n)] => decide (sh.length < 9223372036854775808) && decide (da.length < 9223372036854775808) && decide (pl.length < 9223372036854775808) | _ => false, fun | [.d (.agg [(.ints .i64 sh), (.ints .i64 da)]), .d (.ints .i64 pl), .d (.int .i64 n)] => ([.agg [((.ints .i64 (withS sh da pl n)), true), ((.ints .i64 (withD sh da pl n)), true)], .one ((.bool (withB sh da pl n)), false)], []) | _ => ([], []), fun _ => [], true⟩
end impl_WithItem
namespace impl_WithItem
noncomputable def X : List Entry := [impl_offsetIn.E, impl_isNumber.E, impl_copyList.E]
def A : Ann := ⟨[23, 26], [], [], [(4, [0, 3, 1, 4, 2, 5, 6, 7, 8])]⟩
theorem e (fuel : Nat) (p0q0 : List Int) (p0q1 : List Int) (p1 : List Int) (p2 : Int) : runF Try.prog X A fuel Try.f19 [.d (.agg [(.ints .i64 p0q0), (.ints .i64 p0q1)]), .d (.ints .i64 p1), .d (.int .i64 p2)] =
  (bif decide (p0q0.length < 9223372036854775808) && decide (p0q1.length < 9223372036854775808) && decide (p1.length < 9223372036854775808) then
  (bif (decide (((offA p0q0 p0q1 p1) : Int) < 0)) then
  some ([.agg [((.ints .i64 []), true), ((.ints .i64 []), true)], .one ((.bool false), false)], [])
  else
  (bif (!(numB p2)) then
  some ([.agg [((.ints .i64 []), true), ((.ints .i64 []), true)], .one ((.bool false), false)], [])
  else
  (bif szB p0q0 then
  (bif szB p0q1 then
  (idx (offA p0q0 p0q1 p1) p0q1.length).bind fun k1 =>
  (bif decide (k1 < p0q1.length) then
  some ([.agg [((.ints .i64 p0q0), true), ((.ints .i64 (p0q1.set k1 p2)), true)], .one ((.bool true), false)], [])
  else
  none)
  else
  none)
  else
  none)))
  else
  none) := by kernel_rfl
end impl_WithItem
theorem impl_WithItem.ok_of (hX : ∀ E ∈ impl_WithItem.X, CallSpec Try.prog E) (h : ∀ (sh : List Int) (da : List Int) (pl : List Int) (n : Int), (decide (sh.length < 9223372036854775808) && decide (da.length < 9223372036854775808) && decide (pl.length < 9223372036854775808)) = true → ∃ fuel, runF Try.prog impl_WithItem.X impl_WithItem.A fuel Try.f19 [.d (.agg [(.ints .i64 sh), (.ints .i64 da)]), .d (.ints .i64 pl), .d (.int .i64 n)] = some ([.agg [((.ints .i64 (withS sh da pl n)), true), ((.ints .i64 (withD sh da pl n)), true)], .one ((.bool (withB sh da pl n)), false)], [])) : CallSpec Try.prog impl_WithItem.E :=
  callSpec_of hX (by kernel_rfl) (by kernel_rfl) (by kernel_rfl) (by kernel_rfl) (fun xs hp => by
    dsimp only [impl_WithItem.E] at hp ⊢
    split at hp
    · exact h _ _ _ _ hp
    · cases hp)
theorem impl_WithItem.ok : CallSpec Try.prog impl_WithItem.E := impl_WithItem.ok_of (by simp [impl_WithItem.X, impl_offsetIn.ok, impl_isNumber.ok, impl_copyList.ok]) fun sh da pl n h => ⟨0, by
  rw [impl_WithItem.e, h]
  unfold withS withD withB
  cases hb : itemB sh da pl with
  | false => rw [item_no hb]; rfl
  | true =>
    obtain ⟨g1, g2, g3, g4⟩ := item_idx hb
    have hb2 := hb
    simp only [itemB, Bool.and_eq_true] at hb2
    obtain ⟨l1, l2⟩ := validA_len hb2.1
    rw [decide_eq_false g4, g3, g2, szB_of (by omega), szB_of (by omega)]
    cases numB n
    · rfl
    · simp [g1]⟩

namespace laws_markIntS
def E : Entry := ⟨21, false, true, fun | [.rows true [(.i64, xs)], .d (.int .i64 k)] => decide (xs.length < 9223372036854775808) | _ => false, fun | [.rows true [(.i64, xs)], .d (.int .i64 k)] => ([.one ((.int .i64 (markK xs k)), false)], [[(.ints .i64 (markL xs k))]]) | _ => ([], []), fun _ => [], false⟩
end laws_markIntS
namespace laws_markIntS
noncomputable def X : List Entry := []
def A : Ann := ⟨[], [(1000002, [2, 3, 4, 6, 7, 8, 9, 10, 11, 12, 13, 14, 15, 16, 17, 18])], [], []⟩
noncomputable abbrev L0 (fuel n : Nat) (s : St) (k : Kont) := lAt Try.prog X A fuel (bodyOf Try.f21) [1, 0, 1, 0] n s k
noncomputable abbrev k0  (fuel : Nat) : Kont := kAt Try.prog X A fuel (bodyOf Try.f21) [1, 0, 1, 0] [] (endK Try.prog Try.f21)
def t0 (x0q0 : Int) (x0q1 : Int) (x0q2 : List Int) : St := ⟨[(.all 1000000000 1), (.imm (.int .i64 x0q0)), .dead, .dead, .dead, (.imm (.int .i64 x0q1)), .dead, .dead, .dead, .dead, .dead, .dead, .dead, .dead, .dead, .dead, .dead, .dead, .dead], hOf [(1000000000, (.ints .i64 x0q2))], [(.all 1000000000 1)]⟩
theorem e (fuel : Nat) (p0 : List Int) (p1 : Int) : runF Try.prog X A fuel Try.f21 [.rows true [(.i64, p0)], .d (.int .i64 p1)] =
  L0 fuel fuel (t0 p1 0 p0) (k0  fuel) := by kernel_rfl
theorem s0 (fuel n0 : Nat) (x0q0 : Int) (x0q1 : Int) (x0q2 : List Int) : L0 fuel (n0 + 1) (t0 x0q0 x0q1 x0q2) (k0  fuel) =
  (bif (decide ((x0q1 : Int) < ((x0q2.length : Nat) : Int))) then
  (idx x0q1 x0q2.length).bind fun k3 =>
  (bif decide (k3 < x0q2.length) then
  L0 fuel n0 (t0 ((IntKind.wrap .i64 (x0q0 + 1))) ((IntKind.wrap .i64 (x0q1 + 1))) ((x0q2.set k3 x0q0))) (k0  fuel)
  else
  none)
  else
  some ([.one ((.int .i64 x0q0), false)], [[(.ints .i64 x0q2)]])) := by kernel_rfl
end laws_markIntS
theorem laws_markIntS.ok_of (hX : ∀ E ∈ laws_markIntS.X, CallSpec Try.prog E) (h : ∀ (xs : List Int) (k : Int), (decide (xs.length < 9223372036854775808)) = true → ∃ fuel, runF Try.prog laws_markIntS.X laws_markIntS.A fuel Try.f21 [.rows true [(.i64, xs)], .d (.int .i64 k)] = some ([.one ((.int .i64 (markK xs k)), false)], [[(.ints .i64 (markL xs k))]])) : CallSpec Try.prog laws_markIntS.E :=
  callSpec_of hX (by kernel_rfl) (by kernel_rfl) (by kernel_rfl) (by kernel_rfl) (fun xs hp => by
    dsimp only [laws_markIntS.E] at hp ⊢
    split at hp
    · exact h _ _ hp
    · cases hp)
theorem laws_markIntS.loop (fuel : Nat) : ∀ (m n j : Nat) (k : Int) (xs : List Int), xs.length < 9223372036854775808 → xs.length - j = m → m < n → j ≤ xs.length →
    laws_markIntS.L0 fuel n (laws_markIntS.t0 k (j : Int) xs) (laws_markIntS.k0 fuel) = some ([.one (.int .i64 (markK (xs.drop j) k), false)], [[.ints .i64 (xs.take j ++ markL (xs.drop j) k)]]) := by
  intro m
  induction m with
  | zero =>
    intro n j k xs hx h1 h2 h3
    obtain ⟨n, rfl⟩ : ∃ n', n = n' + 1 := ⟨n - 1, by omega⟩
    have hj : ¬ j < xs.length := by omega
    have : xs.take j = xs := List.take_of_length_le (by omega)
    rw [laws_markIntS.s0, dge hj, dropE hj, this]
    simp [markL, markK]
  | succ m ih =>
    intro n j k xs hx h1 h2 h3
    obtain ⟨n, rfl⟩ : ∃ n', n = n' + 1 := ⟨n - 1, by omega⟩
    have hj : j < xs.length := by omega
    rw [laws_markIntS.s0, dlt hj, idx_nat hj, w1 (by omega), dropS hj]
    simp only [cond_true, Option.bind_some, hj, decide_true]
    rw [ih n (j + 1) _ (xs.set j k) (by simpa using hx) (by simp; omega) (by omega) (by simp; omega)]
    have e1 : (xs.set j k).drop (j + 1) = xs.drop (j + 1) := by simp [List.drop_set]
    have e2 : (xs.set j k).take (j + 1) = xs.take j ++ [k] := by
      rw [List.take_add_one]
      simp [List.take_set, hj]
      exact List.set_eq_of_length_le (by simp; omega)
    rw [e1, e2]
    simp [markL, markK]

theorem laws_markIntS.ok : CallSpec Try.prog laws_markIntS.E := laws_markIntS.ok_of (by simp [laws_markIntS.X]) fun xs k h => by
  simp only [decide_eq_true_eq] at h
  refine ⟨xs.length + 1, ?_⟩
  rw [laws_markIntS.e]
  have := laws_markIntS.loop (xs.length + 1) xs.length (xs.length + 1) 0 k xs h (by omega) (by omega) (by omega)
  simpa using this

namespace laws_markArray
def E : Entry := ⟨20, false, true, fun | [.rows false [(.i64, sh), (.i64, da)], .d (.int .i64 k)] => decide (sh.length < 9223372036854775808) && decide (da.length < 9223372036854775808) | _ => false, fun | [.rows false [(.i64, sh), (.i64, da)], .d (.int .i64 k)] => ([.one ((.int .i64 (markK da (markK sh k))), false)], [[(.ints .i64 (markL sh k))], [(.ints .i64 (markL da (markK sh k)))]]) | _ => ([], []), fun _ => [], false⟩
end laws_markArray
namespace laws_markArray
noncomputable def X : List Entry := [laws_markIntS.E]
def A : Ann := ⟨[], [], [], []⟩
theorem e (fuel : Nat) (p0q0 : List Int) (p0q1 : List Int) (p1 : Int) : runF Try.prog X A fuel Try.f20 [.rows false [(.i64, p0q0), (.i64, p0q1)], .d (.int .i64 p1)] =
  (bif decide (p0q0.length < 9223372036854775808) then
  (bif decide (p0q1.length < 9223372036854775808) then
  some ([.one ((.int .i64 (markK p0q1 ((markK p0q0 p1)))), false)], [[(.ints .i64 (markL p0q0 p1))], [(.ints .i64 (markL p0q1 ((markK p0q0 p1))))]])
  else
  none)
  else
  none) := by kernel_rfl
end laws_markArray
theorem laws_markArray.ok_of (hX : ∀ E ∈ laws_markArray.X, CallSpec Try.prog E) (h : ∀ (sh : List Int) (da : List Int) (k : Int), (decide (sh.length < 9223372036854775808) && decide (da.length < 9223372036854775808)) = true → ∃ fuel, runF Try.prog laws_markArray.X laws_markArray.A fuel Try.f20 [.rows false [(.i64, sh), (.i64, da)], .d (.int .i64 k)] = some ([.one ((.int .i64 (markK da (markK sh k))), false)], [[(.ints .i64 (markL sh k))], [(.ints .i64 (markL da (markK sh k)))]])) : CallSpec Try.prog laws_markArray.E :=
  callSpec_of hX (by kernel_rfl) (by kernel_rfl) (by kernel_rfl) (by kernel_rfl) (fun xs hp => by
    dsimp only [laws_markArray.E] at hp ⊢
    split at hp
    · exact h _ _ _ hp
    · cases hp)
theorem laws_markArray.ok : CallSpec Try.prog laws_markArray.E := laws_markArray.ok_of (by simp [laws_markArray.X, laws_markIntS.ok]) fun sh da k h => ⟨0, by
  simp only [Bool.and_eq_true, decide_eq_true_eq] at h
  rw [laws_markArray.e]
  simp only [h.1, h.2, decide_true, cond_true]⟩

namespace laws_heldIntS
def E : Entry := ⟨44, true, false, fun | [.d (.ints .i64 xs), .d (.int .i64 k)] => decide (xs.length < 9223372036854775808) | _ => false, fun | [.d (.ints .i64 xs), .d (.int .i64 k)] => ([.one ((.int .i64 (heldL xs k)), false)], []) | _ => ([], []), fun _ => [], false⟩
end laws_heldIntS
namespace laws_heldIntS
noncomputable def X : List Entry := []
def A : Ann := ⟨[], [(1000002, [2, 3, 4, 6, 7, 8, 9, 10, 11, 12, 13, 14, 15, 16, 17, 18, 19, 20])], [], []⟩
noncomputable abbrev L0 (fuel n : Nat) (s : St) (k : Kont) := lAt Try.prog X A fuel (bodyOf Try.f44) [1, 0, 1, 0] n s k
noncomputable abbrev k0  (fuel : Nat) : Kont := kAt Try.prog X A fuel (bodyOf Try.f44) [1, 0, 1, 0] [] (endK Try.prog Try.f44)
def t0 (p0 : List Int) (x0q1 : Int) (x0q2 : Int) : St := ⟨[(.imm (.ints .i64 p0)), (.imm (.int .i64 x0q1)), .dead, .dead, .dead, (.imm (.int .i64 x0q2)), .dead, .dead, .dead, .dead, .dead, .dead, .dead, .dead, .dead, .dead, .dead, .dead, .dead, .dead, .dead], hOf [], []⟩
theorem e (fuel : Nat) (p0 : List Int) (p1 : Int) : runF Try.prog X A fuel Try.f44 [.d (.ints .i64 p0), .d (.int .i64 p1)] =
  L0 fuel fuel (t0 p0 p1 0) (k0  fuel) := by kernel_rfl
theorem s0 (fuel n0 : Nat) (p0 : List Int) (x0q1 : Int) (x0q2 : Int) : L0 fuel (n0 + 1) (t0 p0 x0q1 x0q2) (k0  fuel) =
  (bif (decide ((x0q2 : Int) < ((p0.length : Nat) : Int))) then
  (idx x0q2 p0.length).bind fun k5 =>
  (p0[k5]?).bind fun v6 =>
  (bif ((v6 : Int) != x0q1) then
  some ([.one ((.int .i64 (-1)), false)], [])
  else
  L0 fuel n0 (t0 p0 ((IntKind.wrap .i64 (x0q1 + 1))) ((IntKind.wrap .i64 (x0q2 + 1)))) (k0  fuel))
  else
  some ([.one ((.int .i64 x0q1), false)], [])) := by kernel_rfl
end laws_heldIntS
theorem laws_heldIntS.ok_of (hX : ∀ E ∈ laws_heldIntS.X, CallSpec Try.prog E) (h : ∀ (xs : List Int) (k : Int), (decide (xs.length < 9223372036854775808)) = true → ∃ fuel, runF Try.prog laws_heldIntS.X laws_heldIntS.A fuel Try.f44 [.d (.ints .i64 xs), .d (.int .i64 k)] = some ([.one ((.int .i64 (heldL xs k)), false)], [])) : CallSpec Try.prog laws_heldIntS.E :=
  callSpec_of hX (by kernel_rfl) (by kernel_rfl) (by kernel_rfl) (by kernel_rfl) (fun xs hp => by
    dsimp only [laws_heldIntS.E] at hp ⊢
    split at hp
    · exact h _ _ hp
    · cases hp)
theorem laws_heldIntS.loop (fuel : Nat) (xs : List Int) (hx : xs.length < 9223372036854775808) : ∀ (m n j : Nat) (k : Int), xs.length - j = m → m < n → j ≤ xs.length →
    laws_heldIntS.L0 fuel n (laws_heldIntS.t0 xs k (j : Int)) (laws_heldIntS.k0 fuel) = some ([.one (.int .i64 (heldL (xs.drop j) k), false)], []) := by
  intro m
  induction m with
  | zero =>
    intro n j k h1 h2 h3
    obtain ⟨n, rfl⟩ : ∃ n', n = n' + 1 := ⟨n - 1, by omega⟩
    have hj : ¬ j < xs.length := by omega
    rw [laws_heldIntS.s0, dge hj, dropE hj]
    rfl
  | succ m ih =>
    intro n j k h1 h2 h3
    obtain ⟨n, rfl⟩ : ∃ n', n = n' + 1 := ⟨n - 1, by omega⟩
    have hj : j < xs.length := by omega
    rw [laws_heldIntS.s0, dlt hj, idx_nat hj, w1 (by omega), dropS hj]
    simp only [cond_true, Option.bind_some, getS hj, heldL]
    rw [ih n (j + 1) _ (by omega) (by omega) (by omega)]
    cases (xs[j] != k) <;> rfl

theorem laws_heldIntS.ok : CallSpec Try.prog laws_heldIntS.E := laws_heldIntS.ok_of (by simp [laws_heldIntS.X]) fun xs k h => by
  simp only [decide_eq_true_eq] at h
  refine ⟨xs.length + 1, ?_⟩
  rw [laws_heldIntS.e]
  exact laws_heldIntS.loop (xs.length + 1) xs h xs.length (xs.length + 1) 0 k (by omega) (by omega) (by omega)

namespace laws_heldArray
def E : Entry := ⟨22, true, false, fun | [.d (.agg [(.ints .i64 sh), (.ints .i64 da)]), .d (.int .i64 k)] => decide (sh.length < 9223372036854775808) && decide (da.length < 9223372036854775808) | _ => false, fun | [.d (.agg [(.ints .i64 sh), (.ints .i64 da)]), .d (.int .i64 k)] => ([.one ((.int .i64 (heldA sh da k)), false)], []) | _ => ([], []), fun _ => [], false⟩
end laws_heldArray
namespace laws_heldArray
noncomputable def X : List Entry := [laws_heldIntS.E]
def A : Ann := ⟨[], [], [], []⟩
theorem e (fuel : Nat) (p0q0 : List Int) (p0q1 : List Int) (p1 : Int) : runF Try.prog X A fuel Try.f22 [.d (.agg [(.ints .i64 p0q0), (.ints .i64 p0q1)]), .d (.int .i64 p1)] =
  (bif decide (p0q0.length < 9223372036854775808) then
  (bif (decide (((heldL p0q0 p1) : Int) < 0)) then
  some ([.one ((.int .i64 (-1)), false)], [])
  else
  (bif decide (p0q1.length < 9223372036854775808) then
  (bif (decide (((heldL p0q1 ((heldL p0q0 p1))) : Int) < 0)) then
  some ([.one ((.int .i64 (-1)), false)], [])
  else
  some ([.one ((.int .i64 (heldL p0q1 ((heldL p0q0 p1)))), false)], []))
  else
  none))
  else
  none) := by kernel_rfl
end laws_heldArray
theorem laws_heldArray.ok_of (hX : ∀ E ∈ laws_heldArray.X, CallSpec Try.prog E) (h : ∀ (sh : List Int) (da : List Int) (k : Int), (decide (sh.length < 9223372036854775808) && decide (da.length < 9223372036854775808)) = true → ∃ fuel, runF Try.prog laws_heldArray.X laws_heldArray.A fuel Try.f22 [.d (.agg [(.ints .i64 sh), (.ints .i64 da)]), .d (.int .i64 k)] = some ([.one ((.int .i64 (heldA sh da k)), false)], [])) : CallSpec Try.prog laws_heldArray.E :=
  callSpec_of hX (by kernel_rfl) (by kernel_rfl) (by kernel_rfl) (by kernel_rfl) (fun xs hp => by
    dsimp only [laws_heldArray.E] at hp ⊢
    split at hp
    · exact h _ _ _ hp
    · cases hp)
theorem laws_heldArray.ok : CallSpec Try.prog laws_heldArray.E := laws_heldArray.ok_of (by simp [laws_heldArray.X, laws_heldIntS.ok]) fun sh da k h => ⟨0, by
  simp only [Bool.and_eq_true, decide_eq_true_eq] at h
  rw [laws_heldArray.e]
  unfold heldA
  simp only [h.1, h.2, decide_true, cond_true]
  cases decide (heldL sh k < 0) <;> cases decide (heldL da (heldL sh k) < 0) <;> rfl⟩

namespace laws_FnExactWithItem
def E : Entry := ⟨5, true, false, fun | [.d (.agg [(.ints .i64 sh), (.ints .i64 da)]), .d (.ints .i64 pl), .d (.int .i64 n)] => decide (sh.length < 9223372036854775808) && decide (da.length < 9223372036854775808) && decide (pl.length < 9223372036854775808) | _ => false, fun | [.d (.agg [(.ints .i64 sh), (.ints .i64 da)]), .d (.ints .i64 pl), .d (.int .i64 n)] => ([.one ((.bool true), false)], []) | _ => ([], []), fun _ => [], false⟩
end laws_FnExactWithItem
namespace laws_FnExactWithItem
noncomputable def X : List Entry := [laws_szArray.E, laws_toArray.E, laws_toIntS.E, spec_WithItem.E, impl_WithItem.E, laws_eqArray.E, laws_eqIntS.E, laws_markArray.E, laws_markIntS.E, laws_heldArray.E]
def A : Ann := ⟨[29, 31, 33, 37, 39, 44, 58, 63, 98, 100, 102], [], [], []⟩
theorem e (fuel : Nat) (p0q0 : List Int) (p0q1 : List Int) (p1 : List Int) (p2 : Int) : runF Try.prog X A fuel Try.f5 [.d (.agg [(.ints .i64 p0q0), (.ints .i64 p0q1)]), .d (.ints .i64 p1), .d (.int .i64 p2)] =
  (bif (decide ((((p1.length : Nat) : Int) : Int) > 1048576)) then
  some ([.one ((.bool true), false)], [])
  else
  (bif (decide (((szA p0q0 p0q1 1048576) : Int) < 0)) then
  some ([.one ((.bool true), false)], [])
  else
  (bif szB p0q0 && szB p0q1 then
  (bif szB p1 then
  (bif decide (p0q0.length < 9223372036854775808) && decide (p0q1.length < 9223372036854775808) && decide (p1.length < 9223372036854775808) then
  (bif szB p0q0 && szB p0q1 then
  (bif szB p1 then
  (bif decide (p0q0.length < 9223372036854775808) && decide (p0q1.length < 9223372036854775808) && decide (p1.length < 9223372036854775808) then
  (bif decide (((withS p0q0 p0q1 p1 p2)).length < 9223372036854775808) && decide (((withD p0q0 p0q1 p1 p2)).length < 9223372036854775808) && decide (((withS p0q0 p0q1 p1 p2)).length < 9223372036854775808) && decide (((withD p0q0 p0q1 p1 p2)).length < 9223372036854775808) then
  (bif (!(decide (((withS p0q0 p0q1 p1 p2)) = ((withS p0q0 p0q1 p1 p2))) && decide (((withD p0q0 p0q1 p1 p2)) = ((withD p0q0 p0q1 p1 p2))))) then
  some ([.one ((.bool false), false)], [])
  else
  (bif (!((withB p0q0 p0q1 p1 p2) == (withB p0q0 p0q1 p1 p2))) then
  some ([.one ((.bool false), false)], [])
  else
  (bif szB p0q0 && szB p0q1 then
  (bif decide (p0q0.length < 9223372036854775808) && decide (p0q1.length < 9223372036854775808) && decide (p0q0.length < 9223372036854775808) && decide (p0q1.length < 9223372036854775808) then
  (bif (!(decide (p0q0 = p0q0) && decide (p0q1 = p0q1))) then
  some ([.one ((.bool false), false)], [])
  else
  (bif szB p1 then
  (bif decide (p1.length < 9223372036854775808) && decide (p1.length < 9223372036854775808) then
  (bif (!(decide (p1 = p1))) then
  some ([.one ((.bool false), false)], [])
  else
  (bif decide (p0q0.length < 9223372036854775808) && decide (p0q1.length < 9223372036854775808) then
  (bif decide (p1.length < 9223372036854775808) then
  (bif (decide (((markK p1 ((markK p0q1 (markK p0q0 1)))) : Int) < 0)) then
  some ([.one ((.bool false), false)], [])
  else
  (bif decide (((withS p0q0 p0q1 p1 p2)).length < 9223372036854775808) && decide (((withD p0q0 p0q1 p1 p2)).length < 9223372036854775808) && decide (((withS p0q0 p0q1 p1 p2)).length < 9223372036854775808) && decide (((withD p0q0 p0q1 p1 p2)).length < 9223372036854775808) then
  (bif (!(decide (((withS p0q0 p0q1 p1 p2)) = ((withS p0q0 p0q1 p1 p2))) && decide (((withD p0q0 p0q1 p1 p2)) = ((withD p0q0 p0q1 p1 p2))))) then
  some ([.one ((.bool false), false)], [])
  else
  (bif (!((withB p0q0 p0q1 p1 p2) == (withB p0q0 p0q1 p1 p2))) then
  some ([.one ((.bool false), false)], [])
  else
  (bif decide (((withS p0q0 p0q1 p1 p2)).length < 9223372036854775808) && decide (((withD p0q0 p0q1 p1 p2)).length < 9223372036854775808) then
  (bif decide (((markL ((withS p0q0 p0q1 p1 p2)) 1)).length < 9223372036854775808) && decide (((markL ((withD p0q0 p0q1 p1 p2)) (markK ((withS p0q0 p0q1 p1 p2)) 1))).length < 9223372036854775808) then
  (bif (decide (((heldA ((markL ((withS p0q0 p0q1 p1 p2)) 1)) ((markL ((withD p0q0 p0q1 p1 p2)) (markK ((withS p0q0 p0q1 p1 p2)) 1))) 1) : Int) < 0)) then
  some ([.one ((.bool false), false)], [])
  else
  (bif (((heldA ((markL ((withS p0q0 p0q1 p1 p2)) 1)) ((markL ((withD p0q0 p0q1 p1 p2)) (markK ((withS p0q0 p0q1 p1 p2)) 1))) 1) : Int) != (markK ((withD p0q0 p0q1 p1 p2)) (markK ((withS p0q0 p0q1 p1 p2)) 1))) then
  some ([.one ((.bool false), false)], [])
  else
  (bif szB p0q0 && szB p0q1 then
  (bif szB p1 then
  (bif decide (p0q0.length < 9223372036854775808) && decide (p0q1.length < 9223372036854775808) && decide (p1.length < 9223372036854775808) then
  (bif decide (((withS p0q0 p0q1 p1 p2)).length < 9223372036854775808) && decide (((withD p0q0 p0q1 p1 p2)).length < 9223372036854775808) && decide (((withS p0q0 p0q1 p1 p2)).length < 9223372036854775808) && decide (((withD p0q0 p0q1 p1 p2)).length < 9223372036854775808) then
  (bif (!(decide (((withS p0q0 p0q1 p1 p2)) = ((withS p0q0 p0q1 p1 p2))) && decide (((withD p0q0 p0q1 p1 p2)) = ((withD p0q0 p0q1 p1 p2))))) then
  some ([.one ((.bool false), false)], [])
  else
  (bif (!((withB p0q0 p0q1 p1 p2) == (withB p0q0 p0q1 p1 p2))) then
  some ([.one ((.bool false), false)], [])
  else
  (bif decide (((markL ((withS p0q0 p0q1 p1 p2)) 1)).length < 9223372036854775808) && decide (((markL ((withD p0q0 p0q1 p1 p2)) (markK ((withS p0q0 p0q1 p1 p2)) 1))).length < 9223372036854775808) then
  (bif (decide (((heldA ((markL ((withS p0q0 p0q1 p1 p2)) 1)) ((markL ((withD p0q0 p0q1 p1 p2)) (markK ((withS p0q0 p0q1 p1 p2)) 1))) 1) : Int) < 0)) then
  some ([.one ((.bool false), false)], [])
  else
  (bif (((heldA ((markL ((withS p0q0 p0q1 p1 p2)) 1)) ((markL ((withD p0q0 p0q1 p1 p2)) (markK ((withS p0q0 p0q1 p1 p2)) 1))) 1) : Int) != (markK ((withD p0q0 p0q1 p1 p2)) (markK ((withS p0q0 p0q1 p1 p2)) 1))) then
  some ([.one ((.bool false), false)], [])
  else
  some ([.one ((.bool true), false)], [])))
  else
  none)))
  else
  none)
  else
  none)
  else
  none)
  else
  none)))
  else
  none)
  else
  none)))
  else
  none))
  else
  none)
  else
  none))
  else
  none)
  else
  none))
  else
  none)
  else
  none)))
  else
  none)
  else
  none)
  else
  none)
  else
  none)
  else
  none)
  else
  none)
  else
  none))) := by kernel_rfl
end laws_FnExactWithItem
theorem laws_FnExactWithItem.ok_of (hX : ∀ E ∈ laws_FnExactWithItem.X, CallSpec Try.prog E) (h : ∀ (sh : List Int) (da : List Int) (pl : List Int) (n : Int), (decide (sh.length < 9223372036854775808) && decide (da.length < 9223372036854775808) && decide (pl.length < 9223372036854775808)) = true → ∃ fuel, runF Try.prog laws_FnExactWithItem.X laws_FnExactWithItem.A fuel Try.f5 [.d (.agg [(.ints .i64 sh), (.ints .i64 da)]), .d (.ints .i64 pl), .d (.int .i64 n)] = some ([.one ((.bool true), false)], [])) : CallSpec Try.prog laws_FnExactWithItem.E :=
  callSpec_of hX (by kernel_rfl) (by kernel_rfl) (by kernel_rfl) (by kernel_rfl) (fun xs hp => by
    dsimp only [laws_FnExactWithItem.E] at hp ⊢
    split at hp
    · exact h _ _ _ _ hp
    · cases hp)
theorem laws_FnExactWithItem.ok : CallSpec Try.prog laws_FnExactWithItem.E := laws_FnExactWithItem.ok_of (by simp [laws_FnExactWithItem.X, laws_szArray.ok, laws_toArray.ok, laws_toIntS.ok, spec_WithItem.ok, impl_WithItem.ok, laws_eqArray.ok, laws_eqIntS.ok, laws_markArray.ok, laws_markIntS.ok, laws_heldArray.ok]) fun sh da pl n h => ⟨0, by
  rw [laws_FnExactWithItem.e]
  simp only [Bool.and_eq_true] at h
  by_cases hg : (((pl.length : Nat) : Int) > 1048576)
  · rw [decide_eq_true hg]; rfl
  by_cases hg2 : szA sh da 1048576 < 0
  · rw [decide_eq_false hg, decide_eq_true hg2]; rfl
  have hz := szA_small (of_decide_eq_true h.1.1) (of_decide_eq_true h.1.2) hg2
  have z1 := szB_of (xs := sh) (by omega)
  have z2 := szB_of (xs := da) (by omega)
  have z3 := szB_of (xs := pl) (by omega)
  have hl := with_len sh da pl n
  obtain ⟨h1, h2, h3, h4, h5, h6⟩ := marks_ok (sh := withS sh da pl n) (da := withD sh da pl n) (by omega) (by omega)
  have m3 := mark3_ok (xs := sh) (ys := da) (zs := pl) (by omega) (by omega) (by omega)
  simp only [decide_eq_false hg, decide_eq_false hg2, z1, z2, z3, h.1.1, h.1.2, h.2, h1, h2, h3, h4, h5, h6, m3, bne_self_eq_false, beq_self_eq_true, decide_true, Bool.and_self, Bool.not_true, cond_true, cond_false]⟩

end Go.Ab
