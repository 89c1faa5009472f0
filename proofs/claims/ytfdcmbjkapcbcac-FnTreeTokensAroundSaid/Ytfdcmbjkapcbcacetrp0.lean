import Derived.Test.YtfdcmbjkapcbcacAbMeth
open Go Go.Ab
set_option maxRecDepth 100000
set_option linter.unusedVariables false
set_option linter.unusedSimpArgs false
namespace Go.Ab
/-- What is left of a mark: k, k + 1, and so on. -/
def markL : List Int → Int → List Int
  | [], _ => []
  | _ :: xs, k => k :: markL xs (IntKind.wrap .i64 (k + 1))
def markK : List Int → Int → Int
  | [], k => k
  | _ :: xs, k => markK xs (IntKind.wrap .i64 (k + 1))
def heldL : List Int → Int → Int
  | [], k => k
  | x :: xs, k => bif x != k then -1 else heldL xs (IntKind.wrap .i64 (k + 1))
def heldA (sh da : List Int) (k : Int) : Int := bif decide (heldL sh k < 0) then -1 else bif decide (heldL da (heldL sh k) < 0) then -1 else heldL da (heldL sh k)
def numB (v : Int) : Bool := decide (-1000000 ≤ v) && decide (v ≤ 1000000)
def scalL (v : Int) : List Int := bif numB v then [v] else []
abbrev nilI : List Int := []

theorem idx_nat {j n : Nat} (h : j < n) : idx (j : Int) n = some j := by simp [idx, h]
theorem w1 {j : Nat} (h : j < 9223372036854775807) : IntKind.wrap .i64 ((j : Int) + 1) = ((j + 1 : Nat) : Int) := by rw [IntKind.wrap_i64]; omega
theorem dlt {j n : Nat} (h : j < n) : decide ((j : Int) < ((n : Nat) : Int)) = true := by simp [h]
theorem dge {j n : Nat} (h : ¬ j < n) : decide ((j : Int) < ((n : Nat) : Int)) = false := by simp; omega
theorem getS {xs : List Int} {j : Nat} (h : j < xs.length) : xs[j]? = some xs[j] := List.getElem?_eq_getElem h
theorem dropS {xs : List Int} {j : Nat} (h : j < xs.length) : xs.drop j = xs[j] :: xs.drop (j + 1) := List.drop_eq_getElem_cons h
theorem dropE {xs : List Int} {j : Nat} (h : ¬ j < xs.length) : xs.drop j = [] := List.drop_eq_nil_of_le (by omega)
theorem markL_length (xs : List Int) (k : Int) : (markL xs k).length = xs.length := by
  induction xs generalizing k with
  | nil => rfl
  | cons x xs ih => simp [markL, ih]
end Go.Ab
namespace Go.Ab
def szB (xs : List Int) : Bool := decide (xs.length ≤ 1099511627776)
def szI (xs : List Int) (left : Int) : Int := bif decide (IntKind.wrap .i64 (left - ((xs.length : Nat) : Int)) < 0) then -1 else IntKind.wrap .i64 (left - ((xs.length : Nat) : Int))
def szA (sh da : List Int) (left : Int) : Int := bif decide (szI sh left < 0) then -1 else bif decide (szI da (szI sh left) < 0) then -1 else szI da (szI sh left)
def allB (xs : List Int) (lo hi : Int) : Bool := xs.all fun v => decide (lo ≤ v) && decide (v ≤ hi)
def volFrom : List Int → Int → Int
  | [], n => n
  | x :: xs, n => volFrom xs (IntKind.wrap .i64 (n * x))
def volW (xs : List Int) : Int := volFrom xs 1
def validS (sh : List Int) : Bool := decide (((sh.length : Nat) : Int) ≤ 3) && allB sh 0 60 && decide (volW sh ≤ 60)
def validA (sh da : List Int) : Bool := validS sh && (((da.length : Nat) : Int) == volW sh) && allB da (-1000000) 1000000
def rankV (sh da : List Int) : Int := bif validA sh da then ((sh.length : Nat) : Int) else -1
def sizeV (sh da : List Int) : Int := bif validA sh da then ((da.length : Nat) : Int) else -1
def strd (sh : List Int) (k : Nat) : Int := bif decide (k < sh.length) then volW (sh.drop (k + 1)) else 0
def cntOk (n : Int) : Bool := decide (0 ≤ n) && decide (n ≤ 60)
def cntS (n : Int) : List Int := bif cntOk n then [n] else []
def cntD (n : Int) : List Int := bif cntOk n then (List.range n.toNat).map Int.ofNat else []
def vecOk (xs : List Int) : Bool := decide (xs.length ≤ 60) && allB xs (-1000000) 1000000
def vecS (xs : List Int) : List Int := bif vecOk xs then [((xs.length : Nat) : Int)] else []
def vecD (xs : List Int) : List Int := bif vecOk xs then xs else []

theorem szB_lt {xs : List Int} (h : szB xs = true) : xs.length < 9223372036854775808 := by
  have := of_decide_eq_true h; omega
theorem szB_le {xs : List Int} (h : szB xs = true) : xs.length ≤ 1099511627776 := of_decide_eq_true h
theorem szB_of {xs : List Int} (h : xs.length ≤ 1099511627776) : szB xs = true := decide_eq_true h
theorem lt_of {xs : List Int} (h : xs.length < 9223372036854775808) : decide (xs.length < 9223372036854775808) = true := decide_eq_true h
theorem wS {x : Int} (h1 : -9223372036854775808 ≤ x) (h2 : x ≤ 9223372036854775807) : IntKind.wrap .i64 x = x := by rw [IntKind.wrap_i64]; omega
theorem mkOk {n : Int} (h0 : 0 ≤ n) (h : n ≤ 1099511627776) : (decide (0 ≤ n) && decide (n ≤ n) && decide (n ≤ 1152921504606846976) && decide (((8 : Nat) : Int) * n ≤ 281474976710656)) = true := by
  simp; omega
theorem fitsOk {n : Nat} (h : n ≤ 4398046511104) : fits n 8 = true := by simp [fits]; omega
theorem copyL_all (xs : List Int) : copyL (List.replicate xs.length 0) 0 (List.replicate xs.length (0 : Int)).length xs = xs := by
  simp [copyL, spl]
theorem take_set_succ {xs out : List Int} {j : Nat} (hj : j < xs.length) (h2 : j < out.length) (h : out.take j = xs.take j) : (out.set j xs[j]).take (j + 1) = xs.take (j + 1) := by
  rw [List.take_add_one, List.take_add_one, List.take_set, List.set_eq_of_length_le (by simp; omega), h]
  simp [h2, hj]
theorem mul60 {a b : Int} (ha : 0 ≤ a) (ha' : a ≤ 60) (hb : 0 ≤ b) (hb' : b ≤ 60) : 0 ≤ a * b ∧ a * b ≤ 3600 :=
  ⟨Int.mul_nonneg ha hb, Int.le_trans (Int.mul_le_mul ha' hb' hb (by omega)) (by omega)⟩
theorem mul3600 {a b : Int} (ha : 0 ≤ a) (ha' : a ≤ 3600) (hb : 0 ≤ b) (hb' : b ≤ 60) : 0 ≤ a * b ∧ a * b ≤ 216000 :=
  ⟨Int.mul_nonneg ha hb, Int.le_trans (Int.mul_le_mul ha' hb' hb (by omega)) (by omega)⟩
theorem allB_nil (lo hi : Int) : allB [] lo hi = true := rfl
theorem allB_cons (x : Int) (xs : List Int) (lo hi : Int) : allB (x :: xs) lo hi = ((decide (lo ≤ x) && decide (x ≤ hi)) && allB xs lo hi) := rfl
theorem numB_eq (v : Int) : numB v = (decide (-1000000 ≤ v) && decide (v ≤ 1000000)) := rfl
theorem szI_small {xs : List Int} {left : Int} (h0 : 0 ≤ left) (h1 : left ≤ 1048576) (hx : xs.length < 9223372036854775808) : szI xs left = bif decide (left < ((xs.length : Nat) : Int)) then -1 else left - ((xs.length : Nat) : Int) := by
  unfold szI
  rw [wS (by omega) (by omega)]
  by_cases h : left < ((xs.length : Nat) : Int)
  · have h' : left - ((xs.length : Nat) : Int) < 0 := by omega
    simp [h, h']
  · have h' : ¬ left - ((xs.length : Nat) : Int) < 0 := by omega
    simp [h, h']
/-- What a law's guard says. -/
theorem szA_small {sh da : List Int} (h1 : sh.length < 9223372036854775808) (h2 : da.length < 9223372036854775808) (h : ¬ szA sh da 1048576 < 0) : sh.length + da.length ≤ 1048576 := by
  unfold szA at h
  rw [szI_small (by omega) (by omega) h1] at h
  by_cases ha : (1048576 : Int) < ((sh.length : Nat) : Int)
  · simp [ha] at h
  · simp only [ha, decide_false, cond_false] at h
    rw [szI_small (by omega) (by omega) h2] at h
    by_cases hb : (1048576 - ((sh.length : Nat) : Int)) < ((da.length : Nat) : Int)
    · simp only [hb, decide_true, cond_true] at h
      have hneg : ¬ (1048576 - ((sh.length : Nat) : Int) < 0) := by omega
      simp [hneg] at h
    · omega
end Go.Ab
namespace Go.Ab
theorem markK_eq : ∀ (xs : List Int) (k : Int), 0 ≤ k → k + xs.length < 4611686018427387904 → markK xs k = k + ((xs.length : Nat) : Int)
  | [], k, _, _ => by simp [markK]
  | x :: xs, k, h0, h1 => by
    simp only [List.length_cons] at h1
    simp only [markK]
    rw [wS (by omega) (by omega), markK_eq xs (k + 1) (by omega) (by omega)]
    simp only [List.length_cons]
    omega
theorem heldL_mark : ∀ (xs : List Int) (k : Int), 0 ≤ k → k + xs.length < 4611686018427387904 → heldL (markL xs k) k = k + ((xs.length : Nat) : Int)
  | [], k, _, _ => by simp [markL, heldL]
  | x :: xs, k, h0, h1 => by
    simp only [List.length_cons] at h1
    simp only [markL, heldL, bne_self_eq_false, cond_false]
    rw [wS (by omega) (by omega), heldL_mark xs (k + 1) (by omega) (by omega)]
    simp only [List.length_cons]
    omega
theorem mark1_ok {xs : List Int} (h : xs.length ≤ 4398046511104) : decide (markK xs 1 < 0) = false := by
  rw [markK_eq xs 1 (by omega) (by omega)]; simp; omega
/-- What the marks of an array's memory say: nothing is shared. -/
theorem marks_ok {sh da : List Int} (h1 : sh.length ≤ 1099511627776) (h2 : da.length ≤ 1099511627776) :
    decide (sh.length < 9223372036854775808) = true ∧ decide (da.length < 9223372036854775808) = true ∧ decide ((markL sh 1).length < 9223372036854775808) = true ∧
    decide ((markL da (markK sh 1)).length < 9223372036854775808) = true ∧ heldA (markL sh 1) (markL da (markK sh 1)) 1 = markK da (markK sh 1) ∧ decide (markK da (markK sh 1) < 0) = false := by
  have e1 := markK_eq sh 1 (by omega) (by omega)
  have e2 := markK_eq da (1 + ((sh.length : Nat) : Int)) (by omega) (by omega)
  have e3 := heldL_mark sh 1 (by omega) (by omega)
  have e4 := heldL_mark da (1 + ((sh.length : Nat) : Int)) (by omega) (by omega)
  refine ⟨decide_eq_true (by omega), decide_eq_true (by omega), by rw [markL_length]; exact decide_eq_true (by omega), by rw [markL_length]; exact decide_eq_true (by omega), ?_, by rw [e1, e2]; exact decide_eq_false (by omega)⟩
  unfold heldA
  rw [e1, e3, e4, e2, decide_eq_false (by omega), decide_eq_false (by omega)]
  rfl
theorem cnt_len (n : Int) : (cntS n).length ≤ 1 ∧ (cntD n).length ≤ 60 := by
  unfold cntS cntD
  cases h : cntOk n with
  | false => simp
  | true =>
    have : 0 ≤ n ∧ n ≤ 60 := by simpa [cntOk] using h
    simp; omega
theorem vec_len (xs : List Int) : (vecS xs).length ≤ 1 ∧ (vecD xs).length ≤ 60 := by
  unfold vecS vecD
  cases h : vecOk xs with
  | false => simp
  | true =>
    have : xs.length ≤ 60 := by simp [vecOk] at h; exact h.1
    simp; omega
end Go.Ab
namespace Go.Ab
/-- A list by a rule. -/
def tab (n : Nat) (f : Nat → Int) : List Int := (List.range n).map f
theorem tab_length (n : Nat) (f : Nat → Int) : (tab n f).length = n := by simp [tab]
theorem tab_succ (n : Nat) (f : Nat → Int) : tab (n + 1) f = tab n f ++ [f n] := by simp [tab, List.range_succ]
theorem tab_get {n : Nat} {f : Nat → Int} {i : Nat} (h : i < n) : (tab n f)[i]? = some (f i) := by simp [tab, h]
theorem tab_getD {n : Nat} {f : Nat → Int} {i : Nat} (h : i < n) : (tab n f).getD i 0 = f i := by simp [tab, h]
theorem tab_congr {n : Nat} {f g : Nat → Int} (h : ∀ i, i < n → f i = g i) : tab n f = tab n g := by
  unfold tab
  exact List.map_congr_left fun i hi => h i (by simpa using hi)
theorem tab_self (xs : List Int) : tab xs.length (fun i => xs.getD i 0) = xs := by
  apply List.ext_getElem?
  intro i
  by_cases h : i < xs.length
  · rw [tab_get h]; simp [h]
  · rw [List.getElem?_eq_none (by rw [tab_length]; omega), List.getElem?_eq_none (by omega)]
/-- A row that is filled from the front. -/
theorem fill_step {n j : Nat} {f : Nat → Int} {out : List Int} (hj : j < n) (hl : out.length = n) (h : out.take j = tab j f) : (out.set j (f j)).take (j + 1) = tab (j + 1) f := by
  rw [tab_succ, ← h, List.take_add_one, List.take_set, List.set_eq_of_length_le (by simp; omega)]
  have : j < out.length := by omega
  simp [this]
/-- A number that is left as it is. -/
theorem fill_keep {n j : Nat} {f : Nat → Int} {out : List Int} (hj : j < n) (hl : out.length = n) (h : out.take j = tab j f) (h2 : out[j]? = some (f j)) : out.take (j + 1) = tab (j + 1) f := by
  rw [tab_succ, ← h, List.take_add_one, h2]
  rfl
theorem fill_end {n : Nat} {f : Nat → Int} {out : List Int} (hl : out.length = n) (h : out.take n = tab n f) : out = tab n f := by
  rw [← h, List.take_of_length_le (by omega)]
theorem divmod {a b c : Nat} (h : c < b) : (a * b + c) / b = a ∧ (a * b + c) % b = c := by
  constructor
  · rw [Nat.add_comm, Nat.add_mul_div_right _ _ (by omega), Nat.div_eq_of_lt h, Nat.zero_add]
  · rw [Nat.add_comm, Nat.add_mul_mod_self_right, Nat.mod_eq_of_lt h]
end Go.Ab
namespace Go.Ab
def offW : List Int → List Int → Int → Int
  | [], _, n => n
  | _ :: _, [], n => n
  | s :: sh, p :: pl, n => offW sh pl (IntKind.wrap .i64 (IntKind.wrap .i64 (n * s) + p))
def isPl : List Int → List Int → Bool
  | [], [] => true
  | s :: sh, p :: pl => (decide (0 ≤ p) && decide (p ≤ IntKind.wrap .i64 (s - 1))) && isPl sh pl
  | _, _ => false
def offS (sh pl : List Int) : Int := bif validS sh && isPl sh pl then offW sh pl 0 else -1
def offA (sh da pl : List Int) : Int := bif validA sh da then offS sh pl else -1
def itemB (sh da pl : List Int) : Bool := validA sh da && isPl sh pl
def itemV (sh da pl : List Int) : Int := bif itemB sh da pl then da.getD (offW sh pl 0).toNat 0 else 0
def withB (sh da pl : List Int) (n : Int) : Bool := itemB sh da pl && numB n
def withS (sh da pl : List Int) (n : Int) : List Int := bif withB sh da pl n then sh else []
def withD (sh da pl : List Int) (n : Int) : List Int := bif withB sh da pl n then da.set (offW sh pl 0).toNat n else []

theorem isPl_len : ∀ {sh pl : List Int}, isPl sh pl = true → pl.length = sh.length
  | [], [], _ => rfl
  | [], _ :: _, h => by simp [isPl] at h
  | _ :: _, [], h => by simp [isPl] at h
  | s :: sh, p :: pl, h => by
    simp only [isPl, Bool.and_eq_true] at h
    simp [isPl_len h.2]
theorem isPl_ne {sh pl : List Int} (h : pl.length ≠ sh.length) : isPl sh pl = false := by
  cases hb : isPl sh pl with
  | false => rfl
  | true => exact absurd (isPl_len hb) h
theorem validS_inv {sh : List Int} (h : validS sh = true) : sh.length ≤ 3 ∧ allB sh 0 60 = true ∧ volW sh ≤ 60 := by
  simp only [validS, Bool.and_eq_true, decide_eq_true_eq] at h
  exact ⟨by omega, h.1.2, h.2⟩
theorem horner {a b p q : Int} (hp : 0 ≤ p) (hp2 : p < a) (hq : 0 ≤ q) (hq2 : q < b) : 0 ≤ p * b + q ∧ p * b + q < a * b := by
  have h1 : 0 ≤ p * b := Int.mul_nonneg hp (by omega)
  have h2 : (p + 1) * b ≤ a * b := Int.mul_le_mul_of_nonneg_right (by omega) (by omega)
  rw [Int.add_mul, Int.one_mul] at h2
  omega
/-- A valid shape, by its number of axes. -/
theorem validS_cases {sh : List Int} (h : validS sh = true) : sh = [] ∨ (∃ a, sh = [a] ∧ 0 ≤ a ∧ a ≤ 60) ∨ (∃ a b, sh = [a, b] ∧ 0 ≤ a ∧ a ≤ 60 ∧ 0 ≤ b ∧ b ≤ 60 ∧ a * b ≤ 60) ∨
    ∃ a b c, sh = [a, b, c] ∧ 0 ≤ a ∧ a ≤ 60 ∧ 0 ≤ b ∧ b ≤ 60 ∧ 0 ≤ c ∧ c ≤ 60 ∧ a * b * c ≤ 60 := by
  obtain ⟨h1, h2, h3⟩ := validS_inv h
  match sh, h1, h2, h3 with
  | [], _, _, _ => exact .inl rfl
  | [a], _, h2, h3 =>
    simp only [allB_cons, allB_nil, Bool.and_true, Bool.and_eq_true, decide_eq_true_eq] at h2
    exact .inr (.inl ⟨a, rfl, h2.1, h2.2⟩)
  | [a, b], _, h2, h3 =>
    simp only [allB_cons, allB_nil, Bool.and_true, Bool.and_eq_true, decide_eq_true_eq] at h2
    have hm := mul60 h2.1.1 h2.1.2 h2.2.1 h2.2.2
    simp only [volW, volFrom, Int.one_mul, wS (x := a) (by omega) (by omega), wS (x := a * b) (by omega) (by omega)] at h3
    exact .inr (.inr (.inl ⟨a, b, rfl, h2.1.1, h2.1.2, h2.2.1, h2.2.2, h3⟩))
  | [a, b, c], _, h2, h3 =>
    simp only [allB_cons, allB_nil, Bool.and_true, Bool.and_eq_true, decide_eq_true_eq] at h2
    have hm := mul60 h2.1.1 h2.1.2 h2.2.1.1 h2.2.1.2
    have hm3 := mul3600 hm.1 hm.2 h2.2.2.1 h2.2.2.2
    simp only [volW, volFrom, Int.one_mul, wS (x := a) (by omega) (by omega), wS (x := a * b) (by omega) (by omega), wS (x := a * b * c) (by omega) (by omega)] at h3
    exact .inr (.inr (.inr ⟨a, b, c, rfl, h2.1.1, h2.1.2, h2.2.1.1, h2.2.1.2, h2.2.2.1, h2.2.2.2, h3⟩))
  | _ :: _ :: _ :: _ :: _, h1, _, _ => simp at h1
/-- The number of a place, without wraps, and where it lies. -/
theorem off_bd {sh pl : List Int} (h : validS sh = true) (hp : isPl sh pl = true) : 0 ≤ offW sh pl 0 ∧ offW sh pl 0 < volW sh := by
  have hl := isPl_len hp
  rcases validS_cases h with rfl | ⟨a, rfl, a0, a1⟩ | ⟨a, b, rfl, a0, a1, b0, b1, v⟩ | ⟨a, b, c, rfl, a0, a1, b0, b1, c0, c1, v⟩
  · match pl, hl with
    | [], _ => decide
  · match pl, hl with
    | [p], _ =>
      simp only [isPl, Bool.and_true, Bool.and_eq_true, decide_eq_true_eq, wS (x := a - 1) (by omega) (by omega)] at hp
      simp only [offW, volW, volFrom, Int.zero_mul, Int.one_mul, wS (x := a) (by omega) (by omega)]
      rw [wS (x := 0) (by omega) (by omega), Int.zero_add, wS (x := p) (by omega) (by omega)]
      omega
  · match pl, hl with
    | [p, q], _ =>
      simp only [isPl, Bool.and_true, Bool.and_eq_true, decide_eq_true_eq, wS (x := a - 1) (by omega) (by omega), wS (x := b - 1) (by omega) (by omega)] at hp
      have hh := horner (a := a) (b := b) hp.1.1 (by omega) hp.2.1 (by omega)
      have hpb := mul60 (a := p) (b := b) hp.1.1 (by omega) b0 b1
      simp only [offW, volW, volFrom, Int.zero_mul, Int.one_mul, wS (x := a) (by omega) (by omega)]
      rw [wS (x := 0) (by omega) (by omega), Int.zero_add, wS (x := p) (by omega) (by omega), wS (x := p * b) (by omega) (by omega), wS (x := p * b + q) (by omega) (by omega), wS (x := a * b) (by omega) (by omega)]
      exact hh
  · match pl, hl with
    | [p, q, r], _ =>
      simp only [isPl, Bool.and_true, Bool.and_eq_true, decide_eq_true_eq, wS (x := a - 1) (by omega) (by omega), wS (x := b - 1) (by omega) (by omega), wS (x := c - 1) (by omega) (by omega)] at hp
      have hh := horner (a := a) (b := b) hp.1.1 (by omega) hp.2.1.1 (by omega)
      have hpb := mul60 (a := p) (b := b) hp.1.1 (by omega) b0 b1
      have hab := mul60 a0 a1 b0 b1
      have hh2 := horner (a := a * b) (b := c) hh.1 hh.2 hp.2.2.1 (by omega)
      have habc := mul3600 hab.1 hab.2 c0 c1
      have hpc := mul3600 (a := p * b + q) (b := c) hh.1 (by omega) c0 c1
      simp only [offW, volW, volFrom, Int.zero_mul, Int.one_mul, wS (x := a) (by omega) (by omega)]
      rw [wS (x := 0) (by omega) (by omega), Int.zero_add, wS (x := p) (by omega) (by omega), wS (x := p * b) (by omega) (by omega), wS (x := p * b + q) (by omega) (by omega), wS (x := (p * b + q) * c) (by omega) (by omega), wS (x := (p * b + q) * c + r) (by omega) (by omega),
        wS (x := a * b) (by omega) (by omega), wS (x := a * b * c) (by omega) (by omega)]
      exact hh2
end Go.Ab
namespace Go.Ab
theorem validA_inv {sh da : List Int} (h : validA sh da = true) : validS sh = true ∧ ((da.length : Nat) : Int) = volW sh ∧ allB da (-1000000) 1000000 = true := by
  simp only [validA, Bool.and_eq_true, beq_iff_eq] at h
  exact ⟨h.1.1, h.1.2, h.2⟩
theorem validA_len {sh da : List Int} (h : validA sh da = true) : sh.length ≤ 3 ∧ da.length ≤ 60 := by
  obtain ⟨h1, h2, _⟩ := validA_inv h
  obtain ⟨h3, _, h4⟩ := validS_inv h1
  exact ⟨h3, by omega⟩
/-- A place of a valid array lies in its numbers. -/
theorem item_idx {sh da pl : List Int} (h : itemB sh da pl = true) : (offW sh pl 0).toNat < da.length ∧ idx (offW sh pl 0) da.length = some (offW sh pl 0).toNat ∧ offA sh da pl = offW sh pl 0 ∧ ¬ offA sh da pl < 0 := by
  simp only [itemB, Bool.and_eq_true] at h
  obtain ⟨h1, h2, _⟩ := validA_inv h.1
  obtain ⟨g1, g2⟩ := off_bd h1 h.2
  have e : offA sh da pl = offW sh pl 0 := by unfold offA offS; rw [h.1, h1, h.2]; rfl
  refine ⟨by omega, ?_, e, by omega⟩
  unfold idx
  rw [if_pos ⟨g1, by omega⟩]
theorem item_no {sh da pl : List Int} (h : itemB sh da pl = false) : offA sh da pl = -1 := by
  unfold offA offS
  unfold itemB at h
  cases hv : validA sh da with
  | false => rfl
  | true =>
    rw [hv] at h
    simp only [Bool.true_and] at h
    rw [h, Bool.and_false]
    rfl
end Go.Ab
namespace Go.Ab
theorem mark2_ok {xs ys : List Int} (h1 : xs.length ≤ 4398046511104) (h2 : ys.length ≤ 4398046511104) : decide (markK ys (markK xs 1) < 0) = false := by
  rw [markK_eq xs 1 (by omega) (by omega), markK_eq ys _ (by omega) (by omega)]
  exact decide_eq_false (by omega)
theorem mark3_ok {xs ys zs : List Int} (h1 : xs.length ≤ 4398046511104) (h2 : ys.length ≤ 4398046511104) (h3 : zs.length ≤ 4398046511104) : decide (markK zs (markK ys (markK xs 1)) < 0) = false := by
  rw [markK_eq xs 1 (by omega) (by omega), markK_eq ys _ (by omega) (by omega), markK_eq zs _ (by omega) (by omega)]
  exact decide_eq_false (by omega)
theorem with_len (sh da pl : List Int) (n : Int) : (withS sh da pl n).length ≤ 3 ∧ (withD sh da pl n).length ≤ 60 := by
  unfold withS withD
  cases h : withB sh da pl n with
  | false => simp
  | true =>
    simp only [withB, itemB, Bool.and_eq_true] at h
    obtain ⟨l1, l2⟩ := validA_len h.1.1
    simp
    omega
end Go.Ab
namespace Go.Ab
def limV (n : Int) : Int := minI (maxI n (-1000000)) 1000000
def tInt (b : Bool) : Int := bif b then 1 else 0
def absV (n : Int) : Int := maxI n (IntKind.wrap .i64 (0 - n))
def modV (a b : Int) : Int := Int.tmod (IntKind.wrap .i64 (Int.tmod a b + b)) b
def restV (d n : Int) : Int := bif decide (d ≤ 0) then n else modV n d
def opOk (op : Int) : Bool := decide (1 ≤ op) && decide (op ≤ 8)
def operF (op a b : Int) : Int :=
  bif op == 1 then limV (IntKind.wrap .i64 (a + b)) else bif op == 2 then limV (IntKind.wrap .i64 (a - b)) else bif op == 3 then limV (IntKind.wrap .i64 (a * b)) else bif op == 4 then minI a b else
  bif op == 5 then maxI a b else bif op == 6 then tInt (a == b) else bif op == 7 then tInt (decide (a < b)) else restV a b
def operV (op a b : Int) : Int := bif opOk op && (numB a && numB b) then operF op a b else 0
def neuF (op : Int) : Int := [0, 0, 1, 1000000, -1000000, 1, 0, 0].getD (op - 1).toNat 0
def neuV (op : Int) : Int := bif opOk op then neuF op else 0
theorem opOk_cases {op : Int} (h : opOk op = true) : op = 1 ∨ op = 2 ∨ op = 3 ∨ op = 4 ∨ op = 5 ∨ op = 6 ∨ op = 7 ∨ op = 8 := by
  simp only [opOk, Bool.and_eq_true, decide_eq_true_eq] at h
  omega
theorem opOk_no {op : Int} (h : opOk op = false) : op < 1 ∨ 8 < op := by
  simp only [opOk, Bool.and_eq_false_iff, decide_eq_false_iff_not] at h
  omega
theorem lim_spec (n : Int) : maxI (-1000000) (minI 1000000 n) = limV n := by
  unfold limV maxI minI
  repeat' split
  all_goals omega
theorem lim_bd (n : Int) : -1000000 ≤ limV n ∧ limV n ≤ 1000000 := by
  unfold limV maxI minI
  repeat' split
  all_goals omega
end Go.Ab
namespace Go.Ab
def bytesB (bs : List Int) : Bool := bs.all fun b => decide (0 ≤ b) && decide (b ≤ 255)
def rdOk (bs : List Int) (p : Int) : Bool := decide (0 ≤ p) && decide (p ≤ 1073741824) && decide (bs.length ≤ 2000) && bytesB bs
def cutC (bs : List Int) : List Int := bif decide (((bs.length : Nat) : Int) > 2000) then (bs.drop 0).take (2000 - 0) else bs
def mixX (v w k l : Int) : Int := IntKind.wrap .i64 (IntKind.wrap .i64 (IntKind.wrap .i64 (IntKind.wrap .i64 (IntKind.wrap .i64 v * 131) + IntKind.wrap .i64 (IntKind.wrap .i64 w * 1117)) + IntKind.wrap .i64 (k * 29)) + IntKind.wrap .i64 (IntKind.wrap .i64 (Int.tdiv k l) * 53))
def xorV (x : Int) : Int := IntKind.wrap .i64 ((BitVec.ofInt (IntKind.bits .i64) x ^^^ BitVec.ofInt (IntKind.bits .i64) (IntKind.wrap .i64 (Int.tdiv x 64))).toNat : Int)
def pickV (bs : List Int) (p n : Int) : Int :=
  bif decide (n < 1) then 0 else bif ((bs.length : Nat) : Int) == 0 then 0 else bif decide (p < ((bs.length : Nat) : Int)) then Int.tmod (IntKind.wrap .i64 (bs.getD p.toNat 0)) n else
  Int.tmod (xorV (mixX (bs.getD (Int.tmod p ((bs.length : Nat) : Int)).toNat 0) (bs.getD (Int.tmod (IntKind.wrap .i64 (IntKind.wrap .i64 (p * 7) + 3)) ((bs.length : Nat) : Int)).toNat 0) p ((bs.length : Nat) : Int))) n
def oneV (bs : List Int) (p : Int) (xs : List Int) : Int := xs.getD (pickV bs p ((xs.length : Nat) : Int)).toNat 0
def someL : List Int := [0, 1, 2, 3, -1, 5, 7, -4, 1000000, -1000000, 10, 1]
def anyNumV (bs : List Int) (p : Int) : Int := bif pickV bs p 12 == 0 then oneV bs (p + 1) [1000001, -1000001] else oneV bs (p + 1) someL
def anyOpV (bs : List Int) (p : Int) : Int := bif pickV bs p 16 == 0 then oneV bs (p + 1) [0, 9, -1] else IntKind.wrap .i64 (1 + pickV bs (p + 1) 8)
def dOp (bs : List Int) : Int := anyOpV (cutC bs) 0
def dA (bs : List Int) : Int := anyNumV (cutC bs) (0 + 2)
def dB (bs : List Int) : Int := anyNumV (cutC bs) (0 + 2 + 2)
def dNeu (bs : List Int) : Int := anyOpV (cutC bs) 0

theorem beq0 {n : Nat} (h : n ≠ 0) : (((n : Nat) : Int) == 0) = false := by simp [h]
theorem rdOk_inv {bs : List Int} {p : Int} (h : rdOk bs p = true) : 0 ≤ p ∧ p ≤ 1073741824 ∧ bs.length ≤ 2000 ∧ bytesB bs = true := by
  simp only [rdOk, Bool.and_eq_true, decide_eq_true_eq] at h
  exact ⟨h.1.1.1, h.1.1.2, h.1.2, h.2⟩
theorem bytes_get {bs : List Int} (h : bytesB bs = true) (i : Nat) : 0 ≤ bs.getD i 0 ∧ bs.getD i 0 ≤ 255 := by
  by_cases hi : i < bs.length
  · have := List.all_eq_true.1 h bs[i] (List.getElem_mem hi)
    simp only [Bool.and_eq_true, decide_eq_true_eq] at this
    simpa [hi] using this
  · simp [Nat.le_of_not_lt hi]
theorem bytes_take {bs : List Int} (h : bytesB bs = true) (n m : Nat) : bytesB ((bs.drop n).take m) = true := by
  unfold bytesB at *
  rw [List.all_eq_true] at *
  exact fun x hx => h x (List.mem_of_mem_drop (List.mem_of_mem_take hx))
theorem cut_ok {bs : List Int} (h : bytesB bs = true) {p : Int} (h0 : 0 ≤ p) (h1 : p ≤ 1073741824) : rdOk (cutC bs) p = true := by
  unfold rdOk cutC
  by_cases hl : ((bs.length : Nat) : Int) > 2000
  · rw [decide_eq_true hl, cond_true, bytes_take h, decide_eq_true h0, decide_eq_true h1, decide_eq_true (p := ((bs.drop 0).take (2000 - 0)).length ≤ 2000) (by simp; omega)]
    rfl
  · rw [decide_eq_false hl, cond_false, h, decide_eq_true h0, decide_eq_true h1, decide_eq_true (p := bs.length ≤ 2000) (by omega)]
    rfl
theorem tmod_bd {x n : Int} (hx : 0 ≤ x) (hn : 0 < n) : 0 ≤ Int.tmod x n ∧ Int.tmod x n < n := ⟨Int.tmod_nonneg n hx, Int.tmod_lt_of_pos x hn⟩
theorem xorV_nonneg {x : Int} (h0 : 0 ≤ x) (h1 : x < 1099511627776) : 0 ≤ xorV x := by
  unfold xorV
  have hy : 0 ≤ Int.tdiv x 64 ∧ Int.tdiv x 64 ≤ x := by
    rw [Int.tdiv_eq_ediv_of_nonneg h0]
    omega
  rw [wS (x := Int.tdiv x 64) (by omega) (by omega)]
  have hb : ∀ y : Int, 0 ≤ y → y < 1099511627776 → (BitVec.ofInt (IntKind.bits .i64) y).toNat < 2 ^ 40 := fun y g0 g1 => by
    rw [BitVec.toNat_ofInt]
    have : ((2 ^ IntKind.bits .i64 : Nat) : Int) = 18446744073709551616 := by rfl
    rw [this]
    omega
  have hx := Nat.xor_lt_two_pow (hb x h0 h1) (hb (Int.tdiv x 64) (by omega) (by omega))
  rw [BitVec.toNat_xor]
  generalize (BitVec.ofInt (IntKind.bits .i64) x).toNat ^^^ (BitVec.ofInt (IntKind.bits .i64) (Int.tdiv x 64)).toNat = z at hx
  rw [wS (x := (z : Int)) (by omega) (by omega)]
  omega
theorem mixX_bd {v w k l : Int} (hv : 0 ≤ v ∧ v ≤ 255) (hw : 0 ≤ w ∧ w ≤ 255) (hk : 0 ≤ k ∧ k ≤ 1073741824) (hl : 0 < l) : 0 ≤ mixX v w k l ∧ mixX v w k l < 1099511627776 := by
  unfold mixX
  have hq : 0 ≤ Int.tdiv k l ∧ Int.tdiv k l ≤ k := by
    rw [Int.tdiv_eq_ediv_of_nonneg hk.1]
    exact ⟨Int.ediv_nonneg hk.1 (by omega), Int.ediv_le_self _ hk.1⟩
  rw [wS (x := v) (by omega) (by omega), wS (x := w) (by omega) (by omega), wS (x := v * 131) (by omega) (by omega), wS (x := w * 1117) (by omega) (by omega), wS (x := v * 131 + w * 1117) (by omega) (by omega), wS (x := k * 29) (by omega) (by omega),
    wS (x := v * 131 + w * 1117 + k * 29) (by omega) (by omega), wS (x := Int.tdiv k l) (by omega) (by omega), wS (x := Int.tdiv k l * 53) (by omega) (by omega), wS (x := v * 131 + w * 1117 + k * 29 + Int.tdiv k l * 53) (by omega) (by omega)]
  omega
theorem pick_bd {bs : List Int} {p n : Int} (h : rdOk bs p = true) (hn : 1 ≤ n) : 0 ≤ pickV bs p n ∧ pickV bs p n < n := by
  obtain ⟨h0, h1, h2, h3⟩ := rdOk_inv h
  unfold pickV
  rw [decide_eq_false (p := n < 1) (by omega), cond_false]
  by_cases hL : bs.length = 0
  · rw [hL]; simp; omega
  · rw [beq0 hL, cond_false]
    by_cases hp : p < ((bs.length : Nat) : Int)
    · rw [decide_eq_true hp, cond_true]
      have := bytes_get h3 p.toNat
      rw [wS (x := bs.getD p.toNat 0) (by omega) (by omega)]
      exact tmod_bd this.1 (by omega)
    · rw [decide_eq_false hp, cond_false]
      have hm := mixX_bd (bytes_get h3 (Int.tmod p ((bs.length : Nat) : Int)).toNat) (bytes_get h3 (Int.tmod (IntKind.wrap .i64 (IntKind.wrap .i64 (p * 7) + 3)) ((bs.length : Nat) : Int)).toNat) ⟨h0, h1⟩ (show (0 : Int) < ((bs.length : Nat) : Int) by omega)
      exact tmod_bd (xorV_nonneg hm.1 hm.2) (by omega)
theorem getD_all {P : Int → Prop} {xs : List Int} (h0 : P 0) (h : ∀ x ∈ xs, P x) (i : Nat) : P (xs.getD i 0) := by
  by_cases hi : i < xs.length
  · simpa [hi] using h xs[i] (List.getElem_mem hi)
  · simpa [Nat.le_of_not_lt hi] using h0
theorem anyNum_bd (bs : List Int) (p : Int) : -1000001 ≤ anyNumV bs p ∧ anyNumV bs p ≤ 1000001 := by
  unfold anyNumV oneV
  cases pickV bs p 12 == 0
  · exact getD_all (P := fun x => -1000001 ≤ x ∧ x ≤ 1000001) (by omega) (by simp [someL]) _
  · exact getD_all (P := fun x => -1000001 ≤ x ∧ x ≤ 1000001) (by omega) (by simp) _
end Go.Ab
namespace Go.Ab
/-- The rest that is not negative. -/
theorem modV_eq {b a : Int} (ha : 0 < a) (ha2 : a ≤ 1000000) (hb : -4000001 ≤ b) (hb2 : b ≤ 4000001) : modV b a = b % a := by
  unfold modV
  have h1 : (Int.tmod b a).natAbs = b.natAbs % a.natAbs := Int.natAbs_tmod b a
  have h2 : b.natAbs % a.natAbs < a.natAbs := Nat.mod_lt _ (by omega)
  rw [wS (x := Int.tmod b a + a) (by omega) (by omega)]
  rw [Int.tmod_eq_emod_of_nonneg (by omega), Int.add_emod_right]
  have h3 : (Int.tmod b a) % a = b % a := by
    rw [Int.tmod_def, Int.sub_emod, Int.mul_emod_right, Int.sub_zero, Int.emod_emod_of_dvd _ (Int.dvd_refl a)]
  exact h3
theorem mul_bd {a b : Int} (ha : -1000000 ≤ a) (ha' : a ≤ 1000000) (hb : -1000000 ≤ b) (hb' : b ≤ 1000000) : -1000000000000 ≤ a * b ∧ a * b ≤ 1000000000000 := by
  have h : (a * b).natAbs = a.natAbs * b.natAbs := Int.natAbs_mul a b
  have h2 : a.natAbs * b.natAbs ≤ 1000000 * 1000000 := Nat.mul_le_mul (by omega) (by omega)
  omega
theorem numB_inv {v : Int} (h : numB v = true) : -1000000 ≤ v ∧ v ≤ 1000000 := by simpa [numB] using h
theorem numB_of {v : Int} (h : -1000000 ≤ v ∧ v ≤ 1000000) : numB v = true := by simp [numB, h]
/-- Results of functions are numbers. -/
theorem operF_bd {op a b : Int} (ho : opOk op = true) (ha : numB a = true) (hb : numB b = true) : -1000000 ≤ operF op a b ∧ operF op a b ≤ 1000000 := by
  have ha := numB_inv ha
  have hb := numB_inv hb
  rcases opOk_cases ho with rfl | rfl | rfl | rfl | rfl | rfl | rfl | rfl
  · exact lim_bd _
  · exact lim_bd _
  · exact lim_bd _
  · show -1000000 ≤ minI a b ∧ minI a b ≤ 1000000
    unfold minI; split <;> omega
  · show -1000000 ≤ maxI a b ∧ maxI a b ≤ 1000000
    unfold maxI; split <;> omega
  · show -1000000 ≤ tInt (a == b) ∧ tInt (a == b) ≤ 1000000
    unfold tInt; cases a == b <;> simp
  · show -1000000 ≤ tInt (decide (a < b)) ∧ tInt (decide (a < b)) ≤ 1000000
    unfold tInt; cases decide (a < b) <;> simp
  · show -1000000 ≤ restV a b ∧ restV a b ≤ 1000000
    unfold restV
    by_cases h : a ≤ 0
    · rw [decide_eq_true h]; exact hb
    · rw [decide_eq_false h, cond_false, modV_eq (by omega) ha.2 (by omega) (by omega)]
      have := Int.emod_nonneg b (show a ≠ 0 by omega)
      have := Int.emod_lt_of_pos b (show 0 < a by omega)
      omega
theorem operV_bd (op a b : Int) : -1000000 ≤ operV op a b ∧ operV op a b ≤ 1000000 := by
  unfold operV
  cases h : opOk op && (numB a && numB b) with
  | false => simp
  | true =>
    simp only [Bool.and_eq_true] at h
    exact operF_bd h.1 h.2.1 h.2.2
def evenOp (op : Int) : Bool := (op == 1) || (op == 3) || (op == 4) || (op == 5) || (op == 6)
theorem operV_comm {op : Int} (h : op = 1 ∨ op = 3 ∨ op = 4 ∨ op = 5 ∨ op = 6) (a b : Int) : operV op b a = operV op a b := by
  unfold operV
  rw [Bool.and_comm (numB b)]
  congr 1
  rcases h with rfl | rfl | rfl | rfl | rfl
  · show limV (IntKind.wrap .i64 (b + a)) = limV (IntKind.wrap .i64 (a + b)); rw [Int.add_comm]
  · show limV (IntKind.wrap .i64 (b * a)) = limV (IntKind.wrap .i64 (a * b)); rw [Int.mul_comm]
  · show minI b a = minI a b; unfold minI; split <;> split <;> omega
  · show maxI b a = maxI a b; unfold maxI; split <;> split <;> omega
  · show tInt (b == a) = tInt (a == b); rw [BEq.comm]
end Go.Ab
namespace Go.Ab
theorem bytes_of {bs : List Int} (h : ∀ n ∈ bs, 0 ≤ n ∧ n ≤ 255) : bytesB bs = true := by
  unfold bytesB
  rw [List.all_eq_true]
  intro x hx
  simp [h x hx]
end Go.Ab
namespace Go.Ab
def ravS (sh da : List Int) : List Int := bif validA sh da then [((da.length : Nat) : Int)] else []
def ravD (sh da : List Int) : List Int := bif validA sh da then da else []
def reD (sh da : List Int) : List Int := tab (volW sh).toNat fun i => da.getD (i % da.length) 0
def reshB (sh s2 da : List Int) : Bool := validS sh && validA s2 da
def reshS (sh s2 da : List Int) : List Int := bif reshB sh s2 da then sh else []
def reshD (sh s2 da : List Int) : List Int := bif reshB sh s2 da then reD sh da else []
def sgnV (n : Int) : Int := bif decide (n < 0) then -1 else bif decide (n > 0) then 1 else 0
def fnOk (fn : Int) : Bool := decide (1 ≤ fn) && decide (fn ≤ 4)
def mapF (fn n : Int) : Int := bif fn == 1 then IntKind.wrap .i64 (0 - n) else bif fn == 2 then absV n else bif fn == 3 then sgnV n else tInt (n == 0)
def mapB (fn : Int) (sh da : List Int) : Bool := fnOk fn && validA sh da
def mapS (fn : Int) (sh da : List Int) : List Int := bif mapB fn sh da then sh else []
def mapD (fn : Int) (sh da : List Int) : List Int := bif mapB fn sh da then tab da.length fun i => mapF fn (da.getD i 0) else []
theorem vecOk_of {sh da : List Int} (h : validA sh da = true) : vecOk da = true := by
  obtain ⟨_, _, h3⟩ := validA_inv h
  obtain ⟨_, l2⟩ := validA_len h
  simp [vecOk, l2, h3]
theorem vol_bd {sh : List Int} (h : validS sh = true) : 0 ≤ volW sh ∧ volW sh ≤ 60 := by
  have h3 := (validS_inv h).2.2
  refine ⟨?_, h3⟩
  rcases validS_cases h with rfl | ⟨a, rfl, a0, a1⟩ | ⟨a, b, rfl, a0, a1, b0, b1, v⟩ | ⟨a, b, c, rfl, a0, a1, b0, b1, c0, c1, v⟩
  · decide
  · simp only [volW, volFrom, Int.one_mul, wS (x := a) (by omega) (by omega)]; exact a0
  · have hm := mul60 a0 a1 b0 b1
    simp only [volW, volFrom, Int.one_mul, wS (x := a) (by omega) (by omega), wS (x := a * b) (by omega) (by omega)]; omega
  · have hm := mul60 a0 a1 b0 b1
    have hm3 := mul3600 hm.1 hm.2 c0 c1
    simp only [volW, volFrom, Int.one_mul, wS (x := a) (by omega) (by omega), wS (x := a * b) (by omega) (by omega), wS (x := a * b * c) (by omega) (by omega)]; omega
theorem rav_len (sh da : List Int) : (ravS sh da).length ≤ 1 ∧ (ravD sh da).length ≤ 60 := by
  unfold ravS ravD
  cases h : validA sh da with
  | false => simp
  | true => have := validA_len h; simp; omega
theorem resh_len (sh s2 da : List Int) : (reshS sh s2 da).length ≤ 3 ∧ (reshD sh s2 da).length ≤ 60 := by
  unfold reshS reshD
  cases h : reshB sh s2 da with
  | false => simp
  | true =>
    simp only [reshB, Bool.and_eq_true] at h
    have h1 := vol_bd h.1
    have h2 := (validS_inv h.1).1
    simp only [cond_true, reD, tab_length]
    omega
theorem map_len (fn : Int) (sh da : List Int) : (mapS fn sh da).length ≤ 3 ∧ (mapD fn sh da).length ≤ 60 := by
  unfold mapS mapD
  cases h : mapB fn sh da with
  | false => simp
  | true =>
    simp only [mapB, Bool.and_eq_true] at h
    have := validA_len h.2
    simp only [cond_true, tab_length]
    omega
theorem fnOk_cases {fn : Int} (h : fnOk fn = true) : fn = 1 ∨ fn = 2 ∨ fn = 3 ∨ fn = 4 := by
  simp only [fnOk, Bool.and_eq_true, decide_eq_true_eq] at h
  omega
theorem fnOk_no {fn : Int} (h : fnOk fn = false) : fn < 1 ∨ 4 < fn := by
  simp only [fnOk, Bool.and_eq_false_iff, decide_eq_false_iff_not] at h
  omega
end Go.Ab
namespace Go.Ab
def cmpV (x y : Int) : Int := bif decide (x < y) then -1 else bif decide (x > y) then 1 else 0
theorem sgn_cmp (n : Int) : cmpV n 0 = sgnV n := rfl
theorem sgn_sub (n : Int) : IntKind.wrap .i64 (tInt (decide (n > 0)) - tInt (decide (n < 0))) = sgnV n := by
  unfold sgnV tInt
  by_cases h : n < 0
  · rw [decide_eq_true h, decide_eq_false (p := n > 0) (by omega)]; rfl
  · rw [decide_eq_false h]
    cases decide (n > 0) <;> rfl
end Go.Ab
namespace Go.Ab
def fitB (s1 s2 : List Int) : Bool := bif decide (s1.length = 0) then true else bif decide (s2.length = 0) then true else decide (s1 = s2)
def cS (s1 s2 : List Int) : List Int := bif decide (s1.length = 0) then s2 else s1
def cD (op : Int) (s1 d1 s2 d2 : List Int) : List Int := tab (volW (cS s1 s2)).toNat fun i => operF op (d1.getD (min i (d1.length - 1)) 0) (d2.getD (min i (d2.length - 1)) 0)
def comB (op : Int) (s1 d1 s2 d2 : List Int) : Bool := opOk op && validA s1 d1 && validA s2 d2 && fitB s1 s2
def comS (op : Int) (s1 d1 s2 d2 : List Int) : List Int := bif comB op s1 d1 s2 d2 then cS s1 s2 else []
def comD (op : Int) (s1 d1 s2 d2 : List Int) : List Int := bif comB op s1 d1 s2 d2 then cD op s1 d1 s2 d2 else []
end Go.Ab
namespace Go.Ab
theorem re_get {da : List Int} {j : Nat} (hd : ((da.length : Nat) : Int) ≠ 0) : idx (Int.tmod (j : Int) ((da.length : Nat) : Int)) da.length = some (j % da.length) ∧ da[j % da.length]? = some (da.getD (j % da.length) 0) := by
  have hlt : j % da.length < da.length := Nat.mod_lt _ (by omega)
  have e : Int.tmod (j : Int) ((da.length : Nat) : Int) = ((j % da.length : Nat) : Int) := by
    rw [Int.tmod_eq_emod_of_nonneg (by omega)]
    rfl
  rw [e, idx_nat hlt]
  exact ⟨rfl, by simp [hlt]⟩
theorem szA_le {sh da : List Int} {k : Int} (k0 : 0 ≤ k) (k1 : k ≤ 1048576) (h1 : sh.length < 9223372036854775808) (h2 : da.length < 9223372036854775808) (h : ¬ szA sh da k < 0) : ((sh.length : Nat) : Int) + ((da.length : Nat) : Int) ≤ k ∧ szA sh da k = k - ((sh.length : Nat) : Int) - ((da.length : Nat) : Int) := by
  unfold szA at h ⊢
  rw [szI_small (by omega) (by omega) h1] at h ⊢
  by_cases ha : k < ((sh.length : Nat) : Int)
  · simp [ha] at h
  · simp only [ha, decide_false, cond_false] at h ⊢
    have hneg : ¬ (k - ((sh.length : Nat) : Int) < 0) := by omega
    rw [szI_small (by omega) (by omega) h2] at h ⊢
    by_cases hb : (k - ((sh.length : Nat) : Int)) < ((da.length : Nat) : Int)
    · simp only [hb, decide_true, cond_true] at h
      simp [hneg] at h
    · have hneg2 : ¬ (k - ((sh.length : Nat) : Int) - ((da.length : Nat) : Int) < 0) := by omega
      simp only [hb, hneg, hneg2, decide_false, cond_false]
      exact ⟨by omega, trivial⟩
theorem mark4_ok {xs ys zs ws : List Int} (h1 : xs.length ≤ 1099511627776) (h2 : ys.length ≤ 1099511627776) (h3 : zs.length ≤ 1099511627776) (h4 : ws.length ≤ 1099511627776) : decide (markK ws (markK zs (markK ys (markK xs 1))) < 0) = false := by
  rw [markK_eq xs 1 (by omega) (by omega), markK_eq ys _ (by omega) (by omega), markK_eq zs _ (by omega) (by omega), markK_eq ws _ (by omega) (by omega)]
  exact decide_eq_false (by omega)
theorem len0 {xs : List Int} : (((xs.length : Nat) : Int) == 0) = decide (xs.length = 0) := by
  by_cases h : xs.length = 0
  · simp [h]
  · rw [decide_eq_false h]
    simpa using h
theorem rep_len (n : Nat) : (List.replicate ((n : Nat) : Int).toNat (0 : Int)).length = n := by simp
theorem sc_len {d : List Int} (h : validA [] d = true) : d.length = 1 := by
  have := (validA_inv h).2.1
  have e : volW [] = 1 := rfl
  omega
theorem vol_len {sh da : List Int} (h : validA sh da = true) : (volW sh).toNat = da.length := by
  have := (validA_inv h).2.1
  omega
theorem resh_sc {sh s2 da d : List Int} (h : validA [] d = true) (hs : validA s2 da = true) (e : sh = []) : reshS s2 sh d = s2 ∧ reshD s2 sh d = tab da.length fun _ => d.getD 0 0 := by
  subst e
  have hv := (validA_inv hs).1
  refine ⟨by simp [reshS, reshB, h, hv], ?_⟩
  simp only [reshD, reshB, h, hv, Bool.and_self, cond_true, reD, vol_len hs, sc_len h, Nat.mod_one]
theorem cD_a (op : Int) {d1 s2 d2 : List Int} (h1 : validA [] d1 = true) (h2 : validA s2 d2 = true) : tab d2.length (fun i => operF op ((reshD s2 [] d1).getD i 0) (d2.getD i 0)) = cD op [] d1 s2 d2 := by
  rw [(resh_sc h1 h2 rfl).2]
  simp only [cD, cS, List.length_nil, decide_true, cond_true, vol_len h2]
  refine tab_congr fun i hi => ?_
  rw [tab_getD hi, sc_len h1, show min i (d2.length - 1) = i by omega, show min i (1 - 1) = 0 by omega]
theorem cD_b (op : Int) {s1 d1 d2 : List Int} (h1 : validA s1 d1 = true) (h2 : validA [] d2 = true) (hn : s1.length ≠ 0) : tab d1.length (fun i => operF op (d1.getD i 0) ((reshD s1 [] d2).getD i 0)) = cD op s1 d1 [] d2 := by
  rw [(resh_sc h2 h1 rfl).2]
  simp only [cD, cS, decide_eq_false hn, cond_false, vol_len h1]
  refine tab_congr fun i hi => ?_
  rw [tab_getD hi, sc_len h2, show min i (d1.length - 1) = i by omega, show min i (1 - 1) = 0 by omega]
theorem cD_c (op : Int) {s1 d1 d2 : List Int} (h1 : validA s1 d1 = true) (h2 : validA s1 d2 = true) (hn : s1.length ≠ 0) : tab d1.length (fun i => operF op (d1.getD i 0) (d2.getD i 0)) = cD op s1 d1 s1 d2 := by
  have e1 := vol_len h1
  have e2 := vol_len h2
  simp only [cD, cS, decide_eq_false hn, cond_false, e1]
  refine tab_congr fun i hi => ?_
  rw [show min i (d1.length - 1) = i by omega, show min i (d2.length - 1) = i by omega]
theorem com_len (op : Int) (s1 d1 s2 d2 : List Int) : (comS op s1 d1 s2 d2).length ≤ 3 ∧ (comD op s1 d1 s2 d2).length ≤ 60 := by
  unfold comS comD
  cases h : comB op s1 d1 s2 d2 with
  | false => simp
  | true =>
    simp only [comB, Bool.and_eq_true] at h
    have l1 := validA_len h.1.1.2
    have l2 := validA_len h.1.2
    have e1 := vol_len h.1.1.2
    have e2 := vol_len h.1.2
    simp only [cond_true, cD, tab_length, cS]
    cases decide (s1.length = 0) <;> simp <;> omega
end Go.Ab
namespace Go.Ab
def sShV (bs : List Int) (p : Int) : List Int :=
  bif pickV bs p 8 == 0 then [] else
  bif pickV bs p 8 == 1 then [pickV bs (p + 1) 7] else bif pickV bs p 8 == 2 then [pickV bs (p + 1) 7] else bif pickV bs p 8 == 3 then [pickV bs (p + 1) 7] else
  bif pickV bs p 8 == 4 then [pickV bs (p + 1) 5, pickV bs (p + 1 + 1) 5] else bif pickV bs p 8 == 5 then [pickV bs (p + 1) 5, pickV bs (p + 1 + 1) 5] else bif pickV bs p 8 == 6 then [pickV bs (p + 1) 5, pickV bs (p + 1 + 1) 5] else
  [pickV bs (p + 1) 4, pickV bs (p + 1 + 1) 4, pickV bs (p + 1 + 1 + 1) 4]
def sShP (bs : List Int) (p : Int) : Int :=
  bif pickV bs p 8 == 0 then p + 1 else
  bif pickV bs p 8 == 1 then p + 1 + 1 else bif pickV bs p 8 == 2 then p + 1 + 1 else bif pickV bs p 8 == 3 then p + 1 + 1 else
  bif pickV bs p 8 == 4 then p + 1 + 1 + 1 else bif pickV bs p 8 == 5 then p + 1 + 1 + 1 else bif pickV bs p 8 == 6 then p + 1 + 1 + 1 else p + 1 + 1 + 1 + 1
def aShV (bs : List Int) (p : Int) : List Int :=
  bif pickV bs (sShP bs p) 24 == 0 then sShV bs p ++ [61] else bif pickV bs (sShP bs p) 24 == 1 then [4, 4, 4] else bif pickV bs (sShP bs p) 24 == 2 then [1, 1, 1, 1] else
  bif pickV bs (sShP bs p) 24 == 3 then sShV bs p ++ [-1] else sShV bs p
def fillV (bs : List Int) (p : Int) (sh : List Int) : List Int := tab (volW sh).toNat fun i => oneV bs (p + ((i : Nat) : Int)) someL
def sDaV (bs : List Int) (p : Int) : List Int := fillV bs (sShP bs p) (sShV bs p)
def sDaP (bs : List Int) (p : Int) : Int := sShP bs p + volW (sShV bs p)
theorem rd_le {bs : List Int} {p q : Int} (h : rdOk bs p = true) (h1 : p ≤ q) (h2 : q ≤ 1073741824) : rdOk bs q = true := by
  simp only [rdOk, Bool.and_eq_true, decide_eq_true_eq] at h ⊢
  exact ⟨⟨⟨by omega, h2⟩, h.1.2⟩, h.2⟩
theorem sShP_bd (bs : List Int) (p : Int) : p + 1 ≤ sShP bs p ∧ sShP bs p ≤ p + 4 := by
  unfold sShP
  cases pickV bs p 8 == 0 <;> cases pickV bs p 8 == 1 <;> cases pickV bs p 8 == 2 <;> cases pickV bs p 8 == 3 <;> cases pickV bs p 8 == 4 <;> cases pickV bs p 8 == 5 <;> cases pickV bs p 8 == 6 <;> simp only [cond_true, cond_false] <;> omega
theorem vS1 {a : Int} (a0 : 0 ≤ a) (a1 : a < 7) : validS [a] = true := by
  have e : volW [a] = a := by simp only [volW, volFrom, Int.one_mul, wS (x := a) (by omega) (by omega)]
  simp only [validS, e, allB_cons, allB_nil, decide_eq_true (p := (0 : Int) ≤ a) a0, decide_eq_true (p := a ≤ 60) (by omega)]
  rfl
theorem vS2 {a b : Int} (a0 : 0 ≤ a) (a1 : a < 5) (b0 : 0 ≤ b) (b1 : b < 5) : validS [a, b] = true := by
  have hm : 0 ≤ a * b ∧ a * b ≤ 16 := ⟨Int.mul_nonneg a0 b0, Int.le_trans (Int.mul_le_mul (show a ≤ 4 by omega) (show b ≤ 4 by omega) b0 (by omega)) (by omega)⟩
  have e : volW [a, b] = a * b := by simp only [volW, volFrom, Int.one_mul, wS (x := a) (by omega) (by omega), wS (x := a * b) (by omega) (by omega)]
  simp only [validS, e, allB_cons, allB_nil, decide_eq_true (p := (0 : Int) ≤ a) a0, decide_eq_true (p := a ≤ 60) (by omega), decide_eq_true (p := (0 : Int) ≤ b) b0, decide_eq_true (p := b ≤ 60) (by omega), decide_eq_true (p := a * b ≤ 60) (by omega)]
  rfl
theorem vS3 {a b c : Int} (a0 : 0 ≤ a) (a1 : a < 4) (b0 : 0 ≤ b) (b1 : b < 4) (c0 : 0 ≤ c) (c1 : c < 4) : validS [a, b, c] = true := by
  have hm : 0 ≤ a * b ∧ a * b ≤ 9 := ⟨Int.mul_nonneg a0 b0, Int.le_trans (Int.mul_le_mul (show a ≤ 3 by omega) (show b ≤ 3 by omega) b0 (by omega)) (by omega)⟩
  have hm3 : 0 ≤ a * b * c ∧ a * b * c ≤ 27 := ⟨Int.mul_nonneg hm.1 c0, Int.le_trans (Int.mul_le_mul hm.2 (show c ≤ 3 by omega) c0 (by omega)) (by omega)⟩
  have e : volW [a, b, c] = a * b * c := by simp only [volW, volFrom, Int.one_mul, wS (x := a) (by omega) (by omega), wS (x := a * b) (by omega) (by omega), wS (x := a * b * c) (by omega) (by omega)]
  simp only [validS, e, allB_cons, allB_nil, decide_eq_true (p := (0 : Int) ≤ a) a0, decide_eq_true (p := a ≤ 60) (by omega), decide_eq_true (p := (0 : Int) ≤ b) b0, decide_eq_true (p := b ≤ 60) (by omega), decide_eq_true (p := (0 : Int) ≤ c) c0, decide_eq_true (p := c ≤ 60) (by omega), decide_eq_true (p := a * b * c ≤ 60) (by omega)]
  rfl
theorem sShV_ok {bs : List Int} {p : Int} (h : rdOk bs p = true) (hp : p ≤ 2000000) : validS (sShV bs p) = true := by
  have r1 := rd_le (q := p + 1) h (by omega) (by omega)
  have r2 := rd_le (q := p + 1 + 1) h (by omega) (by omega)
  have r3 := rd_le (q := p + 1 + 1 + 1) h (by omega) (by omega)
  have a7 := pick_bd (n := 7) r1 (by omega)
  have a5 := pick_bd (n := 5) r1 (by omega)
  have b5 := pick_bd (n := 5) r2 (by omega)
  have a4 := pick_bd (n := 4) r1 (by omega)
  have b4 := pick_bd (n := 4) r2 (by omega)
  have c4 := pick_bd (n := 4) r3 (by omega)
  have x1 := vS1 a7.1 a7.2
  have x2 := vS2 a5.1 a5.2 b5.1 b5.2
  have x3 := vS3 a4.1 a4.2 b4.1 b4.2 c4.1 c4.2
  unfold sShV
  cases pickV bs p 8 == 0 <;> cases pickV bs p 8 == 1 <;> cases pickV bs p 8 == 2 <;> cases pickV bs p 8 == 3 <;> cases pickV bs p 8 == 4 <;> cases pickV bs p 8 == 5 <;> cases pickV bs p 8 == 6 <;> simp only [cond_true, cond_false] <;> first | assumption | rfl
end Go.Ab
namespace Go.Ab
/-- A loop that counts: either it ends with the result, or it goes on with the next number. -/
theorem cnt_loop {σ ρ : Type} {N : Nat} {r : ρ} (L : Nat → Nat → σ → ρ) (I : Nat → σ → Prop) (hend : ∀ n s, I N s → L (n + 1) N s = r)
    (hstep : ∀ n j s, j < N → I j s → L (n + 1) j s = r ∨ ∃ s', I (j + 1) s' ∧ L (n + 1) j s = L n (j + 1) s') : ∀ (n j : Nat) (s : σ), j ≤ N → N - j < n → I j s → L n j s = r := by
  intro n j s hj hn hi
  induction h : N - j generalizing n j s with
  | zero =>
    obtain ⟨n, rfl⟩ : ∃ n', n = n' + 1 := ⟨n - 1, by omega⟩
    obtain rfl : j = N := by omega
    exact hend n s hi
  | succ m ih =>
    obtain ⟨n, rfl⟩ : ∃ n', n = n' + 1 := ⟨n - 1, by omega⟩
    rcases hstep n j s (by omega) hi with he | ⟨s', hi', he⟩
    · exact he
    · rw [he]
      exact ih n (j + 1) s' (by omega) (by omega) hi' (by omega)
/-- The same with a step that always goes on. -/
theorem run_loop {σ ρ : Type} {N : Nat} {r : ρ} (L : Nat → Nat → σ → ρ) (I : Nat → σ → Prop) (hend : ∀ n s, I N s → L (n + 1) N s = r)
    (hstep : ∀ n j s, j < N → I j s → ∃ s', I (j + 1) s' ∧ L (n + 1) j s = L n (j + 1) s') : ∀ (n j : Nat) (s : σ), j ≤ N → N - j < n → I j s → L n j s = r :=
  cnt_loop L I hend fun n j s h1 h2 => .inr (hstep n j s h1 h2)

def prodN : List Int → Nat
  | [] => 1
  | x :: xs => x.toNat * prodN xs
theorem prodN_append (xs ys : List Int) : prodN (xs ++ ys) = prodN xs * prodN ys := by
  induction xs with
  | nil => simp [prodN]
  | cons x xs ih => simp [prodN, ih, Nat.mul_assoc]
theorem allB_iff {xs : List Int} {lo hi : Int} : allB xs lo hi = true ↔ ∀ v ∈ xs, lo ≤ v ∧ v ≤ hi := by
  unfold allB
  rw [List.all_eq_true]
  constructor
  · intro h v hv
    have := h v hv
    simpa using this
  · intro h v hv
    simpa using h v hv
theorem prodN_le {xs : List Int} (h : allB xs 0 60 = true) : prodN xs ≤ 60 ^ xs.length := by
  induction xs with
  | nil => simp [prodN]
  | cons x xs ih =>
    rw [allB_iff] at h
    have h1 := h x (by simp)
    have h2 := ih (allB_iff.2 fun v hv => h v (by simp [hv]))
    simp only [prodN, List.length_cons, Nat.pow_succ]
    rw [Nat.mul_comm]
    exact Nat.mul_le_mul h2 (by omega)
theorem pow60 {n : Nat} (h : n ≤ 3) : 60 ^ n ≤ 216000 := by
  match n, h with
  | 0, _ | 1, _ | 2, _ | 3, _ => decide
theorem volFrom_prod {xs : List Int} (h : allB xs 0 60 = true) : ∀ n : Nat, n * prodN xs ≤ 1000000000 → n * 60 ^ xs.length ≤ 1000000000 → volFrom xs (n : Int) = ((n * prodN xs : Nat) : Int) := by
  induction xs with
  | nil => intro n _ _; simp [volFrom, prodN]
  | cons x xs ih =>
    intro n hn hp
    have ha := allB_iff.1 h
    have h1 := ha x (by simp)
    have h2 : allB xs 0 60 = true := allB_iff.2 fun v hv => ha v (by simp [hv])
    have e : (n : Int) * x = ((n * x.toNat : Nat) : Int) := by
      rw [Int.natCast_mul, Int.toNat_of_nonneg h1.1]
    have hx : n * x.toNat ≤ n * 60 := Nat.mul_le_mul_left _ (by omega)
    have h60 : 1 ≤ 60 ^ xs.length := Nat.one_le_pow _ _ (by omega)
    have hb : n * 60 ≤ 1000000000 := by
      simp only [List.length_cons, Nat.pow_succ] at hp
      have : n * 60 * 1 ≤ n * 60 * 60 ^ xs.length := Nat.mul_le_mul_left _ h60
      have e2 : n * (60 ^ xs.length * 60) = n * 60 * 60 ^ xs.length := by rw [Nat.mul_comm (60 ^ xs.length), Nat.mul_assoc]
      omega
    simp only [volFrom, prodN]
    rw [e, wS (by omega) (by omega), ih h2 (n * x.toNat) (by rw [Nat.mul_assoc]; exact hn) ?_, Nat.mul_assoc]
    simp only [List.length_cons, Nat.pow_succ] at hp
    have : n * x.toNat * 60 ^ xs.length ≤ n * 60 * 60 ^ xs.length := Nat.mul_le_mul_right _ hx
    have e2 : n * (60 ^ xs.length * 60) = n * 60 * 60 ^ xs.length := by rw [Nat.mul_comm (60 ^ xs.length), Nat.mul_assoc]
    omega
/-- Volumes without wraps. -/
theorem vol_prod {xs : List Int} (h : allB xs 0 60 = true) (hl : xs.length ≤ 3) : volW xs = ((prodN xs : Nat) : Int) := by
  have h1 := pow60 hl
  have h2 := prodN_le h
  have := volFrom_prod h 1 (by omega) (by omega)
  simpa [volW] using this
theorem allB_take {xs : List Int} {lo hi : Int} (k : Nat) (h : allB xs lo hi = true) : allB (xs.take k) lo hi = true := allB_iff.2 fun v hv => allB_iff.1 h v (List.mem_of_mem_take hv)
theorem allB_drop {xs : List Int} {lo hi : Int} (k : Nat) (h : allB xs lo hi = true) : allB (xs.drop k) lo hi = true := allB_iff.2 fun v hv => allB_iff.1 h v (List.mem_of_mem_drop hv)
theorem allB_append {xs ys : List Int} {lo hi : Int} (h : allB xs lo hi = true) (h2 : allB ys lo hi = true) : allB (xs ++ ys) lo hi = true := allB_iff.2 fun v hv => by
  rcases List.mem_append.1 hv with h' | h'
  · exact allB_iff.1 h v h'
  · exact allB_iff.1 h2 v h'
/-- An axis of a shape. -/
def axOk (sh : List Int) (k : Int) : Bool := decide (0 ≤ k) && decide (k < ((sh.length : Nat) : Int))
def axB (sh da : List Int) (k : Int) : Bool := validA sh da && axOk sh k
def axL (sh da : List Int) (k : Int) : Int := bif axB sh da k then sh.getD k.toNat 0 else 0
/-- The sizes before, along and behind an axis. -/
def befN (sh : List Int) (k : Nat) : Nat := prodN (sh.take k)
def lenN (sh : List Int) (k : Nat) : Nat := (sh.getD k 0).toNat
def behN (sh : List Int) (k : Nat) : Nat := prodN (sh.drop (k + 1))
theorem split_ax {sh : List Int} {k : Nat} (hk : k < sh.length) : sh = sh.take k ++ sh.getD k 0 :: sh.drop (k + 1) := by
  have e : sh.drop k = sh.getD k 0 :: sh.drop (k + 1) := by
    rw [dropS hk]; simp [hk]
  conv => lhs; rw [← List.take_append_drop k sh, e]
theorem prodN_ax {sh : List Int} {k : Nat} (hk : k < sh.length) : prodN sh = befN sh k * lenN sh k * behN sh k := by
  conv => lhs; rw [split_ax hk]
  rw [prodN_append]
  simp only [prodN, befN, lenN, behN, Nat.mul_assoc]
structure Ax (sh : List Int) (k : Nat) : Prop where
  lt : k < sh.length
  rank : sh.length ≤ 3
  bnd : allB sh 0 60 = true
  bef : volW (sh.take k) = ((befN sh k : Nat) : Int)
  len : sh.getD k 0 = ((lenN sh k : Nat) : Int)
  beh : volW (sh.drop (k + 1)) = ((behN sh k : Nat) : Int)
  vol : volW sh = ((befN sh k * lenN sh k * behN sh k : Nat) : Int)
  le : befN sh k * lenN sh k * behN sh k ≤ 60
  bef_le : befN sh k ≤ 3600
  len_le : lenN sh k ≤ 60
  beh_le : behN sh k ≤ 3600
theorem allB_get {sh : List Int} {lo hi : Int} (h : allB sh lo hi = true) {k : Nat} (hk : k < sh.length) : lo ≤ sh.getD k 0 ∧ sh.getD k 0 ≤ hi := by
  have := allB_iff.1 h sh[k] (List.getElem_mem hk)
  simpa [hk] using this
theorem prod2 {xs : List Int} (h : allB xs 0 60 = true) (hl : xs.length ≤ 2) : prodN xs ≤ 3600 := by
  have h1 := prodN_le h
  have : 60 ^ xs.length ≤ 3600 := by
    match xs.length, hl with
    | 0, _ | 1, _ | 2, _ => decide
  omega
theorem ax_of {sh : List Int} {k : Nat} (h : validS sh = true) (hk : k < sh.length) : Ax sh k := by
  obtain ⟨h1, h2, h3⟩ := validS_inv h
  have h4 := vol_prod h2 h1
  have h5 := prodN_ax hk
  have h6 := allB_get h2 hk
  refine ⟨hk, h1, h2, vol_prod (allB_take _ h2) (by simp; omega), ?_, vol_prod (allB_drop _ h2) (by simp; omega), ?_, ?_, prod2 (allB_take _ h2) (by simp; omega), ?_, prod2 (allB_drop _ h2) (by simp; omega)⟩
  · simp only [lenN]; omega
  · rw [h4, h5]
  · rw [h4] at h3; omega
  · simp only [lenN]; omega
theorem ax_data {sh da : List Int} {k : Nat} (h : validA sh da = true) (hk : k < sh.length) : da.length = befN sh k * lenN sh k * behN sh k := by
  have h1 := (ax_of (validA_inv h).1 hk).vol
  have h2 := (validA_inv h).2.1
  omega
/-- A cut in front, and one behind. -/
theorem cut_hi {n k : Nat} (h : k ≤ n) : cutEnds n none (some (.imm (.int .i64 (k : Int)))) = some (0, k) := by
  have : (0 : Int) ≤ (k : Int) ∧ (k : Int) ≤ (n : Int) := by omega
  simp [cutEnds, h]
theorem cut_lo {n k : Nat} (h : k ≤ n) : cutEnds n (some (.imm (.int .i64 (k : Int)))) none = some (k, n) := by
  simp [cutEnds, h]
theorem drop_take {xs : List Int} {k : Nat} : (xs.drop k).take (xs.length - k) = xs.drop k := List.take_of_length_le (by simp)
theorem axOk_nat {sh : List Int} {k : Int} (h : axOk sh k = true) : k = ((k.toNat : Nat) : Int) ∧ k.toNat < sh.length := by
  simp only [axOk, Bool.and_eq_true, decide_eq_true_eq] at h
  omega
theorem mulb {a b A B : Int} (h1 : 0 ≤ a) (h2 : a ≤ A) (h3 : 0 ≤ b) (h4 : b ≤ B) : 0 ≤ a * b ∧ a * b ≤ A * B :=
  ⟨Int.mul_nonneg h1 h3, Int.mul_le_mul h2 h4 h3 (by omega)⟩
theorem wN {n : Nat} (h : n ≤ 9223372036854775807) : IntKind.wrap .i64 (n : Int) = (n : Int) := wS (by omega) (by omega)
theorem wMul {a b : Nat} (h : a * b ≤ 9223372036854775807) : IntKind.wrap .i64 ((a : Int) * (b : Int)) = ((a * b : Nat) : Int) := by
  rw [← Int.natCast_mul, wN h]
theorem wAdd {a b : Nat} (h : a + b ≤ 9223372036854775807) : IntKind.wrap .i64 ((a : Int) + (b : Int)) = ((a + b : Nat) : Int) := by
  rw [← Int.natCast_add, wN h]
theorem wIdx {b L p M m : Nat} (h1 : b * L + p ≤ 1000000000) (h2 : (b * L + p) * M + m ≤ 1000000000) : IntKind.wrap .i64 (IntKind.wrap .i64 (IntKind.wrap .i64 (IntKind.wrap .i64 ((b : Int) * (L : Int)) + (p : Int)) * (M : Int)) + (m : Int)) = (((b * L + p) * M + m : Nat) : Int) := by
  rw [wMul (by omega), wAdd (by omega), wMul (by omega), wAdd (by omega)]
theorem dec3 {n B L M : Nat} (h : n < B * L * M) : n / M / L < B ∧ n / M % L < L ∧ n % M < M ∧ (n / M / L * L + n / M % L) * M + n % M = n := by
  have hM : 0 < M := Nat.pos_of_ne_zero fun e => by subst e; simp at h
  have hL : 0 < L := Nat.pos_of_ne_zero fun e => by subst e; simp at h
  have h1 : n / M < B * L := (Nat.div_lt_iff_lt_mul hM).2 h
  refine ⟨(Nat.div_lt_iff_lt_mul hL).2 h1, Nat.mod_lt _ hL, Nat.mod_lt _ hM, ?_⟩
  have e1 : n / M / L * L + n / M % L = n / M := by rw [Nat.mul_comm]; exact Nat.div_add_mod _ _
  rw [e1, Nat.mul_comm]; exact Nat.div_add_mod _ _
theorem enc3 {b i m B L M : Nat} (hb : b < B) (hi : i < L) (hm : m < M) : (b * L + i) * M + m < B * L * M ∧ ((b * L + i) * M + m) / M / L = b ∧ ((b * L + i) * M + m) / M % L = i ∧ ((b * L + i) * M + m) % M = m := by
  obtain ⟨h1, h2⟩ := divmod (a := b * L + i) hm
  obtain ⟨h3, h4⟩ := divmod (a := b) hi
  refine ⟨?_, by rw [h1, h3], by rw [h1, h4], h2⟩
  have a1 : b * L + i < B * L := by
    have : (b + 1) * L ≤ B * L := Nat.mul_le_mul_right _ hb
    rw [Nat.add_mul, Nat.one_mul] at this
    omega
  have : (b * L + i + 1) * M ≤ B * L * M := Nat.mul_le_mul_right _ a1
  rw [Nat.add_mul, Nat.one_mul] at this
  omega
/-- Two lists with the same numbers at all places of three axes. -/
theorem ext3 {B L M : Nat} {xs ys : List Int} (hx : xs.length = B * L * M) (hy : ys.length = B * L * M) (h : ∀ b i m, b < B → i < L → m < M → xs.getD ((b * L + i) * M + m) 0 = ys.getD ((b * L + i) * M + m) 0) : xs = ys := by
  apply List.ext_getElem (by rw [hx, hy])
  intro n h1 h2
  obtain ⟨d1, d2, d3, d4⟩ := dec3 (hx ▸ h1)
  have := h _ _ _ d1 d2 d3
  rw [d4] at this
  simpa [h1, h2] using this
def atV (L M : Nat) (da : List Int) (b : Nat) (p : Int) (m : Nat) : Int := bif decide (0 ≤ p) then da.getD ((b * L + p.toNat) * M + m) 0 else 0
/-- An array whose axis has other places. -/
def alD (B L M : Nat) (da ls : List Int) : List Int := tab (B * ls.length * M) fun n => atV L M da (n / M / ls.length) (ls.getD (n / M % ls.length) 0) (n % M)
theorem alD_length (B L M : Nat) (da ls : List Int) : (alD B L M da ls).length = B * ls.length * M := tab_length _ _
theorem alD_get {B L M : Nat} {da ls : List Int} {b i m : Nat} (hb : b < B) (hi : i < ls.length) (hm : m < M) : (alD B L M da ls).getD ((b * ls.length + i) * M + m) 0 = atV L M da b (ls.getD i 0) m := by
  obtain ⟨h1, h2, h3, h4⟩ := enc3 hb hi hm
  unfold alD
  rw [tab_getD h1, h2, h3, h4]
/-- Places of places. -/
theorem alD_alD {B L M : Nat} {da ls js : List Int} (hj : ∀ j ∈ js, j < ls.length) : alD B ls.length M (alD B L M da ls) js = alD B L M da (js.map fun j => bif decide (0 ≤ j) then ls.getD j.toNat 0 else -1) := by
  refine ext3 (B := B) (L := js.length) (M := M) (alD_length _ _ _ _ _) (by rw [alD_length]; simp) fun b i m hb hi hm => ?_
  rw [alD_get hb hi hm]
  have h2 := alD_get (L := L) (da := da) (ls := js.map fun j => bif decide (0 ≤ j) then ls.getD j.toNat 0 else -1) hb (show i < _ by simpa using hi) hm
  simp only [List.length_map] at h2
  rw [h2]
  have hji : js.getD i 0 < ls.length := by
    have := hj js[i] (List.getElem_mem hi)
    simpa [hi] using this
  have e : (js.map fun j => bif decide (0 ≤ j) then ls.getD j.toNat 0 else -1).getD i 0 = bif decide (0 ≤ js.getD i 0) then ls.getD (js.getD i 0).toNat 0 else -1 := by simp [hi]
  rw [e]
  unfold atV
  by_cases h0 : 0 ≤ js.getD i 0
  · simp only [decide_eq_true h0, cond_true]
    rw [alD_get hb (by omega) hm]
    rfl
  · simp only [decide_eq_false h0, cond_false]
    rfl
/-- All places in order change nothing. -/
theorem alD_id {B L M : Nat} {da : List Int} (h : da.length = B * L * M) {ls : List Int} (hl : ls.length = L) (hi : ∀ i, i < L → ls.getD i 0 = (i : Int)) : alD B L M da ls = da := by
  subst hl
  refine ext3 (alD_length _ _ _ _ _) h fun b i m hb hi' hm => ?_
  rw [alD_get hb hi' hm, hi i hi']
  simp [atV]
end Go.Ab
namespace Go.Ab
def alS (sh : List Int) (k : Int) (ls : List Int) : List Int := sh.set k.toNat ((ls.length : Nat) : Int)
def alA (sh da : List Int) (k : Int) (ls : List Int) : List Int := alD (befN sh k.toNat) (lenN sh k.toNat) (behN sh k.toNat) da ls
/-- Places that an axis may have. -/
def alP (sh : List Int) (k : Int) (ls : List Int) : Bool := validS (alS sh k ls) && ls.all fun p => decide (p < ((lenN sh k.toNat : Nat) : Int))
end Go.Ab
namespace Go.Ab
theorem bef_set {sh : List Int} {k : Nat} {v : Int} : befN (sh.set k v) k = befN sh k := by
  unfold befN
  rw [List.take_set, List.set_eq_of_length_le (by simp; omega)]
theorem beh_set {sh : List Int} {k : Nat} {v : Int} : behN (sh.set k v) k = behN sh k := by
  have : (sh.set k v).drop (k + 1) = sh.drop (k + 1) := List.drop_set_of_lt (by omega)
  simp [behN, this]
theorem len_set {sh : List Int} {k : Nat} {v : Int} (hk : k < sh.length) : lenN (sh.set k v) k = v.toNat := by
  simp [lenN, hk]
structure AlOk (sh : List Int) (k : Nat) (ls : List Int) : Prop where
  len : ls.length ≤ 60
  le : befN sh k * ls.length * behN sh k ≤ 60
  lt : ∀ p ∈ ls, p < ((lenN sh k : Nat) : Int)
theorem alP_inv {sh : List Int} {k : Nat} {ls : List Int} (hk : k < sh.length) (h : alP sh k ls = true) : AlOk sh k ls := by
  simp only [alP, alS, Int.toNat_natCast, Bool.and_eq_true, List.all_eq_true, decide_eq_true_eq] at h
  have ax := ax_of h.1 (k := k) (by simpa using hk)
  have h1 := ax.len_le
  have h2 := ax.le
  rw [len_set hk, bef_set, beh_set] at *
  exact ⟨by simpa using h1, by simpa using h2, h.2⟩
theorem take_push {A : List Int} {n : Nat} {v : Int} (h : n < A.length) (hv : A.getD n 0 = v) : A.take n ++ [v] = A.take (n + 1) := by
  rw [List.take_add_one, ← hv]
  simp [h]
theorem take_len {A : List Int} {n : Nat} (h : n ≤ A.length) : (A.take n).length = n := by simp; omega
theorem getD_get {A : List Int} {n : Nat} (h : n < A.length) : A[n]? = some (A.getD n 0) := by simp [h]
theorem mem_getD {A : List Int} {n : Nat} (h : n < A.length) : A.getD n 0 ∈ A := by simp [h]
end Go.Ab
namespace Go.Ab
theorem alA_nat (sh da : List Int) (k : Nat) (ls : List Int) : alA sh da (k : Int) ls = alD (befN sh k) (lenN sh k) (behN sh k) da ls := by
  unfold alA
  rw [Int.toNat_natCast]
theorem alA_length (sh da : List Int) (k : Nat) (ls : List Int) : (alA sh da (k : Int) ls).length = befN sh k * ls.length * behN sh k := by
  rw [alA_nat, alD_length]
theorem alA_get {sh da : List Int} {k : Nat} {ls : List Int} {b i m : Nat} (hb : b < befN sh k) (hi : i < ls.length) (hm : m < behN sh k) : (alA sh da (k : Int) ls).getD ((b * ls.length + i) * behN sh k + m) 0 = atV (lenN sh k) (behN sh k) da b (ls.getD i 0) m := by
  rw [alA_nat, alD_get hb hi hm]
end Go.Ab
namespace Go.Ab
/-- A row that is filled from the front, the rest being zeros. -/
def part (A : List Int) (n : Nat) : List Int := A.take n ++ List.replicate (A.length - n) 0
theorem part_zero (A : List Int) : part A 0 = List.replicate A.length 0 := by simp [part]
theorem part_all (A : List Int) : part A A.length = A := by simp [part]
theorem part_length {A : List Int} {n : Nat} (h : n ≤ A.length) : (part A n).length = A.length := by simp [part]; omega
theorem part_same {A : List Int} {n : Nat} (h : n < A.length) (hv : A.getD n 0 = 0) : part A n = part A (n + 1) := by
  unfold part
  rw [← take_push h rfl, hv, show A.length - n = (A.length - (n + 1)) + 1 by omega, List.replicate_succ, List.append_assoc]
  rfl
theorem part_set {A : List Int} {n : Nat} {v : Int} (h : n < A.length) (hv : A.getD n 0 = v) : (part A n).set n v = part A (n + 1) := by
  unfold part
  rw [← take_push h hv, show A.length - n = (A.length - (n + 1)) + 1 by omega, List.replicate_succ, List.set_append_right _ _ (by simp; omega), List.append_assoc]
  have : n - (A.take n).length = 0 := by simp; omega
  rw [this]
  rfl
theorem tdivN (a b : Nat) : Int.tdiv (a : Int) (b : Int) = ((a / b : Nat) : Int) := rfl
theorem tmodN (a b : Nat) : Int.tmod (a : Int) (b : Int) = ((a % b : Nat) : Int) := rfl
def cpF (L : Nat) (G : List Q → Int) (i : Nat) : Int := bif decide (0 ≤ G [.i (i : Int)]) && decide (G [.i (i : Int)] < (L : Int)) then G [.i (i : Int)] else -1
def cpB (sh : List Int) (k len : Int) : Bool := validS (sh.set k.toNat len)
def cpL (sh : List Int) (k len : Int) (G : List Q → Int) : List Int := tab len.toNat (cpF (lenN sh k.toNat) G)
def cpS (sh : List Int) (k len : Int) : List Int := bif cpB sh k len then sh.set k.toNat len else []
def cpD (sh da : List Int) (k len : Int) (G : List Q → Int) : List Int := bif cpB sh k len then alA sh da k (cpL sh k len G) else []
def domB (len : Int) (dom : List Q → Bool) : Bool := (List.range len.toNat).all fun i => dom [.i (i : Int)]
theorem domB_get {len : Int} {dom : List Q → Bool} (h : domB len dom = true) {i : Nat} (hi : i < len.toNat) : dom [.i (i : Int)] = true := by
  simp only [domB, List.all_eq_true] at h
  exact h i (by simpa using hi)
theorem strd_beh {sh : List Int} {k : Nat} (ax : Ax sh k) : strd sh k = ((behN sh k : Nat) : Int) := by
  simp only [strd, ax.lt, decide_true, cond_true, ax.beh]
end Go.Ab
namespace Go.Ab
/-- A function of one number, as data. -/
def q1 : List Q → Bool | [.i _] => true | _ => false
def q1v (f : Int → Int) : List Q → Int | [.i n] => f n | _ => 0
def revI (c i : Int) : Int := IntKind.wrap .i64 (IntKind.wrap .i64 (c - 1) - i)
def rotI (c n i : Int) : Int := restV c (IntKind.wrap .i64 (i + n))
def addI (c i : Int) : Int := IntKind.wrap .i64 (c + i)
theorem domB_q1 (len : Int) : domB len q1 = true := by simp [domB, q1]
def cntB (n : Int) : Bool := decide (-60 ≤ n) && decide (n ≤ 60)
/-- The places that an axis shows: reversed, rotated, taken, left. -/
def rvL (L : Nat) : List Int := tab L fun i => ((L - 1 - i : Nat) : Int)
def rtL (L : Nat) (n : Int) : List Int := tab L fun i => ((i : Int) + n) % (L : Int)
def tkP (L : Nat) (x : Int) : Int := bif decide (0 ≤ x) && decide (x < (L : Int)) then x else -1
def tkL (L : Nat) (n : Int) : List Int := tab n.natAbs fun i => tkP L ((bif decide (n < 0) then (L : Int) + n else 0) + (i : Int))
def drL (L : Nat) (n : Int) : List Int := tab (L - n.natAbs) fun i => ((n.toNat + i : Nat) : Int)
def lenK (sh : List Int) (k : Int) : Nat := lenN sh k.toNat
def revS (sh da : List Int) (k : Int) : List Int := bif axB sh da k then sh else []
def revD (sh da : List Int) (k : Int) : List Int := bif axB sh da k then alA sh da k (rvL (lenK sh k)) else []
def rotB (sh da : List Int) (k n : Int) : Bool := axB sh da k && numB n
def rotS (sh da : List Int) (k n : Int) : List Int := bif rotB sh da k n then sh else []
def rotD (sh da : List Int) (k n : Int) : List Int := bif rotB sh da k n then alA sh da k (rtL (lenK sh k) n) else []
def tkB (sh da : List Int) (k n : Int) : Bool := axB sh da k && cntB n && validS (alS sh k (tkL (lenK sh k) n))
def tkS (sh da : List Int) (k n : Int) : List Int := bif tkB sh da k n then alS sh k (tkL (lenK sh k) n) else []
def tkD (sh da : List Int) (k n : Int) : List Int := bif tkB sh da k n then alA sh da k (tkL (lenK sh k) n) else []
def drB (sh da : List Int) (k n : Int) : Bool := axB sh da k && cntB n
def drS (sh da : List Int) (k n : Int) : List Int := bif drB sh da k n then alS sh k (drL (lenK sh k) n) else []
def drD (sh da : List Int) (k n : Int) : List Int := bif drB sh da k n then alA sh da k (drL (lenK sh k) n) else []
theorem rvL_length (L : Nat) : (rvL L).length = L := tab_length _ _
theorem rtL_length (L : Nat) (n : Int) : (rtL L n).length = L := tab_length _ _
theorem tkL_length (L : Nat) (n : Int) : (tkL L n).length = n.natAbs := tab_length _ _
theorem drL_length (L : Nat) (n : Int) : (drL L n).length = L - n.natAbs := tab_length _ _
theorem axB_inv {sh da : List Int} {k : Int} (h : axB sh da k = true) : ∃ j : Nat, k = j ∧ j < sh.length ∧ validA sh da = true ∧ Ax sh j ∧ da.length = befN sh j * lenN sh j * behN sh j ∧ axL sh da k = ((lenN sh j : Nat) : Int) := by
  have h' := h
  simp only [axB, Bool.and_eq_true] at h
  obtain ⟨e1, e2⟩ := axOk_nat h.2
  have ax := ax_of (validA_inv h.1).1 e2
  refine ⟨k.toNat, e1, e2, h.1, ax, ax_data h.1 e2, ?_⟩
  simp only [axL, h', cond_true, ax.len]
theorem set_len {sh : List Int} {k : Nat} (ax : Ax sh k) : sh.set k ((lenN sh k : Nat) : Int) = sh := by
  rw [← ax.len]
  apply List.ext_getElem (by simp)
  intro i h1 h2
  rw [List.getElem_set]
  split
  · rename_i h; subst h; simp [h2]
  · rfl
theorem valid_less {sh : List Int} {k l : Nat} (h : validS sh = true) (hk : k < sh.length) (hl : l ≤ lenN sh k) : validS (sh.set k (l : Int)) = true := by
  have ax := ax_of h hk
  have hb : allB (sh.set k (l : Int)) 0 60 = true := allB_iff.2 fun v hv => by
    have hm := List.mem_or_eq_of_mem_set hv
    rcases hm with h1 | h1
    · exact allB_iff.1 ax.bnd v h1
    · have := ax.len_le; omega
  have hr := ax.rank
  have hv := vol_prod hb (by simpa using hr)
  have hp := prodN_ax (sh := sh.set k (l : Int)) (k := k) (by simpa using hk)
  rw [len_set hk, bef_set, beh_set, Int.toNat_natCast] at hp
  have hle : befN sh k * l * behN sh k ≤ befN sh k * lenN sh k * behN sh k := Nat.mul_le_mul_right _ (Nat.mul_le_mul_left _ hl)
  have hx := ax.le
  unfold validS
  rw [hb, hv, hp, Bool.and_true, Bool.and_eq_true]
  exact ⟨decide_eq_true (by simp; omega), decide_eq_true (by omega)⟩
def toPl (i l : Int) : Int := bif decide (0 ≤ i) && decide (i ≤ IntKind.wrap .i64 (l - 1)) then i else -1
theorem toPl_eq {i : Int} {L : Nat} (h : L ≤ 1000000) : toPl i (L : Int) = tkP L i := by
  unfold toPl tkP
  rw [wS (by omega) (by omega)]
  have : decide (i ≤ (L : Int) - 1) = decide (i < (L : Int)) := decide_eq_decide.2 (by omega)
  rw [this]
theorem cpL_congr {sh : List Int} {k len : Int} {G : List Q → Int} {l : Nat} {f : Nat → Int} (hl : len = (l : Int)) (h : ∀ i, i < l → cpF (lenN sh k.toNat) G i = f i) : cpL sh k len G = tab l f := by
  subst hl
  unfold cpL
  rw [Int.toNat_natCast]
  exact tab_congr h
/-- The shown places are places of the axis, or none. -/
theorem cp_rev {L : Nat} (hL : L ≤ 60) {i : Nat} (hi : i < L) : cpF L (q1v (revI (L : Int))) i = ((L - 1 - i : Nat) : Int) := by
  have e : IntKind.wrap .i64 (IntKind.wrap .i64 ((L : Int) - 1) - (i : Int)) = ((L - 1 - i : Nat) : Int) := by rw [wS (x := (L : Int) - 1) (by omega) (by omega), wS (by omega) (by omega)]; omega
  simp only [cpF, q1v, revI, e]
  rw [decide_eq_true (by omega), decide_eq_true (by omega)]
  rfl
theorem rest_emod {L : Nat} (h0 : 0 < L) (hL : L ≤ 60) {x : Int} (h1 : -4000001 ≤ x) (h2 : x ≤ 4000001) : restV (L : Int) x = x % (L : Int) ∧ modV x (L : Int) = x % (L : Int) := by
  have := modV_eq (b := x) (a := (L : Int)) (by omega) (by omega) h1 h2
  refine ⟨?_, this⟩
  unfold restV
  rw [decide_eq_false (by omega), cond_false, this]
theorem cp_rot {L : Nat} (hL : L ≤ 60) {n : Int} (hn : numB n = true) {i : Nat} (hi : i < L) : cpF L (q1v (rotI (L : Int) n)) i = ((i : Int) + n) % (L : Int) := by
  have hn := numB_inv hn
  have e : restV (L : Int) (IntKind.wrap .i64 ((i : Int) + n)) = ((i : Int) + n) % (L : Int) := by
    rw [wS (by omega) (by omega), (rest_emod (by omega) hL (by omega) (by omega)).1]
  have b1 := Int.emod_nonneg ((i : Int) + n) (b := (L : Int)) (by omega)
  have b2 := Int.emod_lt_of_pos ((i : Int) + n) (b := (L : Int)) (by omega)
  simp only [cpF, q1v, rotI, e]
  rw [decide_eq_true b1, decide_eq_true b2]
  rfl
theorem cp_take {L : Nat} (hL : L ≤ 60) {n : Int} (h1 : -60 ≤ n) (h2 : n ≤ 60) {i : Nat} (hi : i < n.natAbs) : cpF L (q1v (addI (bif decide (n < 0) then IntKind.wrap .i64 ((L : Int) + n) else 0))) i = tkP L ((bif decide (n < 0) then (L : Int) + n else 0) + (i : Int)) := by
  have e : (bif decide (n < 0) then IntKind.wrap .i64 ((L : Int) + n) else 0) = (bif decide (n < 0) then (L : Int) + n else 0) := by rw [wS (by omega) (by omega)]
  rw [e]
  simp only [cpF, q1v, addI, tkP]
  have hb : -60 ≤ (bif decide (n < 0) then (L : Int) + n else 0) ∧ (bif decide (n < 0) then (L : Int) + n else 0) ≤ 60 := by
    by_cases h : n < 0
    · rw [decide_eq_true h]; simp only [cond_true]; omega
    · rw [decide_eq_false h]; simp only [cond_false]; omega
  generalize (bif decide (n < 0) then (L : Int) + n else 0) = z at *
  have hw : IntKind.wrap .i64 (z + (i : Int)) = z + (i : Int) := wS (by omega) (by omega)
  simp only [hw]
theorem cp_drop {L : Nat} (hL : L ≤ 60) {n : Int} (h1 : -60 ≤ n) (h2 : n ≤ 60) {i : Nat} (hi : i < L - n.natAbs) : cpF L (q1v (addI (maxI n 0))) i = ((n.toNat + i : Nat) : Int) := by
  have e : IntKind.wrap .i64 (maxI n 0 + (i : Int)) = ((n.toNat + i : Nat) : Int) := by
    unfold maxI
    split
    · rw [wS (by omega) (by omega)]; omega
    · rw [wS (by omega) (by omega)]; omega
  simp only [cpF, q1v, addI, e]
  rw [decide_eq_true (by omega), decide_eq_true (by omega)]
  rfl
theorem absV_nat {n : Int} (h1 : -1000000 ≤ n) (h2 : n ≤ 1000000) : absV n = ((n.natAbs : Nat) : Int) := by
  unfold absV maxI
  rw [wS (by omega) (by omega)]
  split <;> omega
theorem cntB_inv {n : Int} (h : cntB n = true) : -60 ≤ n ∧ n ≤ 60 := by simpa [cntB] using h
theorem drop_len {L : Nat} (hL : L ≤ 60) {n : Int} (h1 : -60 ≤ n) (h2 : n ≤ 60) : maxI (IntKind.wrap .i64 ((L : Int) - absV n)) 0 = ((L - n.natAbs : Nat) : Int) := by
  rw [absV_nat (by omega) (by omega), wS (by omega) (by omega)]
  unfold maxI
  split <;> omega
theorem tab_mem {n : Nat} {f : Nat → Int} {p : Int} (h : p ∈ tab n f) : ∃ i, i < n ∧ f i = p := by
  simp only [tab, List.mem_map, List.mem_range] at h
  exact h
theorem alP_of {sh : List Int} {k : Nat} {ls : List Int} (h : validS (sh.set k ((ls.length : Nat) : Int)) = true) (hp : ∀ p ∈ ls, p < ((lenN sh k : Nat) : Int)) : alP sh k ls = true := by
  simp only [alP, alS, Int.toNat_natCast, h, Bool.true_and, List.all_eq_true, decide_eq_true_eq]
  exact hp
theorem alP_less {sh : List Int} {k : Nat} {ls : List Int} (h : validS sh = true) (hk : k < sh.length) (hl : ls.length ≤ lenN sh k) (hp : ∀ p ∈ ls, p < ((lenN sh k : Nat) : Int)) : alP sh k ls = true :=
  alP_of (valid_less h hk hl) hp
theorem rvL_lt {L : Nat} : ∀ p ∈ rvL L, p < (L : Int) := fun p hp => by
  obtain ⟨i, hi, rfl⟩ := tab_mem hp; omega
theorem rtL_lt {L : Nat} {n : Int} : ∀ p ∈ rtL L n, p < (L : Int) := fun p hp => by
  obtain ⟨i, hi, rfl⟩ := tab_mem hp
  exact Int.emod_lt_of_pos _ (by omega)
theorem tkP_lt {L : Nat} {x : Int} : tkP L x < (L : Int) := by
  unfold tkP
  by_cases h0 : 0 ≤ x
  · by_cases h1 : x < (L : Int)
    · rw [decide_eq_true h0, decide_eq_true h1]; exact h1
    · rw [decide_eq_true h0, decide_eq_false h1]; show (-1 : Int) < L; omega
  · rw [decide_eq_false h0]; show (-1 : Int) < L; omega
theorem tkL_lt {L : Nat} {n : Int} : ∀ p ∈ tkL L n, p < (L : Int) := fun p hp => by
  obtain ⟨i, hi, rfl⟩ := tab_mem hp
  exact tkP_lt
theorem drL_lt {L : Nat} {n : Int} : ∀ p ∈ drL L n, p < (L : Int) := fun p hp => by
  obtain ⟨i, hi, rfl⟩ := tab_mem hp; omega
theorem alS_len (sh : List Int) (k : Int) (ls : List Int) : (alS sh k ls).length = sh.length := by simp [alS]
theorem rev_len (sh da : List Int) (k : Int) : (revS sh da k).length ≤ 3 ∧ (revD sh da k).length ≤ 60 := by
  unfold revS revD
  cases hb : axB sh da k with
  | false => simp
  | true =>
    obtain ⟨j, rfl, hj, hv, ax, hd, hl⟩ := axB_inv hb
    have h1 := ax.rank
    have h2 := ax.le
    simp only [cond_true, alA_length, rvL_length, lenK, Int.toNat_natCast]
    exact ⟨h1, h2⟩
theorem rot_len (sh da : List Int) (k n : Int) : (rotS sh da k n).length ≤ 3 ∧ (rotD sh da k n).length ≤ 60 := by
  unfold rotS rotD
  cases hb : rotB sh da k n with
  | false => simp
  | true =>
    simp only [rotB, Bool.and_eq_true] at hb
    obtain ⟨j, rfl, hj, hv, ax, hd, hl⟩ := axB_inv hb.1
    have h1 := ax.rank
    have h2 := ax.le
    simp only [cond_true, alA_length, rtL_length, lenK, Int.toNat_natCast]
    exact ⟨h1, h2⟩
theorem al_len {sh : List Int} {j : Nat} {ls : List Int} (da : List Int) (hj : j < sh.length) (h : validS (alS sh j ls) = true) : (alS sh j ls).length ≤ 3 ∧ (alA sh da j ls).length ≤ 60 := by
  have ax := ax_of h (k := j) (by rw [alS_len]; exact hj)
  have h1 := ax.rank
  have h2 := ax.le
  simp only [alS, Int.toNat_natCast] at h2
  rw [len_set hj, bef_set, beh_set, Int.toNat_natCast] at h2
  rw [alA_length]
  exact ⟨h1, h2⟩
theorem tk_len (sh da : List Int) (k n : Int) : (tkS sh da k n).length ≤ 3 ∧ (tkD sh da k n).length ≤ 60 := by
  unfold tkS tkD
  cases hb : tkB sh da k n with
  | false => simp
  | true =>
    simp only [tkB, Bool.and_eq_true] at hb
    obtain ⟨j, rfl, hj, hv, ax, hd, hl⟩ := axB_inv hb.1.1
    exact al_len da hj hb.2
theorem dr_valid {sh : List Int} {j : Nat} (n : Int) (h : validS sh = true) (hj : j < sh.length) : validS (alS sh j (drL (lenN sh j) n)) = true := by
  unfold alS
  rw [drL_length, Int.toNat_natCast]
  exact valid_less h hj (by omega)
theorem dr_len (sh da : List Int) (k n : Int) : (drS sh da k n).length ≤ 3 ∧ (drD sh da k n).length ≤ 60 := by
  unfold drS drD
  cases hb : drB sh da k n with
  | false => simp
  | true =>
    simp only [drB, Bool.and_eq_true] at hb
    obtain ⟨j, rfl, hj, hv, ax, hd, hl⟩ := axB_inv hb.1
    have h := dr_valid n (validA_inv hv).1 hj
    simp only [lenK, Int.toNat_natCast]
    exact al_len da hj h
theorem marksL_ok {xs : List Int} (h : xs.length ≤ 1099511627776) : decide (xs.length < 9223372036854775808) = true ∧ decide ((markL xs 1).length < 9223372036854775808) = true ∧ heldL (markL xs 1) 1 = markK xs 1 ∧ decide (markK xs 1 < 0) = false := by
  have e1 := markK_eq xs 1 (by omega) (by omega)
  have e3 := heldL_mark xs 1 (by omega) (by omega)
  exact ⟨decide_eq_true (by omega), by rw [markL_length]; exact decide_eq_true (by omega), by rw [e1, e3], mark1_ok (by omega)⟩
end Go.Ab
namespace Go.Ab
/-- The place with a number. -/
def plN (sh : List Int) (n : Nat) : List Int := tab sh.length fun k => ((n / behN sh k % lenN sh k : Nat) : Int)
def plB (sh : List Int) (n : Int) : Bool := validS sh && decide (0 ≤ n) && decide (n < volW sh)
def plD (sh : List Int) (n : Int) : List Int := bif plB sh n then plN sh n.toNat else []
theorem plN_length (sh : List Int) (n : Nat) : (plN sh n).length = sh.length := tab_length _ _
theorem plB_inv {sh : List Int} {n : Int} (h : plB sh n = true) : ∃ j : Nat, n = j ∧ validS sh = true ∧ j < prodN sh ∧ volW sh = ((prodN sh : Nat) : Int) ∧ prodN sh ≤ 60 := by
  simp only [plB, Bool.and_eq_true, decide_eq_true_eq] at h
  obtain ⟨h1, h2, h3⟩ := validS_inv h.1.1
  have h4 := vol_prod h2 h1
  exact ⟨n.toNat, by omega, h.1.1, by omega, h4, by omega⟩
theorem pl_pos {sh : List Int} {n k : Nat} (h : n < prodN sh) (hk : k < sh.length) : 0 < lenN sh k ∧ 0 < behN sh k ∧ 0 < befN sh k := by
  rw [prodN_ax hk] at h
  refine ⟨Nat.pos_of_ne_zero fun e => ?_, Nat.pos_of_ne_zero fun e => ?_, Nat.pos_of_ne_zero fun e => ?_⟩ <;> rw [e] at h <;> simp at h
theorem pl_len (sh : List Int) (n : Int) : (plD sh n).length ≤ 3 := by
  unfold plD
  cases h : plB sh n with
  | false => simp
  | true =>
    obtain ⟨j, rfl, hv, _⟩ := plB_inv h
    simp only [cond_true, plN_length]
    exact (validS_inv hv).1
theorem behN_drop {sh : List Int} {k : Nat} (hk : k < sh.length) : prodN (sh.drop k) = lenN sh k * behN sh k := by
  have e : sh.drop k = sh.getD k 0 :: sh.drop (k + 1) := by
    rw [dropS hk]; simp [hk]
  rw [e]; rfl
theorem plN_get {sh : List Int} {n k : Nat} (hk : k < sh.length) : (plN sh n).getD k 0 = ((n / behN sh k % lenN sh k : Nat) : Int) := tab_getD hk
/-- A row that is filled from the back, zeros before. -/
def tail0 (A : List Int) (i : Nat) : List Int := List.replicate i 0 ++ A.drop i
theorem tail0_all (A : List Int) : tail0 A A.length = List.replicate A.length 0 := by simp [tail0]
theorem tail0_zero (A : List Int) : tail0 A 0 = A := by simp [tail0]
theorem tail0_length {A : List Int} {i : Nat} (h : i ≤ A.length) : (tail0 A i).length = A.length := by simp [tail0]; omega
theorem tail0_set {A : List Int} {i : Nat} {v : Int} (h : i < A.length) (hv : A.getD i 0 = v) : (tail0 A (i + 1)).set i v = tail0 A i := by
  unfold tail0
  rw [List.replicate_succ', List.append_assoc, List.set_append_right _ _ (by simp)]
  have e : i - (List.replicate i (0 : Int)).length = 0 := by simp
  rw [e, dropS h]
  have : A[i] = v := by rw [← hv]; simp [h]
  rw [this]
  rfl
end Go.Ab
namespace Go.Ab
/-- A function of two numbers, as data. -/
def q2 : List Q → Bool | [.i _, .i _] => true | _ => false
def q2v (f : Int → Int → Int) : List Q → Int | [.i a, .i b] => f a b | _ => 0
def pwB (dom : List Q → Bool) (xs ys : List Int) : Bool := (List.range xs.length).all fun i => dom [.i (xs.getD i 0), .i (ys.getD i 0)]
def pwD (G : List Q → Int) (xs ys : List Int) : List Int := tab xs.length fun i => G [.i (xs.getD i 0), .i (ys.getD i 0)]
theorem pwB_q2 (xs ys : List Int) : pwB q2 xs ys = true := by simp [pwB, q2]
theorem pwB_get {dom : List Q → Bool} {xs ys : List Int} (h : pwB dom xs ys = true) {i : Nat} (hi : i < xs.length) : dom [.i (xs.getD i 0), .i (ys.getD i 0)] = true := by
  simp only [pwB, List.all_eq_true] at h
  exact h i (by simpa using hi)
theorem pwD_q2 (f : Int → Int → Int) (xs ys : List Int) : pwD (q2v f) xs ys = tab xs.length fun i => f (xs.getD i 0) (ys.getD i 0) := rfl
end Go.Ab
namespace Go.Ab
def foldW (G : List Q → Int) : List Int → Int → Int
  | [], s => s
  | x :: xs, s => G [.i x, .i (foldW G xs s)]
def fdB (dom : List Q → Bool) (G : List Q → Int) : List Int → Int → Bool
  | [], _ => true
  | x :: xs, s => fdB dom G xs s && dom [.i x, .i (foldW G xs s)]
def redG (op : Int) (G : List Q → Int) (xs : List Int) : Int := bif decide (xs.length = 0) then neuV op else foldW G (xs.take (xs.length - 1)) (xs.getD (xs.length - 1) 0)
def rdB (dom : List Q → Bool) (G : List Q → Int) (xs : List Int) : Bool := decide (xs.length < 9223372036854775808) && fdB dom G (xs.take (xs.length - 1)) (xs.getD (xs.length - 1) 0)
def ql : List Q → Bool | [.l xs] => decide (xs.length < 9223372036854775808) | _ => false
def qlB (dom : List Q → Bool) (G : List Q → Int) : List Q → Bool | [.l xs] => rdB dom G xs | _ => false
def qlv (f : List Int → Int) : List Q → Int | [.l xs] => f xs | _ => 0
/-- The reduction of numbers, from the right. -/
def redF (op : Int) : List Int → Int
  | [] => neuV op
  | [x] => x
  | x :: y :: ys => operF op x (redF op (y :: ys))
theorem fdB_q2 (G : List Q → Int) : ∀ (xs : List Int) (s : Int), fdB q2 G xs s = true
  | [], _ => rfl
  | x :: xs, s => by simp [fdB, fdB_q2 G xs s, q2]
theorem qlB_q2 (G : List Q → Int) : qlB q2 G = ql := by
  funext qs
  match qs with
  | [.l xs] => simp only [qlB, ql, rdB, fdB_q2, Bool.and_true]
  | [] => rfl
  | [.i _] => rfl
  | [.b _] => rfl
  | .l _ :: _ :: _ => rfl
  | .i _ :: _ :: _ => rfl
  | .b _ :: _ :: _ => rfl
theorem redF_cons {op x : Int} {xs : List Int} (h : xs ≠ []) : redF op (x :: xs) = operF op x (redF op xs) := by
  cases xs with
  | nil => exact absurd rfl h
  | cons y ys => rfl
theorem redG_eq (op : Int) : redG op (q2v (operF op)) = redF op := by
  funext xs
  induction xs with
  | nil => rfl
  | cons x xs ih =>
    cases xs with
    | nil => rfl
    | cons y ys =>
      rw [redF_cons (by simp), ← ih]
      rfl
theorem redF_drop {op : Int} {xs : List Int} {i : Nat} (h : i + 1 < xs.length) : redF op (xs.drop i) = operF op (xs.getD i 0) (redF op (xs.drop (i + 1))) := by
  rw [dropS (show i < xs.length by omega), redF_cons (by simp; omega)]
  simp [show i < xs.length by omega]
theorem redF_last {op : Int} {xs : List Int} {i : Nat} (h : i + 1 = xs.length) : redF op (xs.drop i) = xs.getD i 0 := by
  rw [dropS (show i < xs.length by omega), dropE (show ¬ i + 1 < xs.length by omega)]
  simp [redF, show i < xs.length by omega]
end Go.Ab
namespace Go.Ab
/-- The numbers along an axis. -/
def lnD (L M : Nat) (da : List Int) (i m : Nat) : List Int := tab L fun j => da.getD ((i * L + j) * M + m) 0
def lnK (sh da : List Int) (k : Int) (i m : Nat) : List Int := lnD (lenN sh k.toNat) (behN sh k.toNat) da i m
def laneB (sh : List Int) (k i m : Int) : Bool := decide (0 ≤ i) && decide (i < ((befN sh k.toNat : Nat) : Int)) && decide (0 ≤ m) && decide (m < ((behN sh k.toNat : Nat) : Int))
def lnB (sh : List Int) (k n : Int) : Bool := decide (0 ≤ n) && decide (n < ((befN sh k.toNat * behN sh k.toNat : Nat) : Int))
theorem lnD_length (L M : Nat) (da : List Int) (i m : Nat) : (lnD L M da i m).length = L := tab_length _ _
theorem lnK_length (sh da : List Int) (k : Int) (i m : Nat) : (lnK sh da k i m).length = lenN sh k.toNat := tab_length _ _
theorem axB_of {sh da : List Int} {k : Nat} (hv : validA sh da = true) (hk : k < sh.length) : axB sh da k = true := by
  simp only [axB, hv, axOk, Bool.true_and]; simp; omega
theorem axOk_of {sh : List Int} {k : Nat} (hk : k < sh.length) : axOk sh k = true := by
  simp only [axOk]; simp; omega
theorem dec2 {n B M : Nat} (h : n < B * M) : n / M < B ∧ n % M < M ∧ n / M * M + n % M = n := by
  have hM : 0 < M := Nat.pos_of_ne_zero fun e => by subst e; simp at h
  refine ⟨(Nat.div_lt_iff_lt_mul hM).2 h, Nat.mod_lt _ hM, ?_⟩
  rw [Nat.mul_comm]; exact Nat.div_add_mod _ _
theorem enc2 {b m B M : Nat} (hb : b < B) (hm : m < M) : b * M + m < B * M ∧ (b * M + m) / M = b ∧ (b * M + m) % M = m := by
  obtain ⟨h1, h2⟩ := divmod (a := b) hm
  refine ⟨?_, h1, h2⟩
  have : (b + 1) * M ≤ B * M := Nat.mul_le_mul_right _ hb
  rw [Nat.add_mul, Nat.one_mul] at this
  omega
theorem set_eraseIdx_len {sh : List Int} {k : Nat} (hk : k < sh.length) : (sh.eraseIdx k).length = sh.length - 1 := List.length_eraseIdx_of_lt hk
theorem erase_eq {sh : List Int} {k : Nat} : sh.take k ++ sh.drop (k + 1) = sh.eraseIdx k := (List.eraseIdx_eq_take_drop_succ sh k).symm
theorem prodN_erase {sh : List Int} {k : Nat} : prodN (sh.eraseIdx k) = befN sh k * behN sh k := by
  rw [← erase_eq, prodN_append]; rfl
end Go.Ab
namespace Go.Ab
def rdxB (op : Int) (sh da : List Int) (k : Int) : Bool := opOk op && axB sh da k && validS (sh.eraseIdx k.toNat)
def rdxN (op : Int) (sh da : List Int) (k : Int) : List Int := tab (befN sh k.toNat * behN sh k.toNat) fun n => redF op (lnK sh da k (n / behN sh k.toNat) (n % behN sh k.toNat))
def rdxS (op : Int) (sh da : List Int) (k : Int) : List Int := bif rdxB op sh da k then sh.eraseIdx k.toNat else []
def rdxD (op : Int) (sh da : List Int) (k : Int) : List Int := bif rdxB op sh da k then rdxN op sh da k else []
def lnN (sh da : List Int) (k n : Int) : List Int := lnK sh da k (n.toNat / behN sh k.toNat) (n.toNat % behN sh k.toNat)
def rallV (op : Int) (sh da : List Int) : Int := bif opOk op && validA sh da then redF op da else 0
end Go.Ab
namespace Go.Ab
/-- The rank of a place when the places of one axis come last. -/
def rkN (L M p : Nat) : Nat := (p / M / L * M + p % M) * L + p / M % L
theorem rkN_enc {B L M b i m : Nat} (hb : b < B) (hi : i < L) (hm : m < M) : rkN L M ((b * L + i) * M + m) = (b * M + m) * L + i := by
  obtain ⟨_, e1, e2, e3⟩ := enc3 hb hi hm
  unfold rkN
  rw [e1, e2, e3]
theorem rkN_lt {B L M p : Nat} (h : p < B * L * M) : rkN L M p < B * M * L := by
  obtain ⟨d1, d2, d3, d4⟩ := dec3 h
  exact (enc3 d1 d3 d2).1
theorem rkN_inj {B L M p q : Nat} (hp : p < B * L * M) (hq : q < B * L * M) (h : rkN L M p = rkN L M q) : p = q := by
  obtain ⟨a1, a2, a3, a4⟩ := dec3 hp
  obtain ⟨b1, b2, b3, b4⟩ := dec3 hq
  obtain ⟨_, e1, e2, e3⟩ := enc3 a1 a3 a2
  obtain ⟨_, f1, f2, f3⟩ := enc3 b1 b3 b2
  unfold rkN at h
  rw [h] at e1 e2 e3
  rw [← a4, ← b4, ← e1, ← e2, ← e3, f1, f2, f3]
/-- A row whose places are set in any order, each once: c of them are done. -/
structure Filled (N : Nat) (rk : Nat → Nat) (f : Nat → Int) (c : Nat) (out : List Int) : Prop where
  len : out.length = N
  get : ∀ p, p < N → rk p < c → out.getD p 0 = f p
theorem Filled.zero {N : Nat} {rk : Nat → Nat} {f : Nat → Int} {out : List Int} (h : out.length = N) : Filled N rk f 0 out := ⟨h, fun _ _ h => absurd h (by omega)⟩
theorem Filled.set {N : Nat} {rk : Nat → Nat} {f : Nat → Int} {c q : Nat} {v : Int} {out : List Int} (h : Filled N rk f c out) (hinj : ∀ p, p < N → rk p = rk q → p = q) (hc : rk q = c) (hv : v = f q) : Filled N rk f (c + 1) (out.set q v) := by
  refine ⟨by rw [List.length_set, h.len], fun p hp hr => ?_⟩
  have hl := h.len
  by_cases e : q = p
  · subst e
    simp [hl, hp, hv]
  · have hne : rk p ≠ c := fun h2 => e (hinj p hp (by omega)).symm
    have := h.get p hp (by omega)
    simp only [List.getD_eq_getElem?_getD] at this ⊢
    rw [List.getElem?_set_ne e]
    exact this
theorem Filled.all {N : Nat} {rk : Nat → Nat} {f : Nat → Int} {c : Nat} {out : List Int} (h : Filled N rk f c out) (hlt : ∀ p, p < N → rk p < c) : out = tab N f := by
  apply List.ext_getElem (by rw [h.len, tab_length])
  intro n h1 h2
  have hn : n < N := by rw [← h.len]; exact h1
  have := h.get n hn (hlt n hn)
  have e2 := tab_getD (f := f) hn
  simp only [List.getD_eq_getElem?_getD, List.getElem?_eq_getElem h1, List.getElem?_eq_getElem h2, Option.getD_some] at this e2
  rw [this, e2]
/-- Scans. -/
def scL (sh da : List Int) (k : Int) (n : Nat) : List Int := (lnK sh da k (n / behN sh k.toNat / lenN sh k.toNat) (n % behN sh k.toNat)).take (n / behN sh k.toNat % lenN sh k.toNat + 1)
def scB (op : Int) (sh da : List Int) (k : Int) : Bool := opOk op && axB sh da k
def scN (op : Int) (sh da : List Int) (k : Int) : List Int := tab da.length fun n => redF op (scL sh da k n)
def scS (op : Int) (sh da : List Int) (k : Int) : List Int := bif scB op sh da k then sh else []
def scD (op : Int) (sh da : List Int) (k : Int) : List Int := bif scB op sh da k then scN op sh da k else []
def scP (dom : List Q → Bool) (sh da : List Int) (k len st n : Int) : Bool := axB sh da k && decide (st = ((behN sh k.toNat : Nat) : Int)) && decide (len = ((lenN sh k.toNat : Nat) : Int)) && decide (0 ≤ n) && decide (n < ((da.length : Nat) : Int)) && dom [.l (scL sh da k n.toNat)]
end Go.Ab
namespace Go.Ab
theorem data_prod {sh da : List Int} (h : validA sh da = true) : da.length = prodN sh := by
  obtain ⟨h1, h2, h3⟩ := validS_inv (validA_inv h).1
  have h4 := vol_prod h2 h1
  have h5 := (validA_inv h).2.1
  omega
theorem volS {sh : List Int} (h : validS sh = true) : volW sh = ((prodN sh : Nat) : Int) ∧ prodN sh ≤ 60 := by
  obtain ⟨h1, h2, h3⟩ := validS_inv h
  have h4 := vol_prod h2 h1
  exact ⟨h4, by omega⟩
theorem scan_len (op : Int) (sh da : List Int) (k : Int) : (scS op sh da k).length ≤ 3 ∧ (scD op sh da k).length ≤ 60 := by
  unfold scS scD
  cases hb : scB op sh da k with
  | false => simp
  | true =>
    simp only [scB, Bool.and_eq_true] at hb
    obtain ⟨j, rfl, hj, hv, ax, hd, hl⟩ := axB_inv hb.2
    have h1 := ax.rank
    have h2 := ax.le
    simp only [cond_true, scN, tab_length]
    exact ⟨h1, by omega⟩
theorem rdx_len (op : Int) (sh da : List Int) (k : Int) : (rdxS op sh da k).length ≤ 3 ∧ (rdxD op sh da k).length ≤ 60 := by
  unfold rdxS rdxD
  cases hb : rdxB op sh da k with
  | false => simp
  | true =>
    simp only [rdxB, Bool.and_eq_true] at hb
    have h1 := (validS_inv hb.2).1
    have h2 := volS hb.2
    rw [prodN_erase] at h2
    simp only [cond_true, rdxN, tab_length]
    exact ⟨h1, h2.2⟩
/-- Products of all pairs. -/
def otB (op : Int) (sa da sb db : List Int) : Bool := opOk op && validA sa da && validA sb db && validS (sa ++ sb)
def otN (op : Int) (da db : List Int) : List Int := tab (da.length * db.length) fun n => operF op (da.getD (n / db.length) 0) (db.getD (n % db.length) 0)
def otP (dom : List Q → Bool) (da db : List Int) (c n : Int) : Bool := decide (c = ((db.length : Nat) : Int)) && decide (0 ≤ n) && decide (n < ((da.length * db.length : Nat) : Int)) && decide (da.length * db.length ≤ 60) && dom [.i (da.getD (n.toNat / db.length) 0), .i (db.getD (n.toNat % db.length) 0)]
def otS (op : Int) (sa da sb db : List Int) : List Int := bif otB op sa da sb db then sa ++ sb else []
def otD (op : Int) (sa da sb db : List Int) : List Int := bif otB op sa da sb db then otN op da db else []
theorem otB_inv {op : Int} {sa da sb db : List Int} (h : otB op sa da sb db = true) : opOk op = true ∧ validA sa da = true ∧ validA sb db = true ∧ validS (sa ++ sb) = true ∧ volW (sa ++ sb) = ((da.length * db.length : Nat) : Int) ∧ da.length * db.length ≤ 60 := by
  simp only [otB, Bool.and_eq_true] at h
  have h1 := volS h.2
  rw [prodN_append, ← data_prod h.1.1.2, ← data_prod h.1.2] at h1
  exact ⟨h.1.1.1, h.1.1.2, h.1.2, h.2, h1.1, h1.2⟩
theorem ot_len (op : Int) (sa da sb db : List Int) : (otS op sa da sb db).length ≤ 3 ∧ (otD op sa da sb db).length ≤ 60 := by
  unfold otS otD
  cases hb : otB op sa da sb db with
  | false => simp
  | true =>
    obtain ⟨h1, h2, h3, h4, h5, h6⟩ := otB_inv hb
    simp only [cond_true, otN, tab_length]
    exact ⟨(validS_inv h4).1, h6⟩
/-- Reductions of pairs along the last axis and the first. -/
def inK (sa : List Int) : Int := ((sa.length : Nat) : Int) - 1
def inSh (sa sb : List Int) : List Int := sa.take (sa.length - 1) ++ sb.drop 1
def inB (f g : Int) (sa da sb db : List Int) : Bool := opOk f && opOk g && axB sa da (inK sa) && axB sb db 0 && decide (lenN sa (sa.length - 1) = lenN sb 0) && validS (inSh sa sb)
def inX (sa da sb : List Int) (n : Nat) : List Int := lnK sa da (inK sa) (n / behN sb 0) 0
def inY (sb db : List Int) (n : Nat) : List Int := lnK sb db 0 0 (n % behN sb 0)
def inL (G : List Q → Int) (sa da sb db : List Int) (n : Nat) : List Int := pwD G (inX sa da sb n) (inY sb db n)
def inA (sa da sb db : List Int) : Bool := axB sa da (inK sa) && axB sb db 0 && decide (lenN sa (sa.length - 1) = lenN sb 0) && decide (prodN (inSh sa sb) ≤ 60)
def inP (dr dp : List Q → Bool) (G : List Q → Int) (sa da : List Int) (la co : Int) (sb db : List Int) (n : Int) : Bool :=
  decide (la = inK sa) && decide (co = ((behN sb 0 : Nat) : Int)) && inA sa da sb db && decide (0 ≤ n) && decide (n < ((prodN (inSh sa sb) : Nat) : Int)) && pwB dp (inX sa da sb n.toNat) (inY sb db n.toNat) && dr [.l (inL G sa da sb db n.toNat)]
theorem inSh_prod {sa sb : List Int} : prodN (inSh sa sb) = befN sa (sa.length - 1) * behN sb 0 := by
  simp only [inSh, prodN_append]; rfl
theorem inA_inv {sa da sb db : List Int} (h : inA sa da sb db = true) : axB sa da (inK sa) = true ∧ axB sb db 0 = true ∧ lenN sa (sa.length - 1) = lenN sb 0 ∧ prodN (inSh sa sb) ≤ 60 ∧ 0 < sa.length ∧ inK sa = ((sa.length - 1 : Nat) : Int) ∧ behN sa (sa.length - 1) = 1 := by
  simp only [inA, Bool.and_eq_true, decide_eq_true_eq] at h
  obtain ⟨j, hj, hj2, _⟩ := axB_inv h.1.1.1
  have hk : inK sa = ((sa.length - 1 : Nat) : Int) := by unfold inK; omega
  refine ⟨h.1.1.1, h.1.1.2, h.1.2, h.2, by omega, hk, ?_⟩
  unfold behN
  rw [List.drop_of_length_le (by omega)]
  rfl
theorem inX_length {sa da sb : List Int} {n : Nat} (h : 0 < sa.length) : (inX sa da sb n).length = lenN sa (sa.length - 1) := by
  rw [inX, lnK_length]; congr 1; unfold inK; omega
theorem inY_length {sb db : List Int} {n : Nat} : (inY sb db n).length = lenN sb 0 := by
  rw [inY, lnK_length]; rfl
def inN (f g : Int) (sa da sb db : List Int) : List Int := tab (prodN (inSh sa sb)) fun n => redF f (inL (q2v (operF g)) sa da sb db n)
def inS (f g : Int) (sa da sb db : List Int) : List Int := bif inB f g sa da sb db then inSh sa sb else []
def inD (f g : Int) (sa da sb db : List Int) : List Int := bif inB f g sa da sb db then inN f g sa da sb db else []
theorem in_len (f g : Int) (sa da sb db : List Int) : (inS f g sa da sb db).length ≤ 3 ∧ (inD f g sa da sb db).length ≤ 60 := by
  unfold inS inD
  cases hb : inB f g sa da sb db with
  | false => simp
  | true =>
    simp only [inB, Bool.and_eq_true] at hb
    have h2 := volS hb.2
    simp only [cond_true, inN, tab_length]
    exact ⟨(validS_inv hb.2).1, h2.2⟩
end Go.Ab
namespace Go.Ab
/-- Orders of axes. -/
def isOB (order : List Int) : Bool := (List.range order.length).all fun k => order.contains (k : Int)
def obB (order : List Int) : Bool := decide (order.length ≤ 3) && isOB order
def obN (order : List Int) : List Int := tab order.length fun k => ((order.idxOf (k : Int) : Nat) : Int)
def obS (order : List Int) : List Int := bif obB order then obN order else []
theorem ob_cases {order : List Int} (h : obB order = true) : order = [] ∨ order = [0] ∨ order = [0, 1] ∨ order = [1, 0] ∨ order = [0, 1, 2] ∨ order = [0, 2, 1] ∨ order = [1, 0, 2] ∨ order = [1, 2, 0] ∨ order = [2, 0, 1] ∨ order = [2, 1, 0] := by
  simp only [obB, isOB, Bool.and_eq_true, decide_eq_true_eq, List.all_eq_true, List.mem_range, List.contains_iff_mem] at h
  obtain ⟨h1, h2⟩ := h
  match order, h1, h2 with
  | [], _, _ => simp
  | [a], _, h2 =>
    have h0 := h2 0 (by simp)
    simp at h0
    subst h0; simp
  | [a, b], _, h2 =>
    have h0 := h2 0 (by simp)
    have h1 := h2 1 (by simp)
    simp at h0 h1
    rcases h0 with rfl | rfl <;> rcases h1 with h | h <;> (try omega) <;> subst h <;> simp
  | [a, b, c], _, h2 =>
    have h0 := h2 0 (by simp)
    have h1 := h2 1 (by simp)
    have h3 := h2 2 (by simp)
    simp at h0 h1 h3
    rcases h0 with rfl | rfl | rfl <;> rcases h1 with h | h | h <;> rcases h3 with g | g | g <;> (try omega) <;> subst h <;> subst g <;> simp
  | _ :: _ :: _ :: _ :: _, h1, _ => simp at h1
/-- What an order says of its places. -/
theorem ob_get {order : List Int} (h : obB order = true) : ∀ i, i < order.length → 0 ≤ order.getD i 0 ∧ (order.getD i 0).toNat < order.length ∧ order.idxOf (order.getD i 0) = i := by
  rcases ob_cases h with rfl | rfl | rfl | rfl | rfl | rfl | rfl | rfl | rfl | rfl <;> decide
theorem ob_inj {order : List Int} (h : obB order = true) : ∀ p, p < order.length → ∀ q, q < order.length → order.idxOf (p : Int) = order.idxOf (q : Int) → p = q := by
  rcases ob_cases h with rfl | rfl | rfl | rfl | rfl | rfl | rfl | rfl | rfl | rfl <;> decide
theorem ob_lt {order : List Int} (h : obB order = true) : ∀ p, p < order.length → order.idxOf (p : Int) < order.length := by
  rcases ob_cases h with rfl | rfl | rfl | rfl | rfl | rfl | rfl | rfl | rfl | rfl <;> decide
theorem ob_len (order : List Int) : (obS order).length ≤ 3 := by
  unfold obS
  cases h : obB order with
  | false => simp
  | true =>
    simp only [obB, Bool.and_eq_true, decide_eq_true_eq] at h
    simp only [cond_true, obN, tab_length]
    exact h.1
/-- The first place of a number, or none. -/
def idxI (xs : List Int) (v : Int) : Int := bif xs.contains v then ((xs.idxOf v : Nat) : Int) else -1
theorem idxI_neg {xs : List Int} {v : Int} : decide (idxI xs v < 0) = !xs.contains v := by
  unfold idxI
  cases xs.contains v with
  | true => simp
  | false => rfl
end Go.Ab
namespace Go.Ab
theorem lnD_valid {sh da : List Int} {k : Nat} (hv : validA sh da = true) (hk : k < sh.length) {i m : Nat} (hi : i < befN sh k) (hm : m < behN sh k) : validA [((lenN sh k : Nat) : Int)] (lnD (lenN sh k) (behN sh k) da i m) = true := by
  have ax := ax_of (validA_inv hv).1 hk
  have hL := ax.len_le
  have hd := ax_data hv hk
  have hb : allB [((lenN sh k : Nat) : Int)] 0 60 = true := allB_iff.2 fun v hv => by simp at hv; omega
  have h2 := (validA_inv hv).2.2
  have hvol : volW [((lenN sh k : Nat) : Int)] = ((lenN sh k : Nat) : Int) := by rw [vol_prod hb (by simp)]; simp [prodN]
  simp only [validA, validS, hb, hvol, Bool.and_eq_true, decide_eq_true_eq, beq_iff_eq, lnD_length]
  refine ⟨⟨⟨⟨by simp, trivial⟩, by omega⟩, trivial⟩, allB_iff.2 fun v hv => ?_⟩
  obtain ⟨j, hj, rfl⟩ := tab_mem hv
  obtain ⟨e1, _, _, _⟩ := enc3 hi hj hm
  exact allB_iff.1 h2 _ (mem_getD (by omega))
theorem cD_vec (op : Int) {xs ys : List Int} (hx : validA [((xs.length : Nat) : Int)] xs = true) (hl : xs.length = ys.length) : cD op [((xs.length : Nat) : Int)] xs [((ys.length : Nat) : Int)] ys = pwD (q2v (operF op)) xs ys := by
  have hv := (validA_inv hx).2.1
  rw [pwD_q2, cD]
  have hc : cS [((xs.length : Nat) : Int)] [((ys.length : Nat) : Int)] = [((xs.length : Nat) : Int)] := rfl
  rw [hc, ← hv, Int.toNat_natCast]
  refine tab_congr fun i hi => ?_
  rw [show min i (xs.length - 1) = i by omega, show min i (ys.length - 1) = i by omega]
theorem inX_eq {sa da sb db : List Int} {n : Nat} (h : inA sa da sb db = true) (hn : n < prodN (inSh sa sb)) :
    inX sa da sb n = lnD (lenN sa (sa.length - 1)) (behN sa (sa.length - 1)) da (n / behN sb 0) 0 ∧ inY sb db n = lnD (lenN sb 0) (behN sb 0) db 0 (n % behN sb 0) ∧ n / behN sb 0 < befN sa (sa.length - 1) ∧ n % behN sb 0 < behN sb 0 ∧ befN sb 0 = 1 := by
  obtain ⟨a1, a2, a3, a4, a5, a6, a7⟩ := inA_inv h
  rw [inSh_prod] at hn
  obtain ⟨d1, d2, d3⟩ := dec2 hn
  refine ⟨?_, rfl, d1, d2, rfl⟩
  rw [inX, a6, lnK, Int.toNat_natCast]
theorem inN_at {sa da sb db : List Int} {n : Nat} (h : inA sa da sb db = true) (hn : n < prodN (inSh sa sb)) :
    lnN sa da (inK sa) ((n / behN sb 0 : Nat) : Int) = inX sa da sb n ∧ lnN sb db 0 ((n % behN sb 0 : Nat) : Int) = inY sb db n ∧ lnB sa (inK sa) ((n / behN sb 0 : Nat) : Int) = true ∧ lnB sb 0 ((n % behN sb 0 : Nat) : Int) = true := by
  obtain ⟨a1, a2, a3, a4, a5, a6, a7⟩ := inA_inv h
  obtain ⟨b1, b2, b3, b4, b5⟩ := inX_eq h hn
  refine ⟨?_, ?_, ?_, ?_⟩
  · rw [inX, lnN, a6]
    simp only [Int.toNat_natCast, a7, Nat.div_one, Nat.mod_one]
  · rw [inY, lnN]
    simp only [Int.toNat_natCast, show (0 : Int).toNat = 0 from rfl]
    rw [Nat.div_eq_of_lt b4, Nat.mod_eq_of_lt b4]
  · simp only [lnB, a6, Int.toNat_natCast, a7, Nat.mul_one, Bool.and_eq_true, decide_eq_true_eq]; exact ⟨Int.natCast_nonneg _, Int.ofNat_lt.mpr b3⟩
  · simp only [lnB, show (0 : Int).toNat = 0 from rfl, b5, Nat.one_mul, Bool.and_eq_true, decide_eq_true_eq]; exact ⟨Int.natCast_nonneg _, Int.ofNat_lt.mpr b4⟩
theorem inB_A {f g : Int} {sa da sb db : List Int} (hb : inB f g sa da sb db = true) : inA sa da sb db = true ∧ validS (inSh sa sb) = true ∧ volW (inSh sa sb) = ((prodN (inSh sa sb) : Nat) : Int) ∧ prodN (inSh sa sb) ≤ 60 := by
  simp only [inB, Bool.and_eq_true, decide_eq_true_eq] at hb
  have h2 := volS hb.2
  refine ⟨?_, hb.2, h2.1, h2.2⟩
  simp only [inA, Bool.and_eq_true, decide_eq_true_eq]
  exact ⟨⟨⟨hb.1.1.1.2, hb.1.1.2⟩, hb.1.2⟩, h2.2⟩
theorem cut_one {n : Nat} (h : 0 < n) : cutEnds n (some (.imm (.int .i64 1))) none = some (1, n) := cut_lo (k := 1) (by omega)
theorem in_parts {sa sb : List Int} : ((sa.drop 0).take (sa.length - 1 - 0)) ++ ((sb.drop 1).take (sb.length - 1)) = inSh sa sb := by
  rw [drop_take, List.drop_zero, Nat.sub_zero]; rfl
end Go.Ab
namespace Go.Ab
def minL : List Int → Int
  | [] => 0
  | [x] => x
  | x :: y :: ys => minI x (minL (y :: ys))
def dgB (sh da : List Int) : Bool := validA sh da && decide (0 < sh.length)
def stpN (sh : List Int) : Nat → Nat
  | 0 => 0
  | n + 1 => stpN sh n + behN sh n
def dgN (sh da : List Int) : List Int := tab (minL sh).toNat fun i => da.getD (i * stpN sh sh.length) 0
def dgS (sh da : List Int) : List Int := bif dgB sh da then [minL sh] else []
def dgD (sh da : List Int) : List Int := bif dgB sh da then dgN sh da else []
end Go.Ab
namespace Go.Ab
theorem idxOf_at : ∀ {xs : List Int} {v : Int} {j : Nat}, j < xs.length → (∀ i, i < j → xs.getD i 0 ≠ v) → xs.getD j 0 = v → xs.idxOf v = j
  | [], _, _, h, _, _ => by simp at h
  | x :: xs, v, 0, _, _, he => by
    have : x = v := by simpa using he
    subst this
    simp
  | x :: xs, v, j + 1, hj, hne, he => by
    have h0 : x ≠ v := by simpa using hne 0 (by omega)
    have := idxOf_at (xs := xs) (v := v) (j := j) (by simpa using hj) (fun i hi => by simpa using hne (i + 1) (by omega)) (by simpa using he)
    rw [List.idxOf_cons, this, show (x == v) = false by simp [h0]]
    rfl
theorem contains_at {xs : List Int} {v : Int} {j : Nat} (hj : j < xs.length) (he : xs.getD j 0 = v) : xs.contains v = true := by
  rw [List.contains_iff_mem, ← he]
  exact mem_getD hj
theorem contains_no {xs : List Int} {v : Int} (h : ∀ i, i < xs.length → xs.getD i 0 ≠ v) : xs.contains v = false := by
  rw [Bool.eq_false_iff]
  intro hc
  rw [List.contains_iff_mem] at hc
  obtain ⟨i, hi, e⟩ := List.getElem_of_mem hc
  exact h i hi (by simp [hi, e])
theorem idxI_at {xs : List Int} {v : Int} {j : Nat} (hj : j < xs.length) (hne : ∀ i, i < j → xs.getD i 0 ≠ v) (he : xs.getD j 0 = v) : idxI xs v = (j : Int) := by
  rw [idxI, contains_at hj he, cond_true, idxOf_at hj hne he]
theorem idxI_no {xs : List Int} {v : Int} (h : ∀ i, i < xs.length → xs.getD i 0 ≠ v) : idxI xs v = -1 := by
  rw [idxI, contains_no h, cond_false]
theorem isOB_iff {xs : List Int} : isOB xs = true ↔ ∀ k, k < xs.length → xs.contains (k : Int) = true := by
  simp [isOB, List.all_eq_true]
/-- The least. -/
theorem minL_snoc : ∀ {xs : List Int} {v : Int}, xs ≠ [] → minL (xs ++ [v]) = minI (minL xs) v
  | [], _, h => absurd rfl h
  | [x], v, _ => rfl
  | x :: y :: ys, v, _ => by
    have ih := minL_snoc (xs := y :: ys) (v := v) (by simp)
    simp only [List.cons_append, minL] at ih ⊢
    rw [ih]
    unfold minI
    split <;> split <;> (try split) <;> (try split) <;> omega
theorem dg_facts {sh : List Int} (h : validS sh = true) (hl : 0 < sh.length) : 0 ≤ minL sh ∧ minL sh ≤ 60 ∧ ∀ j : Nat, isPl sh (List.replicate sh.length (j : Int)) = decide ((j : Int) < minL sh) ∧ ((j : Int) < minL sh → offW sh (List.replicate sh.length (j : Int)) 0 = ((j * stpN sh sh.length : Nat) : Int)) := by
  rcases validS_cases h with rfl | ⟨a, rfl, a0, a1⟩ | ⟨a, b, rfl, a0, a1, b0, b1, v⟩ | ⟨a, b, c, rfl, a0, a1, b0, b1, c0, c1, v⟩
  · simp at hl
  · refine ⟨a0, a1, fun j => ⟨?_, fun hj => ?_⟩⟩
    · simp only [minL, List.length_cons, List.length_nil, List.replicate, isPl, Bool.and_true, wS (x := a - 1) (by omega) (by omega)]
      rw [← Bool.decide_and]
      exact decide_eq_decide.2 (by omega)
    · simp only [minL] at hj
      simp only [List.length_cons, List.length_nil, List.replicate, offW, Int.zero_mul, stpN, behN, List.drop, prodN, Nat.zero_add, Nat.mul_one]
      rw [wS (x := 0) (by omega) (by omega), Int.zero_add, wS (by omega) (by omega)]
  · have hm : minL [a, b] = minI a b := rfl
    have hmi : minI a b ≤ a ∧ minI a b ≤ b ∧ (minI a b = a ∨ minI a b = b) := by unfold minI; split <;> omega
    rw [hm]
    refine ⟨by omega, by omega, fun j => ⟨?_, fun hj => ?_⟩⟩
    · simp only [List.length_cons, List.length_nil, List.replicate, isPl, Bool.and_true, wS (x := a - 1) (by omega) (by omega), wS (x := b - 1) (by omega) (by omega)]
      rw [← Bool.decide_and, ← Bool.decide_and, ← Bool.decide_and]
      exact decide_eq_decide.2 (by omega)
    · have hpb := mul60 (a := (j : Int)) (b := b) (by omega) (by omega) b0 b1
      simp only [List.length_cons, List.length_nil, List.replicate, offW, Int.zero_mul, stpN, behN, List.drop, prodN, Nat.zero_add, Nat.mul_one]
      rw [wS (x := 0) (by omega) (by omega), Int.zero_add, wS (x := (j : Int)) (by omega) (by omega), wS (x := (j : Int) * b) (by omega) (by omega), wS (by omega) (by omega), Nat.mul_add, Int.natCast_add, Int.natCast_mul, Int.toNat_of_nonneg b0, Nat.mul_one]
  · have hm : minL [a, b, c] = minI a (minI b c) := rfl
    have hmi : minI a (minI b c) ≤ a ∧ minI a (minI b c) ≤ b ∧ minI a (minI b c) ≤ c ∧ (minI a (minI b c) = a ∨ minI a (minI b c) = b ∨ minI a (minI b c) = c) := by unfold minI; split <;> split <;> omega
    rw [hm]
    refine ⟨by omega, by omega, fun j => ⟨?_, fun hj => ?_⟩⟩
    · simp only [List.length_cons, List.length_nil, List.replicate, isPl, Bool.and_true, wS (x := a - 1) (by omega) (by omega), wS (x := b - 1) (by omega) (by omega), wS (x := c - 1) (by omega) (by omega)]
      rw [← Bool.decide_and, ← Bool.decide_and, ← Bool.decide_and, ← Bool.decide_and, ← Bool.decide_and]
      exact decide_eq_decide.2 (by omega)
    · have hpb := mul60 (a := (j : Int)) (b := b) (by omega) (by omega) b0 b1
      have hpc := mul3600 (a := (j : Int) * b + j) (b := c) (by omega) (by have := horner (a := a) (b := b) (p := (j : Int)) (q := (j : Int)) (by omega) (by omega) (by omega) (by omega); have := mul60 a0 a1 b0 b1; omega) c0 c1
      simp only [List.length_cons, List.length_nil, List.replicate, offW, Int.zero_mul, stpN, behN, List.drop, prodN, Nat.zero_add, Nat.mul_one]
      rw [wS (x := 0) (by omega) (by omega), Int.zero_add, wS (x := (j : Int)) (by omega) (by omega), wS (x := (j : Int) * b) (by omega) (by omega), wS (x := (j : Int) * b + j) (by omega) (by omega), wS (x := ((j : Int) * b + j) * c) (by omega) (by omega), wS (by omega) (by omega)]
      rw [Nat.mul_add, Nat.mul_add, Nat.mul_one, Int.natCast_add, Int.natCast_add, Int.natCast_mul, Int.natCast_mul, Int.natCast_mul, Int.toNat_of_nonneg b0, Int.toNat_of_nonneg c0, Int.add_mul, Int.mul_assoc]
theorem stpN_le {sh : List Int} (h : validS sh = true) : ∀ n, n ≤ sh.length → stpN sh n ≤ n * 3600
  | 0, _ => by simp [stpN]
  | n + 1, hn => by
    have := stpN_le h n (by omega)
    have := (ax_of h (k := n) (by omega)).beh_le
    simp only [stpN]; omega
theorem validS_one {m : Int} (h0 : 0 ≤ m) (h1 : m ≤ 60) : validS [m] = true ∧ volW [m] = m := by
  have hb : allB [m] 0 60 = true := allB_iff.2 fun v hv => by simp at hv; omega
  have hv : volW [m] = m := by rw [vol_prod hb (by simp)]; simp [prodN]; omega
  refine ⟨?_, hv⟩
  simp only [validS, hb, hv]
  simp; omega
theorem dgS_eq {sh da : List Int} (h : dgB sh da = true) : validA sh da = true ∧ 0 < sh.length := by
  simpa [dgB] using h
theorem dg_len (sh da : List Int) : (dgS sh da).length ≤ 3 ∧ (dgD sh da).length ≤ 60 := by
  unfold dgS dgD
  cases h : dgB sh da with
  | false => simp
  | true =>
    obtain ⟨hv, hl⟩ := dgS_eq h
    have := dg_facts (validA_inv hv).1 hl
    simp only [cond_true, dgN, tab_length, List.length_cons, List.length_nil]
    omega
end Go.Ab
namespace Go.Ab
def spV (bs : List Int) (p : Int) (xs : List Int) (n : Int) : List Int :=
  bif pickV bs p 20 == 0 then xs ++ [n] else bif pickV bs p 20 == 1 then xs.drop 1 else
  bif pickV bs p 20 == 2 then xs.set (pickV bs (p + 1) ((xs.length : Nat) : Int)).toNat (oneV bs (p + 1 + 1) [-1, n, 0, 1]) else xs
def spP (bs : List Int) (p : Int) (xs : List Int) : Int :=
  bif pickV bs p 20 == 0 then p + 1 else bif pickV bs p 20 == 1 then p + 1 else
  bif pickV bs p 20 == 2 then (bif decide (0 < xs.length) then p + 1 + 1 + 1 else p + 1) else p + 1
theorem sp_len (bs : List Int) (p : Int) (xs : List Int) (n : Int) : (spV bs p xs n).length ≤ xs.length + 1 := by
  unfold spV
  cases pickV bs p 20 == 0 <;> cases pickV bs p 20 == 1 <;> cases pickV bs p 20 == 2 <;> simp <;> omega
theorem spP_bd (bs : List Int) (p : Int) (xs : List Int) : p + 1 ≤ spP bs p xs ∧ spP bs p xs ≤ p + 3 := by
  unfold spP
  cases pickV bs p 20 == 0 <;> cases pickV bs p 20 == 1 <;> cases pickV bs p 20 == 2 <;> cases decide (0 < xs.length) <;> simp only [cond_true, cond_false] <;> omega
def aArS (bs : List Int) (p : Int) : List Int := bif pickV bs (sDaP bs p) 30 == 0 then aShV bs (sDaP bs p + 1) else sShV bs p
def aArD (bs : List Int) (p : Int) : List Int := bif pickV bs (sDaP bs p) 30 == 0 then sDaV bs p else bif pickV bs (sDaP bs p) 30 == 1 then spV bs (sDaP bs p + 1) (sDaV bs p ++ [5]) 1000001 else sDaV bs p
def aArP (bs : List Int) (p : Int) : Int := bif pickV bs (sDaP bs p) 30 == 0 then sShP bs (sDaP bs p + 1) + 1 else bif pickV bs (sDaP bs p) 30 == 1 then spP bs (sDaP bs p + 1) (sDaV bs p ++ [5]) else sDaP bs p + 1
theorem sSh_len (bs : List Int) (p : Int) : (sShV bs p).length ≤ 3 := by
  unfold sShV
  cases pickV bs p 8 == 0 <;> cases pickV bs p 8 == 1 <;> cases pickV bs p 8 == 2 <;> cases pickV bs p 8 == 3 <;> cases pickV bs p 8 == 4 <;> cases pickV bs p 8 == 5 <;> cases pickV bs p 8 == 6 <;> simp
theorem aSh_len (bs : List Int) (p : Int) : (aShV bs p).length ≤ 4 := by
  have := sSh_len bs p
  unfold aShV
  cases pickV bs (sShP bs p) 24 == 0 <;> cases pickV bs (sShP bs p) 24 == 1 <;> cases pickV bs (sShP bs p) 24 == 2 <;> cases pickV bs (sShP bs p) 24 == 3 <;> simp <;> omega
theorem sDa_bd {bs : List Int} {p : Int} (h : rdOk bs p = true) (hp : p ≤ 2000000) : (sDaV bs p).length ≤ 60 ∧ p + 1 ≤ sDaP bs p ∧ sDaP bs p ≤ p + 64 := by
  have hv := sShV_ok h hp
  have h2 := vol_bd hv
  have h3 := sShP_bd bs p
  simp only [sDaV, fillV, tab_length, sDaP]
  omega
/-- Any array: what is known of it. -/
theorem aAr_bd {bs : List Int} {p : Int} (h : rdOk bs p = true) (hp : p ≤ 1000000) : (aArS bs p).length ≤ 4 ∧ (aArD bs p).length ≤ 62 ∧ p + 1 ≤ aArP bs p ∧ aArP bs p ≤ p + 80 := by
  obtain ⟨h1, h2, h3⟩ := sDa_bd h (by omega)
  have h4 := sSh_len bs p
  have h5 := aSh_len bs (sDaP bs p + 1)
  have h6 := sp_len bs (sDaP bs p + 1) (sDaV bs p ++ [5]) 1000001
  have h7 := spP_bd bs (sDaP bs p + 1) (sDaV bs p ++ [5])
  have h8 := sShP_bd bs (sDaP bs p + 1)
  rw [List.length_append, List.length_cons, List.length_nil] at h6
  unfold aArS aArD aArP
  cases pickV bs (sDaP bs p) 30 == 0 <;> cases pickV bs (sDaP bs p) 30 == 1 <;> simp only [cond_true, cond_false] <;> omega
end Go.Ab
namespace Go.Ab
def smallL : List Int := [0, 1, 2, 3, -1, 5, -2, 4]
def rotL : List Int := [1, 2, -1, 0, 7, -13, 1000000, 1000001]
def takL : List Int := [1, 2, -1, 0, 5, -3, 61, -61, 20]
def aPl0 (bs : List Int) (p : Int) (sh : List Int) : List Int := tab sh.length fun i => pickV bs (p + ((i : Nat) : Int)) (maxI 1 (minI (sh.getD i 0) 9))
def aPl (bs : List Int) (p : Int) (sh : List Int) : List Int :=
  bif pickV bs (p + ((sh.length : Nat) : Int)) 8 == 0 then spV bs (p + ((sh.length : Nat) : Int) + 1) (aPl0 bs p sh ++ [0]) 4 else aPl0 bs p sh
def aPlP (bs : List Int) (p : Int) (sh : List Int) : Int :=
  bif pickV bs (p + ((sh.length : Nat) : Int)) 8 == 0 then spP bs (p + ((sh.length : Nat) : Int) + 1) (aPl0 bs p sh ++ [0]) else p + ((sh.length : Nat) : Int) + 1
theorem aPl0_length (bs : List Int) (p : Int) (sh : List Int) : (aPl0 bs p sh).length = sh.length := tab_length _ _
theorem aPl_bd (bs : List Int) (p : Int) (sh : List Int) : (aPl bs p sh).length ≤ sh.length + 2 ∧ p + ((sh.length : Nat) : Int) + 1 ≤ aPlP bs p sh ∧ aPlP bs p sh ≤ p + ((sh.length : Nat) : Int) + 4 := by
  have h0 := aPl0_length bs p sh
  have h1 := sp_len bs (p + ((sh.length : Nat) : Int) + 1) (aPl0 bs p sh ++ [0]) 4
  have h2 := spP_bd bs (p + ((sh.length : Nat) : Int) + 1) (aPl0 bs p sh ++ [0])
  rw [List.length_append, List.length_cons, List.length_nil] at h1
  unfold aPl aPlP
  cases pickV bs (p + ((sh.length : Nat) : Int)) 8 == 0 <;> simp only [cond_true, cond_false] <;> omega
def aAx (bs : List Int) (p : Int) (sh : List Int) : Int :=
  bif decide (0 < sh.length) then (bif decide (pickV bs p 8 > 0) then pickV bs (p + 1) ((sh.length : Nat) : Int) else oneV bs (p + 1) [0, 1, 3, -1]) else oneV bs p [0, 1, 3, -1]
def aAxP (p : Int) (sh : List Int) : Int := bif decide (0 < sh.length) then p + 1 + 1 else p + 1
theorem aAxP_bd (p : Int) (sh : List Int) : p + 1 ≤ aAxP p sh ∧ aAxP p sh ≤ p + 2 := by
  unfold aAxP
  cases decide (0 < sh.length) <;> simp only [cond_true, cond_false] <;> omega
def dAx (bs : List Int) : Int := aAx bs (aArP bs 0) (aArS bs 0)
def dAxP (bs : List Int) : Int := aAxP (aArP bs 0) (aArS bs 0)
def dVecN (bs : List Int) : Nat := (oneV bs 0 [3, 5, 1, 0, 60, 61]).toNat
def dVec0 (bs : List Int) : List Int := tab (dVecN bs) fun i => oneV bs (1 + ((i : Nat) : Int)) someL
def dVec (bs : List Int) : List Int := spV bs (1 + ((dVecN bs : Nat) : Int)) (dVec0 bs) 1000001
def dPn (bs : List Int) : Int := IntKind.wrap .i64 (pickV bs (sShP bs 0 + 1) 26 - 1)

theorem oneV_mem {bs : List Int} {p : Int} {xs : List Int} (h : rdOk bs p = true) (h0 : 0 < xs.length) (h1 : xs.length ≤ 1000) : oneV bs p xs ∈ xs := by
  have b := pick_bd (n := ((xs.length : Nat) : Int)) h (by omega)
  unfold oneV
  exact mem_getD (by omega)
theorem dVecN_bd {bs : List Int} (h : rdOk bs 0 = true) : dVecN bs ≤ 61 ∧ oneV bs 0 [3, 5, 1, 0, 60, 61] = ((dVecN bs : Nat) : Int) := by
  have hm := oneV_mem (xs := [3, 5, 1, 0, 60, 61]) h (by simp) (by simp)
  unfold dVecN
  generalize oneV bs 0 [3, 5, 1, 0, 60, 61] = x at *
  simp at hm
  omega
theorem dVec_len {bs : List Int} (h : rdOk bs 0 = true) : (dVec bs).length ≤ 62 := by
  have h1 := (dVecN_bd h).1
  have h2 := sp_len bs (1 + ((dVecN bs : Nat) : Int)) (dVec0 bs) 1000001
  have h3 : (dVec0 bs).length = dVecN bs := tab_length _ _
  unfold dVec
  omega
end Go.Ab
namespace Go.Ab
theorem validA_vec {xs : List Int} (h : vecOk xs = true) : validA [((xs.length : Nat) : Int)] xs = true := by
  simp only [vecOk, Bool.and_eq_true, decide_eq_true_eq] at h
  obtain ⟨v1, v2⟩ := validS_one (m := ((xs.length : Nat) : Int)) (by omega) (by omega)
  simp only [validA, v1, v2, h.2, beq_self_eq_true, Bool.and_self]
theorem rav_valid {sh da : List Int} (h : validA sh da = true) : validA [((da.length : Nat) : Int)] da = true := validA_vec (vecOk_of h)
/-- The place with the number of a place. -/
theorem plN3 (a b c : Int) (n : Nat) : plN [a, b, c] n = [((n / (b.toNat * (c.toNat * 1)) % a.toNat : Nat) : Int), ((n / (c.toNat * 1) % b.toNat : Nat) : Int), ((n / 1 % c.toNat : Nat) : Int)] := rfl
theorem plN2 (a b : Int) (n : Nat) : plN [a, b] n = [((n / (b.toNat * 1) % a.toNat : Nat) : Int), ((n / 1 % b.toNat : Nat) : Int)] := rfl
theorem plN1 (a : Int) (n : Nat) : plN [a] n = [((n / 1 % a.toNat : Nat) : Int)] := rfl
theorem isPl3 {a b c p q r : Int} (a1 : a ≤ 60) (a0 : 0 ≤ a) (b0 : 0 ≤ b) (b1 : b ≤ 60) (c0 : 0 ≤ c) (c1 : c ≤ 60) : isPl [a, b, c] [p, q, r] = decide ((0 ≤ p ∧ p < a) ∧ (0 ≤ q ∧ q < b) ∧ (0 ≤ r ∧ r < c)) := by
  simp only [isPl, Bool.and_true, wS (x := a - 1) (by omega) (by omega), wS (x := b - 1) (by omega) (by omega), wS (x := c - 1) (by omega) (by omega)]
  rw [← Bool.decide_and, ← Bool.decide_and, ← Bool.decide_and, ← Bool.decide_and, ← Bool.decide_and]
  exact decide_eq_decide.2 (by omega)
theorem isPl2 {a b p q : Int} (a1 : a ≤ 60) (a0 : 0 ≤ a) (b0 : 0 ≤ b) (b1 : b ≤ 60) : isPl [a, b] [p, q] = decide ((0 ≤ p ∧ p < a) ∧ (0 ≤ q ∧ q < b)) := by
  simp only [isPl, Bool.and_true, wS (x := a - 1) (by omega) (by omega), wS (x := b - 1) (by omega) (by omega)]
  rw [← Bool.decide_and, ← Bool.decide_and, ← Bool.decide_and]
  exact decide_eq_decide.2 (by omega)
theorem isPl1 {a p : Int} (a1 : a ≤ 60) (a0 : 0 ≤ a) : isPl [a] [p] = decide (0 ≤ p ∧ p < a) := by
  simp only [isPl, Bool.and_true, wS (x := a - 1) (by omega) (by omega)]
  rw [← Bool.decide_and]
  exact decide_eq_decide.2 (by omega)
theorem off3 {A B C p q r : Nat} (hA : A ≤ 60) (hB : B ≤ 60) (hC : C ≤ 60) (hp : p < A) (hq : q < B) (hr : r < C) : offW [(A : Int), (B : Int), (C : Int)] [(p : Int), (q : Int), (r : Int)] 0 = (((p * B + q) * C + r : Nat) : Int) := by
  have h1 : p * B ≤ 60 * 60 := Nat.mul_le_mul (by omega) hB
  have h2 : (p * B + q) * C ≤ 3660 * 60 := Nat.mul_le_mul (by omega) hC
  simp only [offW, Int.zero_mul]
  rw [wS (x := 0) (by omega) (by omega), Int.zero_add, wN (n := p) (by omega), wMul (by omega), wAdd (by omega), wMul (by omega), wAdd (by omega)]
theorem off2 {A B p q : Nat} (hA : A ≤ 60) (hB : B ≤ 60) (hp : p < A) (hq : q < B) : offW [(A : Int), (B : Int)] [(p : Int), (q : Int)] 0 = ((p * B + q : Nat) : Int) := by
  have h1 : p * B ≤ 60 * 60 := Nat.mul_le_mul (by omega) hB
  simp only [offW, Int.zero_mul]
  rw [wS (x := 0) (by omega) (by omega), Int.zero_add, wN (n := p) (by omega), wMul (by omega), wAdd (by omega)]
theorem off1 {A p : Nat} (hA : A ≤ 60) (hp : p < A) : offW [(A : Int)] [(p : Int)] 0 = (p : Int) := by
  simp only [offW, Int.zero_mul]
  rw [wS (x := 0) (by omega) (by omega), Int.zero_add, wN (n := p) (by omega)]
theorem pl_off {sh pl : List Int} (h : validS sh = true) (hp : isPl sh pl = true) : plN sh (offW sh pl 0).toNat = pl := by
  have hl := isPl_len hp
  rcases validS_cases h with rfl | ⟨a, rfl, a0, a1⟩ | ⟨a, b, rfl, a0, a1, b0, b1, v⟩ | ⟨a, b, c, rfl, a0, a1, b0, b1, c0, c1, v⟩
  · match pl, hl with
    | [], _ => rfl
  · match pl, hl with
    | [p], _ =>
      rw [isPl1 a1 a0, decide_eq_true_eq] at hp
      obtain ⟨A, rfl⟩ : ∃ A : Nat, a = A := ⟨a.toNat, by omega⟩
      obtain ⟨p, rfl⟩ : ∃ A : Nat, p = A := ⟨p.toNat, by omega⟩
      rw [off1 (by omega) (by omega), plN1, Int.toNat_natCast, Int.toNat_natCast, Nat.div_one, Nat.mod_eq_of_lt (by omega)]
  · match pl, hl with
    | [p, q], _ =>
      rw [isPl2 a1 a0 b0 b1, decide_eq_true_eq] at hp
      obtain ⟨A, rfl⟩ : ∃ A : Nat, a = A := ⟨a.toNat, by omega⟩
      obtain ⟨B, rfl⟩ : ∃ A : Nat, b = A := ⟨b.toNat, by omega⟩
      obtain ⟨p, rfl⟩ : ∃ A : Nat, p = A := ⟨p.toNat, by omega⟩
      obtain ⟨q, rfl⟩ : ∃ A : Nat, q = A := ⟨q.toNat, by omega⟩
      obtain ⟨d1, d2⟩ := divmod (a := p) (show q < B by omega)
      rw [off2 (by omega) (by omega) (by omega) (by omega), plN2]
      simp only [Int.toNat_natCast, Nat.mul_one, Nat.div_one, d1, d2]
      rw [Nat.mod_eq_of_lt (by omega)]
  · match pl, hl with
    | [p, q, r], _ =>
      rw [isPl3 a1 a0 b0 b1 c0 c1, decide_eq_true_eq] at hp
      obtain ⟨A, rfl⟩ : ∃ A : Nat, a = A := ⟨a.toNat, by omega⟩
      obtain ⟨B, rfl⟩ : ∃ A : Nat, b = A := ⟨b.toNat, by omega⟩
      obtain ⟨C, rfl⟩ : ∃ A : Nat, c = A := ⟨c.toNat, by omega⟩
      obtain ⟨p, rfl⟩ : ∃ A : Nat, p = A := ⟨p.toNat, by omega⟩
      obtain ⟨q, rfl⟩ : ∃ A : Nat, q = A := ⟨q.toNat, by omega⟩
      obtain ⟨r, rfl⟩ : ∃ A : Nat, r = A := ⟨r.toNat, by omega⟩
      obtain ⟨d1, d2⟩ := divmod (a := p) (show q < B by omega)
      obtain ⟨d3, d4⟩ := divmod (a := p * B + q) (show r < C by omega)
      rw [off3 (by omega) (by omega) (by omega) (by omega) (by omega) (by omega), plN3]
      simp only [Int.toNat_natCast, Nat.mul_one, Nat.div_one]
      rw [Nat.mul_comm B C, ← Nat.div_div_eq_div_mul, d3, d4, d1, d2, Nat.mod_eq_of_lt (by omega)]
theorem off_pl {sh : List Int} {n : Nat} (h : validS sh = true) (hn : n < prodN sh) : isPl sh (plN sh n) = true ∧ offW sh (plN sh n) 0 = (n : Int) := by
  rcases validS_cases h with rfl | ⟨a, rfl, a0, a1⟩ | ⟨a, b, rfl, a0, a1, b0, b1, v⟩ | ⟨a, b, c, rfl, a0, a1, b0, b1, c0, c1, v⟩
  · have : n = 0 := by simp [prodN] at hn; omega
    subst this
    exact ⟨rfl, rfl⟩
  · obtain ⟨A, rfl⟩ : ∃ A : Nat, a = A := ⟨a.toNat, by omega⟩
    simp only [prodN, Int.toNat_natCast, Nat.mul_one] at hn
    rw [plN1, isPl1 a1 a0, Int.toNat_natCast, Nat.div_one, Nat.mod_eq_of_lt hn, off1 (by omega) hn]
    exact ⟨decide_eq_true (by omega), rfl⟩
  · obtain ⟨A, rfl⟩ : ∃ A : Nat, a = A := ⟨a.toNat, by omega⟩
    obtain ⟨B, rfl⟩ : ∃ A : Nat, b = A := ⟨b.toNat, by omega⟩
    simp only [prodN, Int.toNat_natCast, Nat.mul_one] at hn
    obtain ⟨d1, d2, d3⟩ := dec2 hn
    rw [plN2]
    simp only [Int.toNat_natCast, Nat.mul_one, Nat.div_one]
    rw [Nat.mod_eq_of_lt d1, isPl2 a1 a0 b0 b1, off2 (by omega) (by omega) d1 d2, d3]
    exact ⟨decide_eq_true ⟨⟨Int.natCast_nonneg _, Int.ofNat_lt.mpr d1⟩, ⟨Int.natCast_nonneg _, Int.ofNat_lt.mpr d2⟩⟩, rfl⟩
  · obtain ⟨A, rfl⟩ : ∃ A : Nat, a = A := ⟨a.toNat, by omega⟩
    obtain ⟨B, rfl⟩ : ∃ A : Nat, b = A := ⟨b.toNat, by omega⟩
    obtain ⟨C, rfl⟩ : ∃ A : Nat, c = A := ⟨c.toNat, by omega⟩
    simp only [prodN, Int.toNat_natCast, Nat.mul_one] at hn
    rw [← Nat.mul_assoc] at hn
    obtain ⟨d1, d2, d3, d4⟩ := dec3 hn
    rw [plN3]
    simp only [Int.toNat_natCast, Nat.mul_one, Nat.div_one]
    rw [Nat.mul_comm B C, ← Nat.div_div_eq_div_mul, Nat.mod_eq_of_lt d1, isPl3 a1 a0 b0 b1 c0 c1, off3 (by omega) (by omega) (by omega) d1 d2 d3, d4]
    exact ⟨decide_eq_true ⟨⟨Int.natCast_nonneg _, Int.ofNat_lt.mpr d1⟩, ⟨Int.natCast_nonneg _, Int.ofNat_lt.mpr d2⟩, ⟨Int.natCast_nonneg _, Int.ofNat_lt.mpr d3⟩⟩, rfl⟩
end Go.Ab
namespace Go.Ab
theorem validA_set {sh da : List Int} {i : Nat} {n : Int} (h : validA sh da = true) (hn : numB n = true) : validA sh (da.set i n) = true := by
  obtain ⟨h1, h2, h3⟩ := validA_inv h
  have hb : allB (da.set i n) (-1000000) 1000000 = true := allB_iff.2 fun v hv => by
    rcases List.mem_or_eq_of_mem_set hv with h4 | h4
    · exact allB_iff.1 h3 v h4
    · subst h4
      have := numB_inv hn
      omega
  simp only [validA, h1, hb, List.length_set, h2, beq_self_eq_true, Bool.and_self]
theorem numB_get {sh da : List Int} {i : Nat} (h : validA sh da = true) (hi : i < da.length) : numB (da.getD i 0) = true := by
  have := allB_iff.1 (validA_inv h).2.2 _ (mem_getD hi)
  simp only [numB, Bool.and_eq_true, decide_eq_true_eq]
  exact this
theorem itemB_inv {sh da pl : List Int} (h : itemB sh da pl = true) : validA sh da = true ∧ isPl sh pl = true ∧ 0 ≤ offW sh pl 0 ∧ (offW sh pl 0).toNat < da.length := by
  simp only [itemB, Bool.and_eq_true] at h
  have h1 := validA_inv h.1
  have h2 := off_bd h1.1 h.2
  exact ⟨h.1, h.2, h2.1, by omega⟩
/-- The place with the next number comes later. -/
theorem next_pl {sh : List Int} {n : Nat} (h : validS sh = true) (hn : n + 1 < prodN sh) : ∃ i, i < sh.length ∧ (∀ j, j < i → (plN sh (n + 1)).getD j 0 = (plN sh n).getD j 0) ∧ (plN sh n).getD i 0 < (plN sh (n + 1)).getD i 0 := by
  rcases validS_cases h with rfl | ⟨a, rfl, a0, a1⟩ | ⟨a, b, rfl, a0, a1, b0, b1, v⟩ | ⟨a, b, c, rfl, a0, a1, b0, b1, c0, c1, v⟩
  · simp [prodN] at hn
  · simp only [prodN, Nat.mul_one] at hn
    refine ⟨0, by simp, fun j hj => absurd hj (by omega), ?_⟩
    rw [plN1, plN1, Nat.div_one, Nat.div_one, Nat.mod_eq_of_lt hn, Nat.mod_eq_of_lt (by omega)]
    simp; omega
  · simp only [prodN, Nat.mul_one] at hn
    obtain ⟨d1, d2, d3⟩ := dec2 (show n < a.toNat * b.toNat by omega)
    rw [plN2, plN2]
    simp only [Nat.mul_one, Nat.div_one]
    generalize a.toNat = A at *
    generalize b.toNat = B at *
    generalize n / B = p at *
    generalize n % B = q at *
    subst d3
    rw [Nat.mod_eq_of_lt d1]
    by_cases hq : q + 1 < B
    · obtain ⟨e1, e2, e3⟩ := enc2 d1 hq
      rw [Nat.add_assoc, e2, e3, Nat.mod_eq_of_lt d1]
      refine ⟨1, by simp, fun j hj => ?_, ?_⟩
      · obtain rfl : j = 0 := by omega
        rfl
      · simp; omega
    · have hB : 0 < B := by omega
      have hp : p + 1 < A := by
        have h1 : p * B + q + 1 = (p + 1) * B := by rw [Nat.add_mul]; omega
        rw [h1] at hn
        exact Nat.lt_of_mul_lt_mul_right hn
      obtain ⟨e1, e2, e3⟩ := enc2 (m := 0) hp hB
      rw [show p * B + q + 1 = (p + 1) * B + 0 by rw [Nat.add_mul]; omega, e2, e3, Nat.mod_eq_of_lt hp]
      refine ⟨0, by simp, fun j hj => absurd hj (by omega), ?_⟩
      simp; omega
  · simp only [prodN, Nat.mul_one] at hn
    rw [← Nat.mul_assoc] at hn
    obtain ⟨d1, d2, d3, d4⟩ := dec3 (show n < a.toNat * b.toNat * c.toNat by omega)
    rw [plN3, plN3]
    simp only [Nat.mul_one, Nat.div_one]
    rw [Nat.mul_comm b.toNat c.toNat, ← Nat.div_div_eq_div_mul, ← Nat.div_div_eq_div_mul]
    generalize a.toNat = A at *
    generalize b.toNat = B at *
    generalize c.toNat = C at *
    generalize n / C / B = p at *
    generalize n / C % B = q at *
    generalize n % C = r at *
    subst d4
    rw [Nat.mod_eq_of_lt d1]
    by_cases hr : r + 1 < C
    · obtain ⟨e1, e2, e3, e4⟩ := enc3 d1 d2 hr
      rw [Nat.add_assoc, e2, e3, e4, Nat.mod_eq_of_lt d1]
      refine ⟨2, by simp, fun j hj => ?_, ?_⟩
      · match j, hj with
        | 0, _ => rfl
        | 1, _ => rfl
      · simp; omega
    · have hC : 0 < C := by omega
      by_cases hq : q + 1 < B
      · obtain ⟨e1, e2, e3, e4⟩ := enc3 (m := 0) d1 hq hC
        rw [show (p * B + q) * C + r + 1 = (p * B + (q + 1)) * C + 0 by rw [← Nat.add_assoc, Nat.add_mul (p * B + q)]; omega, e2, e3, e4, Nat.mod_eq_of_lt d1]
        refine ⟨1, by simp, fun j hj => ?_, ?_⟩
        · obtain rfl : j = 0 := by omega
          rfl
        · simp; omega
      · have hB : 0 < B := by omega
        have e0 : (p * B + q) * C + r + 1 = ((p + 1) * B + 0) * C + 0 := by
          rw [show (p + 1) * B + 0 = p * B + q + 1 by rw [Nat.add_mul]; omega, Nat.add_mul (p * B + q)]
          omega
        have hp : p + 1 < A := by
          rw [e0] at hn
          simp only [Nat.add_zero] at hn
          exact Nat.lt_of_mul_lt_mul_right (Nat.lt_of_mul_lt_mul_right hn)
        obtain ⟨e1, e2, e3, e4⟩ := enc3 (m := 0) (i := 0) hp hB hC
        rw [e0, e2, e3, e4, Nat.mod_eq_of_lt hp]
        refine ⟨0, by simp, fun j hj => absurd hj (by omega), ?_⟩
        simp; omega
end Go.Ab
namespace Go.Ab
theorem tab_ext {n : Nat} {f : Nat → Int} {xs : List Int} (hl : xs.length = n) (h : ∀ i, i < n → xs.getD i 0 = f i) : xs = tab n f := by
  apply List.ext_getElem (by rw [hl, tab_length])
  intro i h1 h2
  have hi : i < n := by omega
  have e1 := h i hi
  have e2 := tab_getD (f := f) hi
  simp only [List.getD_eq_getElem?_getD, List.getElem?_eq_getElem h1, List.getElem?_eq_getElem h2, Option.getD_some] at e1 e2
  rw [e1, e2]
theorem atV_bd {L M : Nat} {da : List Int} (h : allB da (-1000000) 1000000 = true) (b : Nat) (p : Int) (m : Nat) : -1000000 ≤ atV L M da b p m ∧ atV L M da b p m ≤ 1000000 := by
  unfold atV
  cases decide (0 ≤ p) with
  | false => simp
  | true =>
    simp only [cond_true]
    by_cases hi : (b * L + p.toNat) * M + m < da.length
    · exact allB_iff.1 h _ (mem_getD hi)
    · rw [List.getD_eq_getElem?_getD, List.getElem?_eq_none (by omega)]
      simp
/-- An array whose axis has other places is valid. -/
theorem al_valid {sh da : List Int} {k : Nat} {ls : List Int} (hv : validA sh da = true) (hk : k < sh.length) (hp : validS (alS sh k ls) = true) : validA (alS sh k ls) (alA sh da k ls) = true := by
  have ax := ax_of hp (k := k) (by rw [alS_len]; exact hk)
  have h3 := (validA_inv hv).2.2
  have hvol := ax.vol
  have hb : allB (alA sh da k ls) (-1000000) 1000000 = true := allB_iff.2 fun v hv => by
    rw [alA_nat] at hv
    obtain ⟨n, hn, rfl⟩ := tab_mem hv
    exact atV_bd h3 _ _ _
  have hl := alA_length sh da k ls
  simp only [alS, Int.toNat_natCast] at hvol
  rw [len_set hk, bef_set, beh_set, Int.toNat_natCast] at hvol
  simp only [validA, hp, hb, hl, Bool.true_and, Bool.and_true, beq_iff_eq]
  simp only [alS, Int.toNat_natCast, hvol]
theorem lenK_set {sh ls : List Int} {k : Nat} (hk : k < sh.length) : lenN (alS sh k ls) k = ls.length := by
  simp only [alS, Int.toNat_natCast]
  rw [len_set hk, Int.toNat_natCast]
theorem al_al {sh da ls js : List Int} {k : Nat} (hk : k < sh.length) (hj : ∀ j ∈ js, j < ls.length) : alA (alS sh k ls) (alA sh da k ls) k js = alA sh da k (js.map fun j => bif decide (0 ≤ j) then ls.getD j.toNat 0 else -1) := by
  rw [alA_nat, alA_nat, alA_nat, lenK_set hk]
  simp only [alS, Int.toNat_natCast]
  rw [bef_set, beh_set, alD_alD hj]
theorem al_id {sh da ls : List Int} {k : Nat} (hv : validA sh da = true) (hk : k < sh.length) (hl : ls.length = lenN sh k) (hi : ∀ i, i < lenN sh k → ls.getD i 0 = (i : Int)) : alA sh da k ls = da := by
  rw [alA_nat]
  exact alD_id (ax_data hv hk) hl hi
theorem alS_same {sh ls : List Int} {k : Nat} (h : validS sh = true) (hk : k < sh.length) (hl : ls.length = lenN sh k) : alS sh k ls = sh := by
  have ax := ax_of h hk
  simp only [alS, Int.toNat_natCast, hl]
  exact set_len ax
theorem map_getD {js : List Int} {f : Int → Int} {i : Nat} (hi : i < js.length) : (js.map f).getD i 0 = f (js.getD i 0) := by simp [hi]
theorem emod_add {L : Nat} (x y : Int) : (x % (L : Int) + y) % (L : Int) = (x + y) % (L : Int) := by simp
/-- What the shown places come to, one after the other. -/
theorem rv_rv {L : Nat} : ((rvL L).map fun j => bif decide (0 ≤ j) then (rvL L).getD j.toNat 0 else -1) = tab L fun i => (i : Int) := by
  refine tab_ext (by rw [List.length_map, rvL_length]) fun i hi => ?_
  rw [map_getD (by rw [rvL_length]; exact hi), rvL, tab_getD hi, decide_eq_true (by omega), cond_true, Int.toNat_natCast, tab_getD (by omega)]
  omega
theorem rt_get {L : Nat} {n : Int} {i : Nat} (hi : i < L) : (rtL L n).getD i 0 = ((i : Int) + n) % (L : Int) := tab_getD hi
theorem rt_rt {L : Nat} (n m : Int) : ((rtL L m).map fun j => bif decide (0 ≤ j) then (rtL L n).getD j.toNat 0 else -1) = rtL L (n + m) := by
  refine tab_ext (by rw [List.length_map, rtL_length]) fun i hi => ?_
  have b1 := Int.emod_nonneg ((i : Int) + m) (b := (L : Int)) (by omega)
  have b2 := Int.emod_lt_of_pos ((i : Int) + m) (b := (L : Int)) (by omega)
  rw [map_getD (by rw [rtL_length]; exact hi), rt_get hi, decide_eq_true b1, cond_true, rt_get (by omega), Int.toNat_of_nonneg b1, emod_add]
  congr 1
  omega
theorem rt_id {L : Nat} {n : Int} (h : n % (L : Int) = 0) : ∀ i, i < L → (rtL L n).getD i 0 = (i : Int) := by
  intro i hi
  rw [rt_get hi, Int.add_emod, h, Int.add_zero, Int.emod_emod]
  exact Int.emod_eq_of_lt (by omega) (by omega)
theorem rt_rv {L : Nat} (n : Int) : ((rvL L).map fun j => bif decide (0 ≤ j) then (rtL L n).getD j.toNat 0 else -1) = ((rtL L (-n)).map fun j => bif decide (0 ≤ j) then (rvL L).getD j.toNat 0 else -1) := by
  have e1 : ((rvL L).map fun j => bif decide (0 ≤ j) then (rtL L n).getD j.toNat 0 else -1) = tab L fun i => ((L : Int) - 1 - i + n) % (L : Int) := by
    refine tab_ext (by rw [List.length_map, rvL_length]) fun i hi => ?_
    rw [map_getD (by rw [rvL_length]; exact hi), rvL, tab_getD hi, decide_eq_true (by omega), cond_true, Int.toNat_natCast, rt_get (by omega)]
    congr 1
    omega
  rw [e1]
  symm
  refine tab_ext (by rw [List.length_map, rtL_length]) fun i hi => ?_
  have b1 := Int.emod_nonneg ((i : Int) + -n) (b := (L : Int)) (by omega)
  have b2 := Int.emod_lt_of_pos ((i : Int) + -n) (b := (L : Int)) (by omega)
  rw [map_getD (by rw [rtL_length]; exact hi), rt_get hi, decide_eq_true b1, cond_true, rvL, tab_getD (by omega)]
  have hd := Int.emod_add_mul_ediv ((i : Int) + -n) (L : Int)
  generalize ((i : Int) + -n) % (L : Int) = r at *
  generalize ((i : Int) + -n) / (L : Int) = q at *
  have e : (L : Int) - 1 - (i : Int) + n = ((L : Int) - 1 - r) + (L : Int) * (-q) := by rw [Int.mul_neg]; omega
  rw [e, Int.add_mul_emod_self_left, Int.emod_eq_of_lt (by omega) (by omega)]
  omega
theorem tk_tk {L : Nat} {n : Int} : ((tkL n.natAbs n).map fun j => bif decide (0 ≤ j) then (tkL L n).getD j.toNat 0 else -1) = tkL L n := by
  conv => rhs; unfold tkL
  refine tab_ext (by rw [List.length_map, tkL_length]) fun i hi => ?_
  rw [map_getD (by rw [tkL_length]; exact hi)]
  have e : (tkL n.natAbs n).getD i 0 = (i : Int) := by
    unfold tkL
    rw [tab_getD hi]
    have : (bif decide (n < 0) then ((n.natAbs : Nat) : Int) + n else 0) = 0 := by
      by_cases h : n < 0
      · rw [decide_eq_true h, cond_true]; omega
      · rw [decide_eq_false h, cond_false]
    rw [this, Int.zero_add, tkP, decide_eq_true (by omega), decide_eq_true (by omega)]
    rfl
  rw [e, decide_eq_true (by omega), cond_true, Int.toNat_natCast]
  unfold tkL
  rw [tab_getD hi]
end Go.Ab
namespace Go.Ab
theorem mapF_bd {fn n : Int} (h : numB n = true) : numB (mapF fn n) = true := by
  have hn := numB_inv h
  refine numB_of ?_
  unfold mapF
  cases fn == 1 with
  | true => simp only [cond_true]; rw [wS (by omega) (by omega)]; omega
  | false =>
    cases fn == 2 with
    | true => simp only [cond_true, cond_false, absV]; rw [wS (by omega) (by omega)]; unfold maxI; split <;> omega
    | false =>
      cases fn == 3 with
      | true => simp only [cond_true, cond_false, sgnV]; cases decide (n < 0) <;> cases decide (n > 0) <;> simp
      | false => simp only [cond_false, tInt]; cases n == 0 <;> simp
theorem mapF1 {n : Int} (h : numB n = true) : mapF 1 n = -n := by
  have hn := numB_inv h
  simp only [mapF]
  rw [show ((1 : Int) == 1) = true from rfl, cond_true, wS (by omega) (by omega)]; omega
theorem mapF2 {n : Int} (h : numB n = true) : mapF 2 n = ((n.natAbs : Nat) : Int) := by
  have hn := numB_inv h
  simp only [mapF]
  rw [show ((2 : Int) == 1) = false from rfl, show ((2 : Int) == 2) = true from rfl, cond_true, cond_false, absV, wS (by omega) (by omega)]
  unfold maxI
  split <;> omega
theorem mapF3 (n : Int) : mapF 3 n = sgnV n := rfl
theorem mapF4 (n : Int) : mapF 4 n = tInt (n == 0) := rfl
theorem mapB_of {fn : Int} {sh da : List Int} (hf : fnOk fn = true) (hv : validA sh da = true) : mapB fn sh da = true := by simp only [mapB, hf, hv, Bool.and_self]
def mapX (fn : Int) (da : List Int) : List Int := tab da.length fun i => mapF fn (da.getD i 0)
theorem mapX_length (fn : Int) (da : List Int) : (mapX fn da).length = da.length := tab_length _ _
theorem mapX_get {fn : Int} {da : List Int} {i : Nat} (h : i < da.length) : (mapX fn da).getD i 0 = mapF fn (da.getD i 0) := tab_getD h
theorem mapS_eq {fn : Int} {sh da : List Int} (hf : fnOk fn = true) (hv : validA sh da = true) : mapS fn sh da = sh ∧ mapD fn sh da = mapX fn da := by
  simp only [mapS, mapD, mapB_of hf hv, cond_true]; exact ⟨trivial, rfl⟩
/-- Data of the same number. -/
theorem valid_same {sh d1 d2 : List Int} (h : validA sh d1 = true) (hl : d2.length = d1.length) (hb : ∀ i, i < d2.length → numB (d2.getD i 0) = true) : validA sh d2 = true := by
  obtain ⟨h1, h2, h3⟩ := validA_inv h
  have hb2 : allB d2 (-1000000) 1000000 = true := allB_iff.2 fun v hv => by
    obtain ⟨i, hi, rfl⟩ := List.getElem_of_mem hv
    have := numB_inv (hb i hi)
    simpa [hi] using this
  simp only [validA, h1, hb2, hl, h2, beq_self_eq_true, Bool.and_self]
theorem map_valid {sh da : List Int} (fn : Int) (hv : validA sh da = true) : validA sh (mapX fn da) = true :=
  valid_same hv (mapX_length _ _) fun i hi => by rw [mapX_length] at hi; rw [mapX_get hi]; exact mapF_bd (numB_get hv hi)
theorem cD_same (op : Int) {s d1 d2 : List Int} (h1 : validA s d1 = true) (h2 : validA s d2 = true) : cD op s d1 s d2 = tab d1.length fun i => operF op (d1.getD i 0) (d2.getD i 0) := by
  have e1 := (validA_inv h1).2.1
  have e2 := (validA_inv h2).2.1
  have hc : cS s s = s := by unfold cS; cases decide (s.length = 0) <;> rfl
  rw [cD, hc, ← e1, Int.toNat_natCast]
  refine tab_congr fun i hi => ?_
  rw [show min i (d1.length - 1) = i by omega, show min i (d2.length - 1) = i by omega]
theorem cS_same (s : List Int) : cS s s = s := by unfold cS; cases decide (s.length = 0) <;> rfl
theorem fit_same (s : List Int) : fitB s s = true := by unfold fitB; cases decide (s.length = 0) <;> simp
theorem com_same {op : Int} {s d1 d2 : List Int} (ho : opOk op = true) (h1 : validA s d1 = true) (h2 : validA s d2 = true) : comB op s d1 s d2 = true ∧ comS op s d1 s d2 = s ∧ comD op s d1 s d2 = tab d1.length fun i => operF op (d1.getD i 0) (d2.getD i 0) := by
  have hb : comB op s d1 s d2 = true := by simp only [comB, ho, h1, h2, fit_same, Bool.and_self]
  refine ⟨hb, ?_, ?_⟩
  · simp only [comS, hb, cond_true, cS_same]
  · simp only [comD, hb, cond_true, cD_same op h1 h2]
/-- A number beside an array. -/
theorem com_right {op : Int} {s d : List Int} {n : Int} (ho : opOk op = true) (h1 : validA s d = true) (hn : numB n = true) : comB op s d [] [n] = true ∧ comS op s d [] [n] = s ∧ comD op s d [] [n] = tab d.length fun i => operF op (d.getD i 0) n := by
  have h2 : validA [] [n] = true := by
    have := numB_inv hn
    simp only [validA, allB_cons, allB_nil, Bool.and_true, Bool.and_eq_true, decide_eq_true_eq]
    exact ⟨⟨rfl, rfl⟩, this⟩
  have hf : fitB s [] = true := by unfold fitB; cases decide (s.length = 0) <;> rfl
  have hb : comB op s d [] [n] = true := by simp only [comB, ho, h1, h2, hf, Bool.and_self]
  have e1 := (validA_inv h1).2.1
  have hc : cS s [] = s := by
    unfold cS
    by_cases h0 : s.length = 0
    · have := List.length_eq_zero_iff.mp h0; subst this; rfl
    · rw [decide_eq_false h0]; rfl
  refine ⟨hb, ?_, ?_⟩
  · simp only [comS, hb, cond_true, hc]
  · simp only [comD, hb, cond_true, cD]
    rw [hc, ← e1, Int.toNat_natCast]
    refine tab_congr fun i hi => ?_
    rw [show min i (d.length - 1) = i by omega]
    congr 1
    simp
theorem sign_size {n : Int} (h : numB n = true) : operF 3 (mapF 3 n) (mapF 2 n) = n := by
  have hn := numB_inv h
  rw [mapF2 h, mapF3]
  show limV (IntKind.wrap .i64 (sgnV n * ((n.natAbs : Nat) : Int))) = n
  have e : sgnV n * ((n.natAbs : Nat) : Int) = n := by
    unfold sgnV
    by_cases h0 : n < 0
    · rw [decide_eq_true h0, cond_true]; omega
    · rw [decide_eq_false h0, cond_false]
      by_cases h1 : n > 0
      · rw [decide_eq_true h1, cond_true]; omega
      · rw [decide_eq_false h1, cond_false]; omega
  rw [e, wS (by omega) (by omega)]
  unfold limV minI maxI
  split <;> split <;> omega
theorem neg_neg {n : Int} (h : numB n = true) : mapF 1 (mapF 1 n) = n := by
  rw [mapF1 (mapF_bd h), mapF1 h]; omega
theorem not_not {n : Int} (h : numB n = true) : operF 6 (mapF 4 (mapF 4 n)) (mapF 2 (mapF 3 n)) = 1 := by
  have e2 := mapF2 (mapF_bd (fn := 3) h)
  rw [e2, mapF3, mapF4, mapF4]
  unfold sgnV
  by_cases h0 : n = 0
  · subst h0; rfl
  · have h1 : (n == 0) = false := beq_eq_false_iff_ne.2 h0
    rw [h1]
    by_cases h2 : n < 0
    · rw [decide_eq_true h2]; rfl
    · rw [decide_eq_false h2, decide_eq_true (p := n > 0) (by omega)]; rfl
end Go.Ab
namespace Go.Ab
def apB (bs : List Int) (p : Int) (c : Int) : Bool := pickV bs (aArP bs p) 6 == c
def apS1 (bs : List Int) (p : Int) : List Int := bif apB bs p 0 then aArS bs p else bif apB bs p 1 then [] else aArS bs p
def apD1 (bs : List Int) (p : Int) : List Int := bif apB bs p 0 then aArD bs p else bif apB bs p 1 then [oneV bs (aArP bs p + 1) someL] else aArD bs p
def apS2 (bs : List Int) (p : Int) : List Int := bif apB bs p 0 then aArS bs (aArP bs p + 1) else bif apB bs p 1 then aArS bs p else bif apB bs p 2 then [] else aArS bs p
def apD2 (bs : List Int) (p : Int) : List Int := bif apB bs p 0 then aArD bs (aArP bs p + 1) else bif apB bs p 1 then aArD bs p else bif apB bs p 2 then [oneV bs (aArP bs p + 1) someL] else
  bif !(validA (aArS bs p) (aArD bs p)) then aArD bs p else fillV bs (aArP bs p + 1) (aArS bs p)
def apP (bs : List Int) (p : Int) : Int := bif apB bs p 0 then aArP bs (aArP bs p + 1) else bif apB bs p 1 then aArP bs p + 1 + 1 else bif apB bs p 2 then aArP bs p + 1 + 1 else
  bif !(validA (aArS bs p) (aArD bs p)) then aArP bs p + 1 else aArP bs p + 1 + volW (aArS bs p)
theorem ap_bd {bs : List Int} {p : Int} (h : rdOk bs p = true) (hp : p ≤ 900000) : (apS1 bs p).length ≤ 4 ∧ (apD1 bs p).length ≤ 62 ∧ (apS2 bs p).length ≤ 4 ∧ (apD2 bs p).length ≤ 62 ∧ p + 1 ≤ apP bs p ∧ apP bs p ≤ p + 200 := by
  obtain ⟨h1, h2, h3, h4⟩ := aAr_bd h (by omega)
  obtain ⟨k1, k2, k3, k4⟩ := aAr_bd (rd_le (q := aArP bs p + 1) h (by omega) (by omega)) (by omega)
  unfold apS1 apD1 apS2 apD2 apP
  cases apB bs p 0 with
  | true => simp only [cond_true]; omega
  | false =>
    cases apB bs p 1 with
    | true => simp only [cond_true, cond_false, List.length_nil, List.length_cons]; omega
    | false =>
      cases apB bs p 2 with
      | true => simp only [cond_true, cond_false, List.length_nil, List.length_cons]; omega
      | false =>
        cases hv : validA (aArS bs p) (aArD bs p) with
        | false => simp only [cond_true, cond_false, Bool.not_false]; omega
        | true =>
          have := vol_bd (validA_inv hv).1
          simp only [cond_false, Bool.not_true, fillV, tab_length]; omega
/-- Combinations of arrays. -/
theorem com_inv {op : Int} {s1 d1 s2 d2 : List Int} (h : comB op s1 d1 s2 d2 = true) : opOk op = true ∧ validA s1 d1 = true ∧ validA s2 d2 = true ∧ fitB s1 s2 = true ∧ (s1 = [] ∧ d1.length = 1 ∨ s1 ≠ [] ∧ s2 = [] ∧ d2.length = 1 ∨ s1 ≠ [] ∧ s1 = s2 ∧ d1.length = d2.length) := by
  simp only [comB, Bool.and_eq_true] at h
  obtain ⟨⟨⟨h1, h2⟩, h3⟩, h4⟩ := h
  refine ⟨h1, h2, h3, h4, ?_⟩
  unfold fitB at h4
  by_cases e1 : s1 = []
  · subst e1; exact .inl ⟨rfl, sc_len h2⟩
  · by_cases e2 : s2 = []
    · subst e2; exact .inr (.inl ⟨e1, rfl, sc_len h3⟩)
    · have l1 : s1.length ≠ 0 := fun h => e1 (List.length_eq_zero_iff.mp h)
      have l2 : s2.length ≠ 0 := fun h => e2 (List.length_eq_zero_iff.mp h)
      rw [decide_eq_false l1, decide_eq_false l2] at h4
      have := of_decide_eq_true h4
      subst this
      have a := (validA_inv h2).2.1
      have b := (validA_inv h3).2.1
      exact .inr (.inr ⟨e1, rfl, by omega⟩)
/-- Where the numbers of a combination come from. -/
def c1 (s d : List Int) (i : Nat) : Int := bif decide (s.length > 0) then d.getD i 0 else d.getD 0 0
theorem com_get {op : Int} {s1 d1 s2 d2 : List Int} (h : comB op s1 d1 s2 d2 = true) {i : Nat} (hi : i < (cD op s1 d1 s2 d2).length) : 0 < d1.length ∧ 0 < d2.length ∧ (0 < s1.length → i < d1.length) ∧ (0 < s2.length → i < d2.length) ∧
    (cD op s1 d1 s2 d2).getD i 0 = operF op (c1 s1 d1 i) (c1 s2 d2 i) := by
  obtain ⟨h1, h2, h3, h4, h5⟩ := com_inv h
  have v1 := (validA_inv h2).2.1
  have v2 := (validA_inv h3).2.1
  simp only [cD, tab_length] at hi
  have e0 : (cD op s1 d1 s2 d2).getD i 0 = operF op (d1.getD (min i (d1.length - 1)) 0) (d2.getD (min i (d2.length - 1)) 0) := by simp only [cD]; rw [tab_getD hi]
  rw [e0]
  rcases h5 with ⟨e1, l1⟩ | ⟨e1, e2, l2⟩ | ⟨e1, e2, l2⟩
  · subst e1
    have hc : cS [] s2 = s2 := rfl
    rw [hc] at hi
    have hd : i < d2.length := by omega
    refine ⟨by omega, by omega, fun h => absurd h (by simp), fun _ => hd, ?_⟩
    rw [show min i (d1.length - 1) = 0 by omega, show min i (d2.length - 1) = i by omega]
    unfold c1
    by_cases hs : s2.length > 0
    · rw [decide_eq_true hs]; rfl
    · have e3 := List.length_eq_zero_iff.mp (show s2.length = 0 by omega)
      subst e3
      have := sc_len h3
      obtain rfl : i = 0 := by omega
      rfl
  · subst e2
    have l1 : s1.length ≠ 0 := fun h => e1 (List.length_eq_zero_iff.mp h)
    have hc : cS s1 [] = s1 := by rw [cS, decide_eq_false l1]; rfl
    rw [hc] at hi
    have hd : i < d1.length := by omega
    refine ⟨by omega, by omega, fun _ => hd, fun h => absurd h (by simp), ?_⟩
    rw [show min i (d1.length - 1) = i by omega, show min i (d2.length - 1) = 0 by omega]
    unfold c1
    rw [decide_eq_true (p := s1.length > 0) (by omega)]
    rfl
  · subst e2
    have l1 : s1.length ≠ 0 := fun h => e1 (List.length_eq_zero_iff.mp h)
    rw [cS_same] at hi
    have hd : i < d1.length := by omega
    refine ⟨by omega, by omega, fun _ => hd, fun _ => by omega, ?_⟩
    rw [show min i (d1.length - 1) = i by omega, show min i (d2.length - 1) = i by omega]
    unfold c1
    rw [decide_eq_true (p := s1.length > 0) (by omega)]
    rfl
theorem c1_num {s d : List Int} {i : Nat} (h : validA s d = true) (h0 : 0 < d.length) (hi : 0 < s.length → i < d.length) : numB (c1 s d i) = true := by
  unfold c1
  by_cases hs : s.length > 0
  · rw [decide_eq_true hs, cond_true]; exact numB_get h (hi hs)
  · rw [decide_eq_false hs, cond_false]; exact numB_get h h0
theorem cS_valid {op : Int} {s1 d1 s2 d2 : List Int} (h : comB op s1 d1 s2 d2 = true) : validS (cS s1 s2) = true := by
  obtain ⟨h1, h2, h3, h4, h5⟩ := com_inv h
  unfold cS
  cases decide (s1.length = 0) with
  | true => exact (validA_inv h3).1
  | false => exact (validA_inv h2).1
theorem com_valid {op : Int} {s1 d1 s2 d2 : List Int} (h : comB op s1 d1 s2 d2 = true) : validA (cS s1 s2) (cD op s1 d1 s2 d2) = true := by
  have hs := cS_valid h
  have hv := vol_bd hs
  obtain ⟨h1, h2, h3, h4, h5⟩ := com_inv h
  have hb : allB (cD op s1 d1 s2 d2) (-1000000) 1000000 = true := allB_iff.2 fun v hv => by
    obtain ⟨i, hi, rfl⟩ := List.getElem_of_mem hv
    obtain ⟨x1, x2, x3, x4, x5⟩ := com_get h hi
    have := operF_bd h1 (c1_num h2 x1 x3) (c1_num h3 x2 x4)
    rw [← x5] at this
    simpa [hi] using this
  have hl : (((cD op s1 d1 s2 d2).length : Nat) : Int) = volW (cS s1 s2) := by simp only [cD, tab_length]; omega
  simp only [validA, hs, hb, hl, beq_self_eq_true, Bool.and_self]
theorem fit_comm (s1 s2 : List Int) : fitB s1 s2 = fitB s2 s1 := by
  unfold fitB
  cases h1 : decide (s1.length = 0) <;> cases h2 : decide (s2.length = 0) <;> simp only [cond_true, cond_false]
  exact decide_eq_decide.2 eq_comm
theorem com_comm {op : Int} {s1 d1 s2 d2 : List Int} (ho : op = 1 ∨ op = 3 ∨ op = 4 ∨ op = 5 ∨ op = 6) : comB op s2 d2 s1 d1 = comB op s1 d1 s2 d2 ∧ comS op s2 d2 s1 d1 = comS op s1 d1 s2 d2 ∧ comD op s2 d2 s1 d1 = comD op s1 d1 s2 d2 := by
  have hb : comB op s2 d2 s1 d1 = comB op s1 d1 s2 d2 := by
    unfold comB
    rw [fit_comm s2 s1]
    cases opOk op <;> cases validA s1 d1 <;> cases validA s2 d2 <;> rfl
  refine ⟨hb, ?_⟩
  unfold comS comD
  rw [hb]
  cases h : comB op s1 d1 s2 d2 with
  | false => exact ⟨rfl, rfl⟩
  | true =>
    obtain ⟨h1, h2, h3, h4, h5⟩ := com_inv h
    have hS : cS s2 s1 = cS s1 s2 := by
      unfold fitB at h4
      unfold cS
      by_cases e1 : s1.length = 0
      · by_cases e2 : s2.length = 0
        · rw [List.length_eq_zero_iff.mp e1, List.length_eq_zero_iff.mp e2]
        · rw [decide_eq_true e1, decide_eq_false e2]; rfl
      · by_cases e2 : s2.length = 0
        · rw [decide_eq_false e1, decide_eq_true e2]; rfl
        · rw [decide_eq_false e1, decide_eq_false e2] at h4 ⊢
          have := of_decide_eq_true h4
          subst this; rfl
    refine ⟨hS, ?_⟩
    simp only [cond_true]
    have h' : comB op s2 d2 s1 d1 = true := by rw [hb, h]
    have hl : (cD op s2 d2 s1 d1).length = (cD op s1 d1 s2 d2).length := by simp only [cD, tab_length, hS]
    apply List.ext_getElem hl
    intro i i1 i2
    obtain ⟨x1, x2, x3, x4, x5⟩ := com_get h i2
    obtain ⟨y1, y2, y3, y4, y5⟩ := com_get h' i1
    have e := operV_comm ho (c1 s1 d1 i) (c1 s2 d2 i)
    simp only [operV, h1, c1_num h2 x1 x3, c1_num h3 x2 x4, Bool.and_self, cond_true] at e
    rw [← x5, ← y5] at e
    simpa [i1, i2] using e
theorem red_ones (n : Nat) : redF 3 (List.replicate n 1) = 1 := by
  induction n with
  | zero => rfl
  | succ n ih =>
    cases n with
    | zero => rfl
    | succ n =>
      rw [List.replicate_succ, redF_cons (by simp), ih]
      rfl
theorem red_zeros (n : Nat) : redF 5 (List.replicate n 0) ≤ 0 := by
  induction n with
  | zero => decide
  | succ n ih =>
    cases n with
    | zero => simp [redF]
    | succ n =>
      rw [List.replicate_succ, redF_cons (by simp)]
      show maxI 0 (redF 5 (List.replicate (n + 1) 0)) ≤ 0
      unfold maxI
      split <;> omega
theorem tab_const {n : Nat} {f : Nat → Int} {c : Int} (h : ∀ i, i < n → f i = c) : tab n f = List.replicate n c := by
  symm
  refine tab_ext (by simp) fun i hi => ?_
  rw [h i hi]
  simp [hi]
end Go.Ab
