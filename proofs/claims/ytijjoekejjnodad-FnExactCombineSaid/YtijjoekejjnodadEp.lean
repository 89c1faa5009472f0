import Derived.Test.YtijjoekejjnodadAbLaw
open Go Go.Ab
set_option linter.unusedVariables false
set_option linter.unusedSimpArgs false
namespace Go.Ab
/-- What is left of a mark: k, k + 1, and so on. -/
def markL : List Int → Int → List Int
  | [], _ => []
  | _ :: xs, k => k :: markL xs (IntKind.wrap .i64 (k + 1))
def markK : List Int → Int → Int
  | [], k => k
  | _ :: xs, k => markK xs (IntKind.wrap .i64 (k + 1))
def heldL : List Int → Int → Int
  | [], k => k
  | x :: xs, k => bif x != k then -1 else heldL xs (IntKind.wrap .i64 (k + 1))
def heldA (sh da : List Int) (k : Int) : Int := bif decide (heldL sh k < 0) then -1 else bif decide (heldL da (heldL sh k) < 0) then -1 else heldL da (heldL sh k)
def numB (v : Int) : Bool := decide (-1000000 ≤ v) && decide (v ≤ 1000000)
def scalL (v : Int) : List Int := bif numB v then [v] else []
abbrev nilI : List Int := []

theorem idx_nat {j n : Nat} (h : j < n) : idx (j : Int) n = some j := by simp [idx, h]
theorem w1 {j : Nat} (h : j < 9223372036854775807) : IntKind.wrap .i64 ((j : Int) + 1) = ((j + 1 : Nat) : Int) := by rw [IntKind.wrap_i64]; omega
theorem dlt {j n : Nat} (h : j < n) : decide ((j : Int) < ((n : Nat) : Int)) = true := by simp [h]
theorem dge {j n : Nat} (h : ¬ j < n) : decide ((j : Int) < ((n : Nat) : Int)) = false := by simp; omega
theorem getS {xs : List Int} {j : Nat} (h : j < xs.length) : xs[j]? = some xs[j] := List.getElem?_eq_getElem h
theorem dropS {xs : List Int} {j : Nat} (h : j < xs.length) : xs.drop j = xs[j] :: xs.drop (j + 1) := List.drop_eq_getElem_cons h
theorem dropE {xs : List Int} {j : Nat} (h : ¬ j < xs.length) : xs.drop j = [] := List.drop_eq_nil_of_le (by omega)
theorem markL_length (xs : List Int) (k : Int) : (markL xs k).length = xs.length := by
  induction xs generalizing k with
  | nil => rfl
  | cons x xs ih => simp [markL, ih]
end Go.Ab
namespace Go.Ab
def szB (xs : List Int) : Bool := decide (xs.length ≤ 1099511627776)
def szI (xs : List Int) (left : Int) : Int := bif decide (IntKind.wrap .i64 (left - ((xs.length : Nat) : Int)) < 0) then -1 else IntKind.wrap .i64 (left - ((xs.length : Nat) : Int))
def szA (sh da : List Int) (left : Int) : Int := bif decide (szI sh left < 0) then -1 else bif decide (szI da (szI sh left) < 0) then -1 else szI da (szI sh left)
def allB (xs : List Int) (lo hi : Int) : Bool := xs.all fun v => decide (lo ≤ v) && decide (v ≤ hi)
def volFrom : List Int → Int → Int
  | [], n => n
  | x :: xs, n => volFrom xs (IntKind.wrap .i64 (n * x))
def volW (xs : List Int) : Int := volFrom xs 1
def validS (sh : List Int) : Bool := decide (((sh.length : Nat) : Int) ≤ 3) && allB sh 0 60 && decide (volW sh ≤ 60)
def validA (sh da : List Int) : Bool := validS sh && (((da.length : Nat) : Int) == volW sh) && allB da (-1000000) 1000000
def rankV (sh da : List Int) : Int := bif validA sh da then ((sh.length : Nat) : Int) else -1
def sizeV (sh da : List Int) : Int := bif validA sh da then ((da.length : Nat) : Int) else -1
def strd (sh : List Int) (k : Nat) : Int := bif decide (k < sh.length) then volW (sh.drop (k + 1)) else 0
def cntOk (n : Int) : Bool := decide (0 ≤ n) && decide (n ≤ 60)
def cntS (n : Int) : List Int := bif cntOk n then [n] else []
def cntD (n : Int) : List Int := bif cntOk n then (List.range n.toNat).map Int.ofNat else []
def vecOk (xs : List Int) : Bool := decide (xs.length ≤ 60) && allB xs (-1000000) 1000000
def vecS (xs : List Int) : List Int := bif vecOk xs then [((xs.length : Nat) : Int)] else []
def vecD (xs : List Int) : List Int := bif vecOk xs then xs else []

theorem szB_lt {xs : List Int} (h : szB xs = true) : xs.length < 9223372036854775808 := by
  have := of_decide_eq_true h; omega
theorem szB_le {xs : List Int} (h : szB xs = true) : xs.length ≤ 1099511627776 := of_decide_eq_true h
theorem szB_of {xs : List Int} (h : xs.length ≤ 1099511627776) : szB xs = true := decide_eq_true h
theorem lt_of {xs : List Int} (h : xs.length < 9223372036854775808) : decide (xs.length < 9223372036854775808) = true := decide_eq_true h
theorem wS {x : Int} (h1 : -9223372036854775808 ≤ x) (h2 : x ≤ 9223372036854775807) : IntKind.wrap .i64 x = x := by rw [IntKind.wrap_i64]; omega
theorem mkOk {n : Int} (h0 : 0 ≤ n) (h : n ≤ 1099511627776) : (decide (0 ≤ n) && decide (n ≤ n) && decide (n ≤ 1152921504606846976) && decide (((8 : Nat) : Int) * n ≤ 281474976710656)) = true := by
  simp; omega
theorem fitsOk {n : Nat} (h : n ≤ 4398046511104) : fits n 8 = true := by simp [fits]; omega
theorem copyL_all (xs : List Int) : copyL (List.replicate xs.length 0) 0 (List.replicate xs.length (0 : Int)).length xs = xs := by
  simp [copyL, spl]
theorem take_set_succ {xs out : List Int} {j : Nat} (hj : j < xs.length) (h2 : j < out.length) (h : out.take j = xs.take j) : (out.set j xs[j]).take (j + 1) = xs.take (j + 1) := by
  rw [List.take_add_one, List.take_add_one, List.take_set, List.set_eq_of_length_le (by simp; omega), h]
  simp [h2, hj]
theorem mul60 {a b : Int} (ha : 0 ≤ a) (ha' : a ≤ 60) (hb : 0 ≤ b) (hb' : b ≤ 60) : 0 ≤ a * b ∧ a * b ≤ 3600 :=
  ⟨Int.mul_nonneg ha hb, Int.le_trans (Int.mul_le_mul ha' hb' hb (by omega)) (by omega)⟩
theorem mul3600 {a b : Int} (ha : 0 ≤ a) (ha' : a ≤ 3600) (hb : 0 ≤ b) (hb' : b ≤ 60) : 0 ≤ a * b ∧ a * b ≤ 216000 :=
  ⟨Int.mul_nonneg ha hb, Int.le_trans (Int.mul_le_mul ha' hb' hb (by omega)) (by omega)⟩
theorem allB_nil (lo hi : Int) : allB [] lo hi = true := rfl
theorem allB_cons (x : Int) (xs : List Int) (lo hi : Int) : allB (x :: xs) lo hi = ((decide (lo ≤ x) && decide (x ≤ hi)) && allB xs lo hi) := rfl
theorem numB_eq (v : Int) : numB v = (decide (-1000000 ≤ v) && decide (v ≤ 1000000)) := rfl
theorem szI_small {xs : List Int} {left : Int} (h0 : 0 ≤ left) (h1 : left ≤ 1048576) (hx : xs.length < 9223372036854775808) : szI xs left = bif decide (left < ((xs.length : Nat) : Int)) then -1 else left - ((xs.length : Nat) : Int) := by
  unfold szI
  rw [wS (by omega) (by omega)]
  by_cases h : left < ((xs.length : Nat) : Int)
  · have h' : left - ((xs.length : Nat) : Int) < 0 := by omega
    simp [h, h']
  · have h' : ¬ left - ((xs.length : Nat) : Int) < 0 := by omega
    simp [h, h']
/-- What a law's guard says. -/
theorem szA_small {sh da : List Int} (h1 : sh.length < 9223372036854775808) (h2 : da.length < 9223372036854775808) (h : ¬ szA sh da 1048576 < 0) : sh.length + da.length ≤ 1048576 := by
  unfold szA at h
  rw [szI_small (by omega) (by omega) h1] at h
  by_cases ha : (1048576 : Int) < ((sh.length : Nat) : Int)
  · simp [ha] at h
  · simp only [ha, decide_false, cond_false] at h
    rw [szI_small (by omega) (by omega) h2] at h
    by_cases hb : (1048576 - ((sh.length : Nat) : Int)) < ((da.length : Nat) : Int)
    · simp only [hb, decide_true, cond_true] at h
      have hneg : ¬ (1048576 - ((sh.length : Nat) : Int) < 0) := by omega
      simp [hneg] at h
    · omega
end Go.Ab
namespace Go.Ab
theorem markK_eq : ∀ (xs : List Int) (k : Int), 0 ≤ k → k + xs.length < 4611686018427387904 → markK xs k = k + ((xs.length : Nat) : Int)
  | [], k, _, _ => by simp [markK]
  | x :: xs, k, h0, h1 => by
    simp only [List.length_cons] at h1
    simp only [markK]
    rw [wS (by omega) (by omega), markK_eq xs (k + 1) (by omega) (by omega)]
    simp only [List.length_cons]
    omega
theorem heldL_mark : ∀ (xs : List Int) (k : Int), 0 ≤ k → k + xs.length < 4611686018427387904 → heldL (markL xs k) k = k + ((xs.length : Nat) : Int)
  | [], k, _, _ => by simp [markL, heldL]
  | x :: xs, k, h0, h1 => by
    simp only [List.length_cons] at h1
    simp only [markL, heldL, bne_self_eq_false, cond_false]
    rw [wS (by omega) (by omega), heldL_mark xs (k + 1) (by omega) (by omega)]
    simp only [List.length_cons]
    omega
theorem mark1_ok {xs : List Int} (h : xs.length ≤ 4398046511104) : decide (markK xs 1 < 0) = false := by
  rw [markK_eq xs 1 (by omega) (by omega)]; simp; omega
/-- What the marks of an array's memory say: nothing is shared. -/
theorem marks_ok {sh da : List Int} (h1 : sh.length ≤ 1099511627776) (h2 : da.length ≤ 1099511627776) :
    decide (sh.length < 9223372036854775808) = true ∧ decide (da.length < 9223372036854775808) = true ∧ decide ((markL sh 1).length < 9223372036854775808) = true ∧
    decide ((markL da (markK sh 1)).length < 9223372036854775808) = true ∧ heldA (markL sh 1) (markL da (markK sh 1)) 1 = markK da (markK sh 1) ∧ decide (markK da (markK sh 1) < 0) = false := by
  have e1 := markK_eq sh 1 (by omega) (by omega)
  have e2 := markK_eq da (1 + ((sh.length : Nat) : Int)) (by omega) (by omega)
  have e3 := heldL_mark sh 1 (by omega) (by omega)
  have e4 := heldL_mark da (1 + ((sh.length : Nat) : Int)) (by omega) (by omega)
  refine ⟨decide_eq_true (by omega), decide_eq_true (by omega), by rw [markL_length]; exact decide_eq_true (by omega), by rw [markL_length]; exact decide_eq_true (by omega), ?_, by rw [e1, e2]; exact decide_eq_false (by omega)⟩
  unfold heldA
  rw [e1, e3, e4, e2, decide_eq_false (by omega), decide_eq_false (by omega)]
  rfl
theorem cnt_len (n : Int) : (cntS n).length ≤ 1 ∧ (cntD n).length ≤ 60 := by
  unfold cntS cntD
  cases h : cntOk n with
  | false => simp
  | true =>
    have : 0 ≤ n ∧ n ≤ 60 := by simpa [cntOk] using h
    simp; omega
theorem vec_len (xs : List Int) : (vecS xs).length ≤ 1 ∧ (vecD xs).length ≤ 60 := by
  unfold vecS vecD
  cases h : vecOk xs with
  | false => simp
  | true =>
    have : xs.length ≤ 60 := by simp [vecOk] at h; exact h.1
    simp; omega
end Go.Ab
namespace Go.Ab
/-- A list by a rule. -/
def tab (n : Nat) (f : Nat → Int) : List Int := (List.range n).map f
theorem tab_length (n : Nat) (f : Nat → Int) : (tab n f).length = n := by simp [tab]
theorem tab_succ (n : Nat) (f : Nat → Int) : tab (n + 1) f = tab n f ++ [f n] := by simp [tab, List.range_succ]
theorem tab_get {n : Nat} {f : Nat → Int} {i : Nat} (h : i < n) : (tab n f)[i]? = some (f i) := by simp [tab, h]
theorem tab_getD {n : Nat} {f : Nat → Int} {i : Nat} (h : i < n) : (tab n f).getD i 0 = f i := by simp [tab, h]
theorem tab_congr {n : Nat} {f g : Nat → Int} (h : ∀ i, i < n → f i = g i) : tab n f = tab n g := by
  unfold tab
  exact List.map_congr_left fun i hi => h i (by simpa using hi)
theorem tab_self (xs : List Int) : tab xs.length (fun i => xs.getD i 0) = xs := by
  apply List.ext_getElem?
  intro i
  by_cases h : i < xs.length
  · rw [tab_get h]; simp [h]
  · rw [List.getElem?_eq_none (by rw [tab_length]; omega), List.getElem?_eq_none (by omega)]
/-- A row that is filled from the front. -/
theorem fill_step {n j : Nat} {f : Nat → Int} {out : List Int} (hj : j < n) (hl : out.length = n) (h : out.take j = tab j f) : (out.set j (f j)).take (j + 1) = tab (j + 1) f := by
  rw [tab_succ, ← h, List.take_add_one, List.take_set, List.set_eq_of_length_le (by simp; omega)]
  have : j < out.length := by omega
  simp [this]
/-- A number that is left as it is. -/
theorem fill_keep {n j : Nat} {f : Nat → Int} {out : List Int} (hj : j < n) (hl : out.length = n) (h : out.take j = tab j f) (h2 : out[j]? = some (f j)) : out.take (j + 1) = tab (j + 1) f := by
  rw [tab_succ, ← h, List.take_add_one, h2]
  rfl
theorem fill_end {n : Nat} {f : Nat → Int} {out : List Int} (hl : out.length = n) (h : out.take n = tab n f) : out = tab n f := by
  rw [← h, List.take_of_length_le (by omega)]
theorem divmod {a b c : Nat} (h : c < b) : (a * b + c) / b = a ∧ (a * b + c) % b = c := by
  constructor
  · rw [Nat.add_comm, Nat.add_mul_div_right _ _ (by omega), Nat.div_eq_of_lt h, Nat.zero_add]
  · rw [Nat.add_comm, Nat.add_mul_mod_self_right, Nat.mod_eq_of_lt h]
end Go.Ab
namespace Go.Ab
def offW : List Int → List Int → Int → Int
  | [], _, n => n
  | _ :: _, [], n => n
  | s :: sh, p :: pl, n => offW sh pl (IntKind.wrap .i64 (IntKind.wrap .i64 (n * s) + p))
def isPl : List Int → List Int → Bool
  | [], [] => true
  | s :: sh, p :: pl => (decide (0 ≤ p) && decide (p ≤ IntKind.wrap .i64 (s - 1))) && isPl sh pl
  | _, _ => false
def offS (sh pl : List Int) : Int := bif validS sh && isPl sh pl then offW sh pl 0 else -1
def offA (sh da pl : List Int) : Int := bif validA sh da then offS sh pl else -1
def itemB (sh da pl : List Int) : Bool := validA sh da && isPl sh pl
def itemV (sh da pl : List Int) : Int := bif itemB sh da pl then da.getD (offW sh pl 0).toNat 0 else 0
def withB (sh da pl : List Int) (n : Int) : Bool := itemB sh da pl && numB n
def withS (sh da pl : List Int) (n : Int) : List Int := bif withB sh da pl n then sh else []
def withD (sh da pl : List Int) (n : Int) : List Int := bif withB sh da pl n then da.set (offW sh pl 0).toNat n else []

theorem isPl_len : ∀ {sh pl : List Int}, isPl sh pl = true → pl.length = sh.length
  | [], [], _ => rfl
  | [], _ :: _, h => by simp [isPl] at h
  | _ :: _, [], h => by simp [isPl] at h
  | s :: sh, p :: pl, h => by
    simp only [isPl, Bool.and_eq_true] at h
    simp [isPl_len h.2]
theorem isPl_ne {sh pl : List Int} (h : pl.length ≠ sh.length) : isPl sh pl = false := by
  cases hb : isPl sh pl with
  | false => rfl
  | true => exact absurd (isPl_len hb) h
theorem validS_inv {sh : List Int} (h : validS sh = true) : sh.length ≤ 3 ∧ allB sh 0 60 = true ∧ volW sh ≤ 60 := by
  simp only [validS, Bool.and_eq_true, decide_eq_true_eq] at h
  exact ⟨by omega, h.1.2, h.2⟩
theorem horner {a b p q : Int} (hp : 0 ≤ p) (hp2 : p < a) (hq : 0 ≤ q) (hq2 : q < b) : 0 ≤ p * b + q ∧ p * b + q < a * b := by
  have h1 : 0 ≤ p * b := Int.mul_nonneg hp (by omega)
  have h2 : (p + 1) * b ≤ a * b := Int.mul_le_mul_of_nonneg_right (by omega) (by omega)
  rw [Int.add_mul, Int.one_mul] at h2
  omega
/-- A valid shape, by its number of axes. -/
theorem validS_cases {sh : List Int} (h : validS sh = true) : sh = [] ∨ (∃ a, sh = [a] ∧ 0 ≤ a ∧ a ≤ 60) ∨ (∃ a b, sh = [a, b] ∧ 0 ≤ a ∧ a ≤ 60 ∧ 0 ≤ b ∧ b ≤ 60 ∧ a * b ≤ 60) ∨
    ∃ a b c, sh = [a, b, c] ∧ 0 ≤ a ∧ a ≤ 60 ∧ 0 ≤ b ∧ b ≤ 60 ∧ 0 ≤ c ∧ c ≤ 60 ∧ a * b * c ≤ 60 := by
  obtain ⟨h1, h2, h3⟩ := validS_inv h
  match sh, h1, h2, h3 with
  | [], _, _, _ => exact .inl rfl
  | [a], _, h2, h3 =>
    simp only [allB_cons, allB_nil, Bool.and_true, Bool.and_eq_true, decide_eq_true_eq] at h2
    exact .inr (.inl ⟨a, rfl, h2.1, h2.2⟩)
  | [a, b], _, h2, h3 =>
    simp only [allB_cons, allB_nil, Bool.and_true, Bool.and_eq_true, decide_eq_true_eq] at h2
    have hm := mul60 h2.1.1 h2.1.2 h2.2.1 h2.2.2
    simp only [volW, volFrom, Int.one_mul, wS (x := a) (by omega) (by omega), wS (x := a * b) (by omega) (by omega)] at h3
    exact .inr (.inr (.inl ⟨a, b, rfl, h2.1.1, h2.1.2, h2.2.1, h2.2.2, h3⟩))
  | [a, b, c], _, h2, h3 =>
    simp only [allB_cons, allB_nil, Bool.and_true, Bool.and_eq_true, decide_eq_true_eq] at h2
    have hm := mul60 h2.1.1 h2.1.2 h2.2.1.1 h2.2.1.2
    have hm3 := mul3600 hm.1 hm.2 h2.2.2.1 h2.2.2.2
    simp only [volW, volFrom, Int.one_mul, wS (x := a) (by omega) (by omega), wS (x := a * b) (by omega) (by omega), wS (x := a * b * c) (by omega) (by omega)] at h3
    exact .inr (.inr (.inr ⟨a, b, c, rfl, h2.1.1, h2.1.2, h2.2.1.1, h2.2.1.2, h2.2.2.1, h2.2.2.2, h3⟩))
  | _ :: _ :: _ :: _ :: _, h1, _, _ => simp at h1
/-- The number of a place, without wraps, and where it lies. -/
theorem off_bd {sh pl : List Int} (h : validS sh = true) (hp : isPl sh pl = true) : 0 ≤ offW sh pl 0 ∧ offW sh pl 0 < volW sh := by
  have hl := isPl_len hp
  rcases validS_cases h with rfl | ⟨a, rfl, a0, a1⟩ | ⟨a, b, rfl, a0, a1, b0, b1, v⟩ | ⟨a, b, c, rfl, a0, a1, b0, b1, c0, c1, v⟩
  · match pl, hl with
    | [], _ => decide
  · match pl, hl with
    | [p], _ =>
      simp only [isPl, Bool.and_true, Bool.and_eq_true, decide_eq_true_eq, wS (x := a - 1) (by omega) (by omega)] at hp
      simp only [offW, volW, volFrom, Int.zero_mul, Int.one_mul, wS (x := a) (by omega) (by omega)]
      rw [wS (x := 0) (by omega) (by omega), Int.zero_add, wS (x := p) (by omega) (by omega)]
      omega
  · match pl, hl with
    | [p, q], _ =>
      simp only [isPl, Bool.and_true, Bool.and_eq_true, decide_eq_true_eq, wS (x := a - 1) (by omega) (by omega), wS (x := b - 1) (by omega) (by omega)] at hp
      have hh := horner (a := a) (b := b) hp.1.1 (by omega) hp.2.1 (by omega)
      have hpb := mul60 (a := p) (b := b) hp.1.1 (by omega) b0 b1
      simp only [offW, volW, volFrom, Int.zero_mul, Int.one_mul, wS (x := a) (by omega) (by omega)]
      rw [wS (x := 0) (by omega) (by omega), Int.zero_add, wS (x := p) (by omega) (by omega), wS (x := p * b) (by omega) (by omega), wS (x := p * b + q) (by omega) (by omega), wS (x := a * b) (by omega) (by omega)]
      exact hh
  · match pl, hl with
    | [p, q, r], _ =>
      simp only [isPl, Bool.and_true, Bool.and_eq_true, decide_eq_true_eq, wS (x := a - 1) (by omega) (by omega), wS (x := b - 1) (by omega) (by omega), wS (x := c - 1) (by omega) (by omega)] at hp
      have hh := horner (a := a) (b := b) hp.1.1 (by omega) hp.2.1.1 (by omega)
      have hpb := mul60 (a := p) (b := b) hp.1.1 (by omega) b0 b1
      have hab := mul60 a0 a1 b0 b1
      have hh2 := horner (a := a * b) (b := c) hh.1 hh.2 hp.2.2.1 (by omega)
      have habc := mul3600 hab.1 hab.2 c0 c1
      have hpc := mul3600 (a := p * b + q) (b := c) hh.1 (by omega) c0 c1
      simp only [offW, volW, volFrom, Int.zero_mul, Int.one_mul, wS (x := a) (by omega) (by omega)]
      rw [wS (x := 0) (by omega) (by omega), Int.zero_add, wS (x := p) (by omega) (by omega), wS (x := p * b) (by omega) (by omega), wS (x := p * b + q) (by omega) (by omega), wS (x := (p * b + q) * c) (by omega) (by omega), wS (x := (p * b + q) * c + r) (by omega) (by omega),
        wS (x := a * b) (by omega) (by omega), wS (x := a * b * c) (by omega) (by omega)]
      exact hh2
end Go.Ab
namespace Go.Ab
theorem validA_inv {sh da : List Int} (h : validA sh da = true) : validS sh = true ∧ ((da.length : Nat) : Int) = volW sh ∧ allB da (-1000000) 1000000 = true := by
  simp only [validA, Bool.and_eq_true, beq_iff_eq] at h
  exact ⟨h.1.1, h.1.2, h.2⟩
theorem validA_len {sh da : List Int} (h : validA sh da = true) : sh.length ≤ 3 ∧ da.length ≤ 60 := by
  obtain ⟨h1, h2, _⟩ := validA_inv h
  obtain ⟨h3, _, h4⟩ := validS_inv h1
  exact ⟨h3, by omega⟩
/-- A place of a valid array lies in its numbers. -/
theorem item_idx {sh da pl : List Int} (h : itemB sh da pl = true) : (offW sh pl 0).toNat < da.length ∧ idx (offW sh pl 0) da.length = some (offW sh pl 0).toNat ∧ offA sh da pl = offW sh pl 0 ∧ ¬ offA sh da pl < 0 := by
  simp only [itemB, Bool.and_eq_true] at h
  obtain ⟨h1, h2, _⟩ := validA_inv h.1
  obtain ⟨g1, g2⟩ := off_bd h1 h.2
  have e : offA sh da pl = offW sh pl 0 := by unfold offA offS; rw [h.1, h1, h.2]; rfl
  refine ⟨by omega, ?_, e, by omega⟩
  unfold idx
  rw [if_pos ⟨g1, by omega⟩]
theorem item_no {sh da pl : List Int} (h : itemB sh da pl = false) : offA sh da pl = -1 := by
  unfold offA offS
  unfold itemB at h
  cases hv : validA sh da with
  | false => rfl
  | true =>
    rw [hv] at h
    simp only [Bool.true_and] at h
    rw [h, Bool.and_false]
    rfl
end Go.Ab
namespace Go.Ab
theorem mark2_ok {xs ys : List Int} (h1 : xs.length ≤ 4398046511104) (h2 : ys.length ≤ 4398046511104) : decide (markK ys (markK xs 1) < 0) = false := by
  rw [markK_eq xs 1 (by omega) (by omega), markK_eq ys _ (by omega) (by omega)]
  exact decide_eq_false (by omega)
theorem mark3_ok {xs ys zs : List Int} (h1 : xs.length ≤ 4398046511104) (h2 : ys.length ≤ 4398046511104) (h3 : zs.length ≤ 4398046511104) : decide (markK zs (markK ys (markK xs 1)) < 0) = false := by
  rw [markK_eq xs 1 (by omega) (by omega), markK_eq ys _ (by omega) (by omega), markK_eq zs _ (by omega) (by omega)]
  exact decide_eq_false (by omega)
theorem with_len (sh da pl : List Int) (n : Int) : (withS sh da pl n).length ≤ 3 ∧ (withD sh da pl n).length ≤ 60 := by
  unfold withS withD
  cases h : withB sh da pl n with
  | false => simp
  | true =>
    simp only [withB, itemB, Bool.and_eq_true] at h
    obtain ⟨l1, l2⟩ := validA_len h.1.1
    simp
    omega
end Go.Ab
namespace Go.Ab
def limV (n : Int) : Int := minI (maxI n (-1000000)) 1000000
def tInt (b : Bool) : Int := bif b then 1 else 0
def absV (n : Int) : Int := maxI n (IntKind.wrap .i64 (0 - n))
def modV (a b : Int) : Int := Int.tmod (IntKind.wrap .i64 (Int.tmod a b + b)) b
def restV (d n : Int) : Int := bif decide (d ≤ 0) then n else modV n d
def opOk (op : Int) : Bool := decide (1 ≤ op) && decide (op ≤ 8)
def operF (op a b : Int) : Int :=
  bif op == 1 then limV (IntKind.wrap .i64 (a + b)) else bif op == 2 then limV (IntKind.wrap .i64 (a - b)) else bif op == 3 then limV (IntKind.wrap .i64 (a * b)) else bif op == 4 then minI a b else
  bif op == 5 then maxI a b else bif op == 6 then tInt (a == b) else bif op == 7 then tInt (decide (a < b)) else restV a b
def operV (op a b : Int) : Int := bif opOk op && (numB a && numB b) then operF op a b else 0
def neuF (op : Int) : Int := [0, 0, 1, 1000000, -1000000, 1, 0, 0].getD (op - 1).toNat 0
def neuV (op : Int) : Int := bif opOk op then neuF op else 0
theorem opOk_cases {op : Int} (h : opOk op = true) : op = 1 ∨ op = 2 ∨ op = 3 ∨ op = 4 ∨ op = 5 ∨ op = 6 ∨ op = 7 ∨ op = 8 := by
  simp only [opOk, Bool.and_eq_true, decide_eq_true_eq] at h
  omega
theorem opOk_no {op : Int} (h : opOk op = false) : op < 1 ∨ 8 < op := by
  simp only [opOk, Bool.and_eq_false_iff, decide_eq_false_iff_not] at h
  omega
theorem lim_spec (n : Int) : maxI (-1000000) (minI 1000000 n) = limV n := by
  unfold limV maxI minI
  repeat' split
  all_goals omega
theorem lim_bd (n : Int) : -1000000 ≤ limV n ∧ limV n ≤ 1000000 := by
  unfold limV maxI minI
  repeat' split
  all_goals omega
end Go.Ab
namespace Go.Ab
def bytesB (bs : List Int) : Bool := bs.all fun b => decide (0 ≤ b) && decide (b ≤ 255)
def rdOk (bs : List Int) (p : Int) : Bool := decide (0 ≤ p) && decide (p ≤ 1073741824) && decide (bs.length ≤ 2000) && bytesB bs
def cutC (bs : List Int) : List Int := bif decide (((bs.length : Nat) : Int) > 2000) then (bs.drop 0).take (2000 - 0) else bs
def mixX (v w k l : Int) : Int := IntKind.wrap .i64 (IntKind.wrap .i64 (IntKind.wrap .i64 (IntKind.wrap .i64 (IntKind.wrap .i64 v * 131) + IntKind.wrap .i64 (IntKind.wrap .i64 w * 1117)) + IntKind.wrap .i64 (k * 29)) + IntKind.wrap .i64 (IntKind.wrap .i64 (Int.tdiv k l) * 53))
def xorV (x : Int) : Int := IntKind.wrap .i64 ((BitVec.ofInt (IntKind.bits .i64) x ^^^ BitVec.ofInt (IntKind.bits .i64) (IntKind.wrap .i64 (Int.tdiv x 64))).toNat : Int)
def pickV (bs : List Int) (p n : Int) : Int :=
  bif decide (n < 1) then 0 else bif ((bs.length : Nat) : Int) == 0 then 0 else bif decide (p < ((bs.length : Nat) : Int)) then Int.tmod (IntKind.wrap .i64 (bs.getD p.toNat 0)) n else
  Int.tmod (xorV (mixX (bs.getD (Int.tmod p ((bs.length : Nat) : Int)).toNat 0) (bs.getD (Int.tmod (IntKind.wrap .i64 (IntKind.wrap .i64 (p * 7) + 3)) ((bs.length : Nat) : Int)).toNat 0) p ((bs.length : Nat) : Int))) n
def oneV (bs : List Int) (p : Int) (xs : List Int) : Int := xs.getD (pickV bs p ((xs.length : Nat) : Int)).toNat 0
def someL : List Int := [0, 1, 2, 3, -1, 5, 7, -4, 1000000, -1000000, 10, 1]
def anyNumV (bs : List Int) (p : Int) : Int := bif pickV bs p 12 == 0 then oneV bs (p + 1) [1000001, -1000001] else oneV bs (p + 1) someL
def anyOpV (bs : List Int) (p : Int) : Int := bif pickV bs p 16 == 0 then oneV bs (p + 1) [0, 9, -1] else IntKind.wrap .i64 (1 + pickV bs (p + 1) 8)
def dOp (bs : List Int) : Int := anyOpV (cutC bs) 0
def dA (bs : List Int) : Int := anyNumV (cutC bs) (0 + 2)
def dB (bs : List Int) : Int := anyNumV (cutC bs) (0 + 2 + 2)
def dNeu (bs : List Int) : Int := anyOpV (cutC bs) 0

theorem beq0 {n : Nat} (h : n ≠ 0) : (((n : Nat) : Int) == 0) = false := by simp [h]
theorem rdOk_inv {bs : List Int} {p : Int} (h : rdOk bs p = true) : 0 ≤ p ∧ p ≤ 1073741824 ∧ bs.length ≤ 2000 ∧ bytesB bs = true := by
  simp only [rdOk, Bool.and_eq_true, decide_eq_true_eq] at h
  exact ⟨h.1.1.1, h.1.1.2, h.1.2, h.2⟩
theorem bytes_get {bs : List Int} (h : bytesB bs = true) (i : Nat) : 0 ≤ bs.getD i 0 ∧ bs.getD i 0 ≤ 255 := by
  by_cases hi : i < bs.length
  · have := List.all_eq_true.1 h bs[i] (List.getElem_mem hi)
    simp only [Bool.and_eq_true, decide_eq_true_eq] at this
    simpa [hi] using this
  · simp [Nat.le_of_not_lt hi]
theorem bytes_take {bs : List Int} (h : bytesB bs = true) (n m : Nat) : bytesB ((bs.drop n).take m) = true := by
  unfold bytesB at *
  rw [List.all_eq_true] at *
  exact fun x hx => h x (List.mem_of_mem_drop (List.mem_of_mem_take hx))
theorem cut_ok {bs : List Int} (h : bytesB bs = true) {p : Int} (h0 : 0 ≤ p) (h1 : p ≤ 1073741824) : rdOk (cutC bs) p = true := by
  unfold rdOk cutC
  by_cases hl : ((bs.length : Nat) : Int) > 2000
  · rw [decide_eq_true hl, cond_true, bytes_take h, decide_eq_true h0, decide_eq_true h1, decide_eq_true (p := ((bs.drop 0).take (2000 - 0)).length ≤ 2000) (by simp; omega)]
    rfl
  · rw [decide_eq_false hl, cond_false, h, decide_eq_true h0, decide_eq_true h1, decide_eq_true (p := bs.length ≤ 2000) (by omega)]
    rfl
theorem tmod_bd {x n : Int} (hx : 0 ≤ x) (hn : 0 < n) : 0 ≤ Int.tmod x n ∧ Int.tmod x n < n := ⟨Int.tmod_nonneg n hx, Int.tmod_lt_of_pos x hn⟩
theorem xorV_nonneg {x : Int} (h0 : 0 ≤ x) (h1 : x < 1099511627776) : 0 ≤ xorV x := by
  unfold xorV
  have hy : 0 ≤ Int.tdiv x 64 ∧ Int.tdiv x 64 ≤ x := by
    rw [Int.tdiv_eq_ediv_of_nonneg h0]
    omega
  rw [wS (x := Int.tdiv x 64) (by omega) (by omega)]
  have hb : ∀ y : Int, 0 ≤ y → y < 1099511627776 → (BitVec.ofInt (IntKind.bits .i64) y).toNat < 2 ^ 40 := fun y g0 g1 => by
    rw [BitVec.toNat_ofInt]
    have : ((2 ^ IntKind.bits .i64 : Nat) : Int) = 18446744073709551616 := by rfl
    rw [this]
    omega
  have hx := Nat.xor_lt_two_pow (hb x h0 h1) (hb (Int.tdiv x 64) (by omega) (by omega))
  rw [BitVec.toNat_xor]
  generalize (BitVec.ofInt (IntKind.bits .i64) x).toNat ^^^ (BitVec.ofInt (IntKind.bits .i64) (Int.tdiv x 64)).toNat = z at hx
  rw [wS (x := (z : Int)) (by omega) (by omega)]
  omega
theorem mixX_bd {v w k l : Int} (hv : 0 ≤ v ∧ v ≤ 255) (hw : 0 ≤ w ∧ w ≤ 255) (hk : 0 ≤ k ∧ k ≤ 1073741824) (hl : 0 < l) : 0 ≤ mixX v w k l ∧ mixX v w k l < 1099511627776 := by
  unfold mixX
  have hq : 0 ≤ Int.tdiv k l ∧ Int.tdiv k l ≤ k := by
    rw [Int.tdiv_eq_ediv_of_nonneg hk.1]
    exact ⟨Int.ediv_nonneg hk.1 (by omega), Int.ediv_le_self _ hk.1⟩
  rw [wS (x := v) (by omega) (by omega), wS (x := w) (by omega) (by omega), wS (x := v * 131) (by omega) (by omega), wS (x := w * 1117) (by omega) (by omega), wS (x := v * 131 + w * 1117) (by omega) (by omega), wS (x := k * 29) (by omega) (by omega),
    wS (x := v * 131 + w * 1117 + k * 29) (by omega) (by omega), wS (x := Int.tdiv k l) (by omega) (by omega), wS (x := Int.tdiv k l * 53) (by omega) (by omega), wS (x := v * 131 + w * 1117 + k * 29 + Int.tdiv k l * 53) (by omega) (by omega)]
  omega
theorem pick_bd {bs : List Int} {p n : Int} (h : rdOk bs p = true) (hn : 1 ≤ n) : 0 ≤ pickV bs p n ∧ pickV bs p n < n := by
  obtain ⟨h0, h1, h2, h3⟩ := rdOk_inv h
  unfold pickV
  rw [decide_eq_false (p := n < 1) (by omega), cond_false]
  by_cases hL : bs.length = 0
  · rw [hL]; simp; omega
  · rw [beq0 hL, cond_false]
    by_cases hp : p < ((bs.length : Nat) : Int)
    · rw [decide_eq_true hp, cond_true]
      have := bytes_get h3 p.toNat
      rw [wS (x := bs.getD p.toNat 0) (by omega) (by omega)]
      exact tmod_bd this.1 (by omega)
    · rw [decide_eq_false hp, cond_false]
      have hm := mixX_bd (bytes_get h3 (Int.tmod p ((bs.length : Nat) : Int)).toNat) (bytes_get h3 (Int.tmod (IntKind.wrap .i64 (IntKind.wrap .i64 (p * 7) + 3)) ((bs.length : Nat) : Int)).toNat) ⟨h0, h1⟩ (show (0 : Int) < ((bs.length : Nat) : Int) by omega)
      exact tmod_bd (xorV_nonneg hm.1 hm.2) (by omega)
theorem getD_all {P : Int → Prop} {xs : List Int} (h0 : P 0) (h : ∀ x ∈ xs, P x) (i : Nat) : P (xs.getD i 0) := by
  by_cases hi : i < xs.length
  · simpa [hi] using h xs[i] (List.getElem_mem hi)
  · simpa [Nat.le_of_not_lt hi] using h0
theorem anyNum_bd (bs : List Int) (p : Int) : -1000001 ≤ anyNumV bs p ∧ anyNumV bs p ≤ 1000001 := by
  unfold anyNumV oneV
  cases pickV bs p 12 == 0
  · exact getD_all (P := fun x => -1000001 ≤ x ∧ x ≤ 1000001) (by omega) (by simp [someL]) _
  · exact getD_all (P := fun x => -1000001 ≤ x ∧ x ≤ 1000001) (by omega) (by simp) _
end Go.Ab
namespace Go.Ab
/-- The rest that is not negative. -/
theorem modV_eq {b a : Int} (ha : 0 < a) (ha2 : a ≤ 1000000) (hb : -1000001 ≤ b) (hb2 : b ≤ 1000001) : modV b a = b % a := by
  unfold modV
  have h1 : (Int.tmod b a).natAbs = b.natAbs % a.natAbs := Int.natAbs_tmod b a
  have h2 : b.natAbs % a.natAbs < a.natAbs := Nat.mod_lt _ (by omega)
  rw [wS (x := Int.tmod b a + a) (by omega) (by omega)]
  rw [Int.tmod_eq_emod_of_nonneg (by omega), Int.add_emod_right]
  have h3 : (Int.tmod b a) % a = b % a := by
    rw [Int.tmod_def, Int.sub_emod, Int.mul_emod_right, Int.sub_zero, Int.emod_emod_of_dvd _ (Int.dvd_refl a)]
  exact h3
theorem mul_bd {a b : Int} (ha : -1000000 ≤ a) (ha' : a ≤ 1000000) (hb : -1000000 ≤ b) (hb' : b ≤ 1000000) : -1000000000000 ≤ a * b ∧ a * b ≤ 1000000000000 := by
  have h : (a * b).natAbs = a.natAbs * b.natAbs := Int.natAbs_mul a b
  have h2 : a.natAbs * b.natAbs ≤ 1000000 * 1000000 := Nat.mul_le_mul (by omega) (by omega)
  omega
theorem numB_inv {v : Int} (h : numB v = true) : -1000000 ≤ v ∧ v ≤ 1000000 := by simpa [numB] using h
theorem numB_of {v : Int} (h : -1000000 ≤ v ∧ v ≤ 1000000) : numB v = true := by simp [numB, h]
/-- Results of functions are numbers. -/
theorem operF_bd {op a b : Int} (ho : opOk op = true) (ha : numB a = true) (hb : numB b = true) : -1000000 ≤ operF op a b ∧ operF op a b ≤ 1000000 := by
  have ha := numB_inv ha
  have hb := numB_inv hb
  rcases opOk_cases ho with rfl | rfl | rfl | rfl | rfl | rfl | rfl | rfl
  · exact lim_bd _
  · exact lim_bd _
  · exact lim_bd _
  · show -1000000 ≤ minI a b ∧ minI a b ≤ 1000000
    unfold minI; split <;> omega
  · show -1000000 ≤ maxI a b ∧ maxI a b ≤ 1000000
    unfold maxI; split <;> omega
  · show -1000000 ≤ tInt (a == b) ∧ tInt (a == b) ≤ 1000000
    unfold tInt; cases a == b <;> simp
  · show -1000000 ≤ tInt (decide (a < b)) ∧ tInt (decide (a < b)) ≤ 1000000
    unfold tInt; cases decide (a < b) <;> simp
  · show -1000000 ≤ restV a b ∧ restV a b ≤ 1000000
    unfold restV
    by_cases h : a ≤ 0
    · rw [decide_eq_true h]; exact hb
    · rw [decide_eq_false h, cond_false, modV_eq (by omega) ha.2 (by omega) (by omega)]
      have := Int.emod_nonneg b (show a ≠ 0 by omega)
      have := Int.emod_lt_of_pos b (show 0 < a by omega)
      omega
theorem operV_bd (op a b : Int) : -1000000 ≤ operV op a b ∧ operV op a b ≤ 1000000 := by
  unfold operV
  cases h : opOk op && (numB a && numB b) with
  | false => simp
  | true =>
    simp only [Bool.and_eq_true] at h
    exact operF_bd h.1 h.2.1 h.2.2
def evenOp (op : Int) : Bool := (op == 1) || (op == 3) || (op == 4) || (op == 5) || (op == 6)
theorem operV_comm {op : Int} (h : op = 1 ∨ op = 3 ∨ op = 4 ∨ op = 5 ∨ op = 6) (a b : Int) : operV op b a = operV op a b := by
  unfold operV
  rw [Bool.and_comm (numB b)]
  congr 1
  rcases h with rfl | rfl | rfl | rfl | rfl
  · show limV (IntKind.wrap .i64 (b + a)) = limV (IntKind.wrap .i64 (a + b)); rw [Int.add_comm]
  · show limV (IntKind.wrap .i64 (b * a)) = limV (IntKind.wrap .i64 (a * b)); rw [Int.mul_comm]
  · show minI b a = minI a b; unfold minI; split <;> split <;> omega
  · show maxI b a = maxI a b; unfold maxI; split <;> split <;> omega
  · show tInt (b == a) = tInt (a == b); rw [BEq.comm]
end Go.Ab
namespace Go.Ab
theorem bytes_of {bs : List Int} (h : ∀ n ∈ bs, 0 ≤ n ∧ n ≤ 255) : bytesB bs = true := by
  unfold bytesB
  rw [List.all_eq_true]
  intro x hx
  simp [h x hx]
end Go.Ab
namespace Go.Ab
def ravS (sh da : List Int) : List Int := bif validA sh da then [((da.length : Nat) : Int)] else []
def ravD (sh da : List Int) : List Int := bif validA sh da then da else []
def reD (sh da : List Int) : List Int := tab (volW sh).toNat fun i => da.getD (i % da.length) 0
def reshB (sh s2 da : List Int) : Bool := validS sh && validA s2 da
def reshS (sh s2 da : List Int) : List Int := bif reshB sh s2 da then sh else []
def reshD (sh s2 da : List Int) : List Int := bif reshB sh s2 da then reD sh da else []
def sgnV (n : Int) : Int := bif decide (n < 0) then -1 else bif decide (n > 0) then 1 else 0
def fnOk (fn : Int) : Bool := decide (1 ≤ fn) && decide (fn ≤ 4)
def mapF (fn n : Int) : Int := bif fn == 1 then IntKind.wrap .i64 (0 - n) else bif fn == 2 then absV n else bif fn == 3 then sgnV n else tInt (n == 0)
def mapB (fn : Int) (sh da : List Int) : Bool := fnOk fn && validA sh da
def mapS (fn : Int) (sh da : List Int) : List Int := bif mapB fn sh da then sh else []
def mapD (fn : Int) (sh da : List Int) : List Int := bif mapB fn sh da then tab da.length fun i => mapF fn (da.getD i 0) else []
theorem vecOk_of {sh da : List Int} (h : validA sh da = true) : vecOk da = true := by
  obtain ⟨_, _, h3⟩ := validA_inv h
  obtain ⟨_, l2⟩ := validA_len h
  simp [vecOk, l2, h3]
theorem vol_bd {sh : List Int} (h : validS sh = true) : 0 ≤ volW sh ∧ volW sh ≤ 60 := by
  have h3 := (validS_inv h).2.2
  refine ⟨?_, h3⟩
  rcases validS_cases h with rfl | ⟨a, rfl, a0, a1⟩ | ⟨a, b, rfl, a0, a1, b0, b1, v⟩ | ⟨a, b, c, rfl, a0, a1, b0, b1, c0, c1, v⟩
  · decide
  · simp only [volW, volFrom, Int.one_mul, wS (x := a) (by omega) (by omega)]; exact a0
  · have hm := mul60 a0 a1 b0 b1
    simp only [volW, volFrom, Int.one_mul, wS (x := a) (by omega) (by omega), wS (x := a * b) (by omega) (by omega)]; omega
  · have hm := mul60 a0 a1 b0 b1
    have hm3 := mul3600 hm.1 hm.2 c0 c1
    simp only [volW, volFrom, Int.one_mul, wS (x := a) (by omega) (by omega), wS (x := a * b) (by omega) (by omega), wS (x := a * b * c) (by omega) (by omega)]; omega
theorem rav_len (sh da : List Int) : (ravS sh da).length ≤ 1 ∧ (ravD sh da).length ≤ 60 := by
  unfold ravS ravD
  cases h : validA sh da with
  | false => simp
  | true => have := validA_len h; simp; omega
theorem resh_len (sh s2 da : List Int) : (reshS sh s2 da).length ≤ 3 ∧ (reshD sh s2 da).length ≤ 60 := by
  unfold reshS reshD
  cases h : reshB sh s2 da with
  | false => simp
  | true =>
    simp only [reshB, Bool.and_eq_true] at h
    have h1 := vol_bd h.1
    have h2 := (validS_inv h.1).1
    simp only [cond_true, reD, tab_length]
    omega
theorem map_len (fn : Int) (sh da : List Int) : (mapS fn sh da).length ≤ 3 ∧ (mapD fn sh da).length ≤ 60 := by
  unfold mapS mapD
  cases h : mapB fn sh da with
  | false => simp
  | true =>
    simp only [mapB, Bool.and_eq_true] at h
    have := validA_len h.2
    simp only [cond_true, tab_length]
    omega
theorem fnOk_cases {fn : Int} (h : fnOk fn = true) : fn = 1 ∨ fn = 2 ∨ fn = 3 ∨ fn = 4 := by
  simp only [fnOk, Bool.and_eq_true, decide_eq_true_eq] at h
  omega
theorem fnOk_no {fn : Int} (h : fnOk fn = false) : fn < 1 ∨ 4 < fn := by
  simp only [fnOk, Bool.and_eq_false_iff, decide_eq_false_iff_not] at h
  omega
end Go.Ab
namespace Go.Ab
def cmpV (x y : Int) : Int := bif decide (x < y) then -1 else bif decide (x > y) then 1 else 0
theorem sgn_cmp (n : Int) : cmpV n 0 = sgnV n := rfl
theorem sgn_sub (n : Int) : IntKind.wrap .i64 (tInt (decide (n > 0)) - tInt (decide (n < 0))) = sgnV n := by
  unfold sgnV tInt
  by_cases h : n < 0
  · rw [decide_eq_true h, decide_eq_false (p := n > 0) (by omega)]; rfl
  · rw [decide_eq_false h]
    cases decide (n > 0) <;> rfl
end Go.Ab
namespace Go.Ab
def fitB (s1 s2 : List Int) : Bool := bif decide (s1.length = 0) then true else bif decide (s2.length = 0) then true else decide (s1 = s2)
def cS (s1 s2 : List Int) : List Int := bif decide (s1.length = 0) then s2 else s1
def cD (op : Int) (s1 d1 s2 d2 : List Int) : List Int := tab (volW (cS s1 s2)).toNat fun i => operF op (d1.getD (min i (d1.length - 1)) 0) (d2.getD (min i (d2.length - 1)) 0)
def comB (op : Int) (s1 d1 s2 d2 : List Int) : Bool := opOk op && validA s1 d1 && validA s2 d2 && fitB s1 s2
def comS (op : Int) (s1 d1 s2 d2 : List Int) : List Int := bif comB op s1 d1 s2 d2 then cS s1 s2 else []
def comD (op : Int) (s1 d1 s2 d2 : List Int) : List Int := bif comB op s1 d1 s2 d2 then cD op s1 d1 s2 d2 else []
end Go.Ab
namespace Go.Ab
theorem re_get {da : List Int} {j : Nat} (hd : ((da.length : Nat) : Int) ≠ 0) : idx (Int.tmod (j : Int) ((da.length : Nat) : Int)) da.length = some (j % da.length) ∧ da[j % da.length]? = some (da.getD (j % da.length) 0) := by
  have hlt : j % da.length < da.length := Nat.mod_lt _ (by omega)
  have e : Int.tmod (j : Int) ((da.length : Nat) : Int) = ((j % da.length : Nat) : Int) := by
    rw [Int.tmod_eq_emod_of_nonneg (by omega)]
    rfl
  rw [e, idx_nat hlt]
  exact ⟨rfl, by simp [hlt]⟩
theorem szA_le {sh da : List Int} {k : Int} (k0 : 0 ≤ k) (k1 : k ≤ 1048576) (h1 : sh.length < 9223372036854775808) (h2 : da.length < 9223372036854775808) (h : ¬ szA sh da k < 0) : ((sh.length : Nat) : Int) + ((da.length : Nat) : Int) ≤ k ∧ szA sh da k = k - ((sh.length : Nat) : Int) - ((da.length : Nat) : Int) := by
  unfold szA at h ⊢
  rw [szI_small (by omega) (by omega) h1] at h ⊢
  by_cases ha : k < ((sh.length : Nat) : Int)
  · simp [ha] at h
  · simp only [ha, decide_false, cond_false] at h ⊢
    have hneg : ¬ (k - ((sh.length : Nat) : Int) < 0) := by omega
    rw [szI_small (by omega) (by omega) h2] at h ⊢
    by_cases hb : (k - ((sh.length : Nat) : Int)) < ((da.length : Nat) : Int)
    · simp only [hb, decide_true, cond_true] at h
      simp [hneg] at h
    · have hneg2 : ¬ (k - ((sh.length : Nat) : Int) - ((da.length : Nat) : Int) < 0) := by omega
      simp only [hb, hneg, hneg2, decide_false, cond_false]
      exact ⟨by omega, trivial⟩
theorem mark4_ok {xs ys zs ws : List Int} (h1 : xs.length ≤ 1099511627776) (h2 : ys.length ≤ 1099511627776) (h3 : zs.length ≤ 1099511627776) (h4 : ws.length ≤ 1099511627776) : decide (markK ws (markK zs (markK ys (markK xs 1))) < 0) = false := by
  rw [markK_eq xs 1 (by omega) (by omega), markK_eq ys _ (by omega) (by omega), markK_eq zs _ (by omega) (by omega), markK_eq ws _ (by omega) (by omega)]
  exact decide_eq_false (by omega)
theorem len0 {xs : List Int} : (((xs.length : Nat) : Int) == 0) = decide (xs.length = 0) := by
  by_cases h : xs.length = 0
  · simp [h]
  · rw [decide_eq_false h]
    simpa using h
theorem rep_len (n : Nat) : (List.replicate ((n : Nat) : Int).toNat (0 : Int)).length = n := by simp
theorem sc_len {d : List Int} (h : validA [] d = true) : d.length = 1 := by
  have := (validA_inv h).2.1
  have e : volW [] = 1 := rfl
  omega
theorem vol_len {sh da : List Int} (h : validA sh da = true) : (volW sh).toNat = da.length := by
  have := (validA_inv h).2.1
  omega
theorem resh_sc {sh s2 da d : List Int} (h : validA [] d = true) (hs : validA s2 da = true) (e : sh = []) : reshS s2 sh d = s2 ∧ reshD s2 sh d = tab da.length fun _ => d.getD 0 0 := by
  subst e
  have hv := (validA_inv hs).1
  refine ⟨by simp [reshS, reshB, h, hv], ?_⟩
  simp only [reshD, reshB, h, hv, Bool.and_self, cond_true, reD, vol_len hs, sc_len h, Nat.mod_one]
theorem cD_a (op : Int) {d1 s2 d2 : List Int} (h1 : validA [] d1 = true) (h2 : validA s2 d2 = true) : tab d2.length (fun i => operF op ((reshD s2 [] d1).getD i 0) (d2.getD i 0)) = cD op [] d1 s2 d2 := by
  rw [(resh_sc h1 h2 rfl).2]
  simp only [cD, cS, List.length_nil, decide_true, cond_true, vol_len h2]
  refine tab_congr fun i hi => ?_
  rw [tab_getD hi, sc_len h1, show min i (d2.length - 1) = i by omega, show min i (1 - 1) = 0 by omega]
theorem cD_b (op : Int) {s1 d1 d2 : List Int} (h1 : validA s1 d1 = true) (h2 : validA [] d2 = true) (hn : s1.length ≠ 0) : tab d1.length (fun i => operF op (d1.getD i 0) ((reshD s1 [] d2).getD i 0)) = cD op s1 d1 [] d2 := by
  rw [(resh_sc h2 h1 rfl).2]
  simp only [cD, cS, decide_eq_false hn, cond_false, vol_len h1]
  refine tab_congr fun i hi => ?_
  rw [tab_getD hi, sc_len h2, show min i (d1.length - 1) = i by omega, show min i (1 - 1) = 0 by omega]
theorem cD_c (op : Int) {s1 d1 d2 : List Int} (h1 : validA s1 d1 = true) (h2 : validA s1 d2 = true) (hn : s1.length ≠ 0) : tab d1.length (fun i => operF op (d1.getD i 0) (d2.getD i 0)) = cD op s1 d1 s1 d2 := by
  have e1 := vol_len h1
  have e2 := vol_len h2
  simp only [cD, cS, decide_eq_false hn, cond_false, e1]
  refine tab_congr fun i hi => ?_
  rw [show min i (d1.length - 1) = i by omega, show min i (d2.length - 1) = i by omega]
theorem com_len (op : Int) (s1 d1 s2 d2 : List Int) : (comS op s1 d1 s2 d2).length ≤ 3 ∧ (comD op s1 d1 s2 d2).length ≤ 60 := by
  unfold comS comD
  cases h : comB op s1 d1 s2 d2 with
  | false => simp
  | true =>
    simp only [comB, Bool.and_eq_true] at h
    have l1 := validA_len h.1.1.2
    have l2 := validA_len h.1.2
    have e1 := vol_len h.1.1.2
    have e2 := vol_len h.1.2
    simp only [cond_true, cD, tab_length, cS]
    cases decide (s1.length = 0) <;> simp <;> omega
/-- What the program's Combine does around its three loops. -/
def cBody {R : Type} (s1 d1 s2 d2 : List Int) (z l0 l1 l2 : Option R) : Option R :=
  (bif decide (s1.length < 9223372036854775808) && decide (d1.length < 9223372036854775808) then
  (bif (!(validA s1 d1)) then z else
  (bif decide (s2.length < 9223372036854775808) && decide (d2.length < 9223372036854775808) then
  (bif (!(validA s2 d2)) then z else
  (bif ((((s1.length : Nat) : Int) : Int) == 0) then
  (bif decide (s2.length < 9223372036854775808) && decide (s1.length < 9223372036854775808) && decide (d1.length < 9223372036854775808) then
  (bif decide (((reshS s2 s1 d1)).length < 9223372036854775808) && decide (s2.length < 9223372036854775808) then
  (bif (!(decide (((reshS s2 s1 d1)) = s2))) then z else
  (bif decide (0 ≤ ((((reshD s2 s1 d1).length : Nat) : Int) : Int)) && decide (((((reshD s2 s1 d1).length : Nat) : Int) : Int) ≤ (((reshD s2 s1 d1).length : Nat) : Int)) && decide (((((reshD s2 s1 d1).length : Nat) : Int) : Int) ≤ 1152921504606846976) && decide (((8 : Nat) : Int) * (((reshD s2 s1 d1).length : Nat) : Int) ≤ 281474976710656) then l0 else none))
  else none) else none)
  else
  (bif ((((s2.length : Nat) : Int) : Int) == 0) then
  (bif decide (s1.length < 9223372036854775808) && decide (s2.length < 9223372036854775808) && decide (d2.length < 9223372036854775808) then
  (bif decide (s1.length < 9223372036854775808) && decide (((reshS s1 s2 d2)).length < 9223372036854775808) then
  (bif (!(decide (s1 = ((reshS s1 s2 d2))))) then z else
  (bif decide (0 ≤ (((d1.length : Nat) : Int) : Int)) && decide ((((d1.length : Nat) : Int) : Int) ≤ ((d1.length : Nat) : Int)) && decide ((((d1.length : Nat) : Int) : Int) ≤ 1152921504606846976) && decide (((8 : Nat) : Int) * ((d1.length : Nat) : Int) ≤ 281474976710656) then l1 else none))
  else none) else none)
  else
  (bif decide (s1.length < 9223372036854775808) && decide (s2.length < 9223372036854775808) then
  (bif (!(decide (s1 = s2))) then z else
  (bif decide (0 ≤ (((d1.length : Nat) : Int) : Int)) && decide ((((d1.length : Nat) : Int) : Int) ≤ ((d1.length : Nat) : Int)) && decide ((((d1.length : Nat) : Int) : Int) ≤ 1152921504606846976) && decide (((8 : Nat) : Int) * ((d1.length : Nat) : Int) ≤ 281474976710656) then l2 else none))
  else none))))
  else none))
  else none)
theorem cBody_ok {R : Type} {op : Int} {s1 d1 s2 d2 : List Int} {z l0 l1 l2 r : Option R} (ho : opOk op = true)
    (h1 : decide (s1.length < 9223372036854775808) = true) (h2 : decide (d1.length < 9223372036854775808) = true) (h3 : decide (s2.length < 9223372036854775808) = true) (h4 : decide (d2.length < 9223372036854775808) = true)
    (hz : comB op s1 d1 s2 d2 = false → z = r)
    (ha : validA s1 d1 = true → validA s2 d2 = true → s1 = [] → l0 = r)
    (hb : validA s1 d1 = true → validA s2 d2 = true → s1.length ≠ 0 → s2 = [] → l1 = r)
    (hc : validA s1 d1 = true → validA s2 d2 = true → s1.length ≠ 0 → s1 = s2 → l2 = r) :
    cBody s1 d1 s2 d2 z l0 l1 l2 = r := by
  unfold cBody
  simp only [h1, h2, h3, h4, Bool.and_self, Bool.true_and, Bool.and_true, cond_true, len0]
  cases v1 : validA s1 d1 with
  | false => exact hz (by simp [comB, v1])
  | true =>
    cases v2 : validA s2 d2 with
    | false => exact hz (by simp [comB, v2])
    | true =>
      have b1 := validA_len v1
      simp only [Bool.not_true, cond_false]
      by_cases e1 : s1.length = 0
      · have e1' := List.length_eq_zero_iff.mp e1
        have hr := resh_sc (e1' ▸ v1) v2 e1'
        have b2 := resh_len s2 s1 d1
        rw [decide_eq_true e1, cond_true, decide_eq_true (p := (reshS s2 s1 d1).length < 9223372036854775808) (by omega), cond_true, decide_eq_true hr.1, mkOk (by omega) (by omega)]
        exact ha v1 v2 e1'
      · rw [decide_eq_false e1, cond_false]
        by_cases e2 : s2.length = 0
        · have e2' := List.length_eq_zero_iff.mp e2
          have hr := resh_sc (e2' ▸ v2) v1 e2'
          have b2 := resh_len s1 s2 d2
          rw [decide_eq_true e2, cond_true, decide_eq_true (p := (reshS s1 s2 d2).length < 9223372036854775808) (by omega), cond_true, decide_eq_true hr.1.symm, mkOk (by omega) (by omega)]
          exact hb v1 v2 e1 e2'
        · rw [decide_eq_false e2, cond_false]
          by_cases e3 : s1 = s2
          · rw [decide_eq_true e3, mkOk (by omega) (by omega)]
            exact hc v1 v2 e1 e3
          · rw [decide_eq_false e3]
            exact hz (by simp [comB, fitB, e1, e2, e3])
end Go.Ab
